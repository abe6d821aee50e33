/-
  The document's own joins (hornbookref08).
-/
import Derived.Test.YtkkochjdimegpaaRefDest2
import Derived.Test.YtkkochjdimegpaaDestSame
import Derived.Handy
namespace Go.Proofs.Ytkkochjdimegpaa
open Go.RowKit
attribute [local go_sem ↓] Go.wp_at_zero Go.wp_at_succ

set_option maxRecDepth 100000 in
set_option maxHeartbeats 8000000 in
theorem rDjoins_any (a b : Me) (w : World) (hua : Un w a.a a.c a.b.u) (hub : Un w b.a b.c b.b.u) (ha : Sb a.b) (hb : Sb b.b) :
    Calls Try.prog 40 #[fv a, fv b] w fun e w' => e = .returned (.bool (decide (jnB a.b b.b))) ∧ Below w.heap.size w w' := by
  have hb0 : Below w.heap.size w ((w.alloc (.cells #[.int .i64 a.b.n, .int .i64 a.b.lo, .int .i64 a.b.hi, .slice a.a a.b.u.length a.c] 25)).alloc (.cells #[.int .i64 b.b.n, .int .i64 b.b.lo, .int .i64 b.b.hi, .slice b.a b.b.u.length b.c] 25)) := ((Below.refl _ _).alloc (Nat.le_refl _) _).alloc (by simp) _
  have xa : Fb ((w.alloc (.cells #[.int .i64 a.b.n, .int .i64 a.b.lo, .int .i64 a.b.hi, .slice a.a a.b.u.length a.c] 25)).alloc (.cells #[.int .i64 b.b.n, .int .i64 b.b.lo, .int .i64 b.b.hi, .slice b.a b.b.u.length b.c] 25)) w.heap.size a := ⟨by simp, by simp, by simp, by simp⟩
  have xb : Fb ((w.alloc (.cells #[.int .i64 a.b.n, .int .i64 a.b.lo, .int .i64 a.b.hi, .slice a.a a.b.u.length a.c] 25)).alloc (.cells #[.int .i64 b.b.n, .int .i64 b.b.lo, .int .i64 b.b.hi, .slice b.a b.b.u.length b.c] 25)) (w.heap.size + 1) b := ⟨by simp, by simp, by simp, by simp⟩
  have hz0 : w.heap.size + 1 < ((w.alloc (.cells #[.int .i64 a.b.n, .int .i64 a.b.lo, .int .i64 a.b.hi, .slice a.a a.b.u.length a.c] 25)).alloc (.cells #[.int .i64 b.b.n, .int .i64 b.b.lo, .int .i64 b.b.hi, .slice b.a b.b.u.length b.c] 25)).heap.size := by simp
  obtain ⟨R, hR⟩ : ∃ R, R = decide (jnB a.b b.b) := ⟨_, rfl⟩
  rw [← hR]
  have HR := Lib.hid hR
  have HGL : (goB a.b b.b.lo).length = a.b.u.length := addU_length _ _
  have p1 := saneB_top ha.1
  have p2 := saneB_top ha.2.1
  have q1 := saneB_top hb.1
  have hla := ha.2.2.2.1.last
  have hla64 := ha.2.2.2.1.2.1
  have hlb64 := hb.2.2.2.1.2.1
  have hla1 := ha.2.2.2.1.1
  have hsub : IntKind.i64.wrap (b.b.lo - a.b.lo) = b.b.lo - a.b.lo := IntWalk.i64_in _ (by omega)
  have hadd : IntKind.i64.wrap (a.b.hi + 1) = a.b.hi + 1 := IntWalk.i64_in _ (by omega)
  have KF : Hid (∀ W, Below w.heap.size w W → Calls Try.prog 30 #[.slice a.a a.b.u.length a.c, .int .i64 (b.b.lo - a.b.lo)] W fun e w' => ∃ A C, e = .returned (.slice A a.b.u.length C) ∧ Si w' w'.heap.size A (goB a.b b.b.lo) ∧ Below W.heap.size W w') := Lib.hid fun W hW => by
    refine (further_any a.a a.c a.b.u (b.b.lo - a.b.lo) W (hua.over hW) (by omega) (by omega) (by omega) (by omega)).mono ?_
    rintro e w' ⟨v, rfl, hown, hbel⟩
    obtain ⟨A, C, rfl, hut, _⟩ := Ut.of_own hown
    exact ⟨A, C, by rw [addU_length], hut.un.si, hbel⟩
  have KS : Hid (∀ W A C, Below w.heap.size w W → Si W W.heap.size A (goB a.b b.b.lo) → Calls Try.prog 18 #[.slice b.a b.b.u.length b.c, .slice A a.b.u.length C] W fun e w' => e = .returned (.bool (decide (b.b.u = goB a.b b.b.lo))) ∧ Below W.heap.size W w') := Lib.hid fun W A C hW hA => by
    refine (iSame_any b.a A b.c C b.b.u.length a.b.u.length b.b.u (goB a.b b.b.lo) W rfl HGL.symm (by omega) (by omega) (hub.over hW).si hA).mono ?_
    rintro e w' ⟨rfl, k, rfl⟩
    exact ⟨rfl, below_drewN (Below.refl _ _) _⟩
  clear p1 p2 q1 hla hla64 hlb64 hla1 hR HGL hua hub ha hb
  unfold fv at *
  cases d2 : (a.b.n == b.b.n) with
  | true =>
    cases d3 : (b.b.lo == a.b.hi + 1) with
    | true =>
      have hE : R = decide (b.b.u = goB a.b b.b.lo) := by
        rw [HR.out, Bool.eq_iff_iff, decide_eq_true_eq, decide_eq_true_eq]
        exact ⟨fun h => h.2.2, fun h => ⟨by simpa using d2, by simpa using d3, h⟩⟩
      rw [← hE] at KS
      clear hE
      have HB : Hid (∀ W, Below ((w.alloc (.cells #[.int .i64 a.b.n, .int .i64 a.b.lo, .int .i64 a.b.hi, .slice a.a a.b.u.length a.c] 25)).alloc (.cells #[.int .i64 b.b.n, .int .i64 b.b.lo, .int .i64 b.b.hi, .slice b.a b.b.u.length b.c] 25)).heap.size ((w.alloc (.cells #[.int .i64 a.b.n, .int .i64 a.b.lo, .int .i64 a.b.hi, .slice a.a a.b.u.length a.c] 25)).alloc (.cells #[.int .i64 b.b.n, .int .i64 b.b.lo, .int .i64 b.b.hi, .slice b.a b.b.u.length b.c] 25)) W → Below w.heap.size w W) := Lib.hid fun W hW => hb0.trans (hW.mono (by omega))
      have HH : Hid (∀ W, Below ((w.alloc (.cells #[.int .i64 a.b.n, .int .i64 a.b.lo, .int .i64 a.b.hi, .slice a.a a.b.u.length a.c] 25)).alloc (.cells #[.int .i64 b.b.n, .int .i64 b.b.lo, .int .i64 b.b.hi, .slice b.a b.b.u.length b.c] 25)).heap.size ((w.alloc (.cells #[.int .i64 a.b.n, .int .i64 a.b.lo, .int .i64 a.b.hi, .slice a.a a.b.u.length a.c] 25)).alloc (.cells #[.int .i64 b.b.n, .int .i64 b.b.lo, .int .i64 b.b.hi, .slice b.a b.b.u.length b.c] 25)) W → (W.cell? ⟨w.heap.size, 0, none⟩ = some (.int .i64 a.b.n) ∧ W.cell? ⟨w.heap.size, 1, none⟩ = some (.int .i64 a.b.lo) ∧ W.cell? ⟨w.heap.size, 2, none⟩ = some (.int .i64 a.b.hi) ∧ W.cell? ⟨w.heap.size, 3, none⟩ = some (.slice a.a a.b.u.length a.c)) ∧ (W.cell? ⟨w.heap.size + 1, 0, none⟩ = some (.int .i64 b.b.n) ∧ W.cell? ⟨w.heap.size + 1, 1, none⟩ = some (.int .i64 b.b.lo) ∧ W.cell? ⟨w.heap.size + 1, 2, none⟩ = some (.int .i64 b.b.hi) ∧ W.cell? ⟨w.heap.size + 1, 3, none⟩ = some (.slice b.a b.b.u.length b.c))) := Lib.hid fun W hW => by
        obtain ⟨a0, a1, a2, a3⟩ := xa.below hW (by omega)
        obtain ⟨b0, b1, b2, b3⟩ := xb.below hW hz0
        rw [Nat.zero_add] at a1 a2 a3 b1 b2 b3
        exact ⟨⟨a0, a1, a2, a3⟩, b0, b1, b2, b3⟩
      have z0 : Below ((w.alloc (.cells #[.int .i64 a.b.n, .int .i64 a.b.lo, .int .i64 a.b.hi, .slice a.a a.b.u.length a.c] 25)).alloc (.cells #[.int .i64 b.b.n, .int .i64 b.b.lo, .int .i64 b.b.hi, .slice b.a b.b.u.length b.c] 25)).heap.size ((w.alloc (.cells #[.int .i64 a.b.n, .int .i64 a.b.lo, .int .i64 a.b.hi, .slice a.a a.b.u.length a.c] 25)).alloc (.cells #[.int .i64 b.b.n, .int .i64 b.b.lo, .int .i64 b.b.hi, .slice b.a b.b.u.length b.c] 25)) ((w.alloc (.cells #[.int .i64 a.b.n, .int .i64 a.b.lo, .int .i64 a.b.hi, .slice a.a a.b.u.length a.c] 25)).alloc (.cells #[.int .i64 b.b.n, .int .i64 b.b.lo, .int .i64 b.b.hi, .slice b.a b.b.u.length b.c] 25)).drew := (Below.refl _ _).drew
      clear xa xb hb0 hz0
      go_enter Try.func40, Try.ntmps40
      go_wp2_with fail
      go_region_held (fun w' => (w'.cell? ⟨w.heap.size, 0, none⟩ = some (.int .i64 a.b.n) ∧ w'.cell? ⟨w.heap.size, 1, none⟩ = some (.int .i64 a.b.lo) ∧ w'.cell? ⟨w.heap.size, 2, none⟩ = some (.int .i64 a.b.hi) ∧ w'.cell? ⟨w.heap.size, 3, none⟩ = some (.slice a.a a.b.u.length a.c)) ∧ (w'.cell? ⟨w.heap.size + 1, 0, none⟩ = some (.int .i64 b.b.n) ∧ w'.cell? ⟨w.heap.size + 1, 1, none⟩ = some (.int .i64 b.b.lo) ∧ w'.cell? ⟨w.heap.size + 1, 2, none⟩ = some (.int .i64 b.b.hi) ∧ w'.cell? ⟨w.heap.size + 1, 3, none⟩ = some (.slice b.a b.b.u.length b.c)))
        (first | with_reducible exact HH.out _ z8 | with_reducible exact HH.out _ z7 | with_reducible exact HH.out _ z0)
        (first
          | (go_at_call 30; (with_reducible refine (KF.out _ (HB.out _ z0)).mono ?_); rintro e x1 ⟨fA, fC, rfl, hfs, g1⟩; have z7 := z0.trans (g1.mono z0.size))
          | (go_at_call 18; (with_reducible refine (KS.out _ fA fC (HB.out _ z7) hfs).mono ?_); rintro e x2 ⟨rfl, g2⟩; have z8 := z7.trans (g2.mono z7.size)))
      all_goals
        go_wp2
        go_ret
        exact ⟨rfl, HB.out _ z8⟩
    | false =>
      have e : R = false := by
        rw [HR.out]
        refine decide_eq_false fun h => ?_
        rw [h.2.1] at d3
        simp at d3
      subst e
      go_enter Try.func40, Try.ntmps40
      go_wp2
      go_quiet (fail)
      go_wp2
      go_ret
      exact ⟨rfl, below_drewN hb0 _⟩
  | false =>
    have e : R = false := by
      rw [HR.out]
      refine decide_eq_false fun h => ?_
      rw [h.1] at d2
      simp at d2
    subst e
    go_enter Try.func40, Try.ntmps40
    go_wp2
    go_quiet (fail)
    go_wp2
    go_ret
    exact ⟨rfl, below_drewN hb0 _⟩
end Go.Proofs.Ytkkochjdimegpaa
