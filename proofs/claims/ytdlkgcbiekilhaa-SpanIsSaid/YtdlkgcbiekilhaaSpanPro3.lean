/-
  The program's own part, compare.
-/
import Derived.Test.YtdlkgcbiekilhaaSpanPro1
import Derived.Test.YtdlkgcbiekilhaaSpanOver
import Derived.Deep.RegionWith
namespace Go.Proofs.Ytdlkgcbiekilhaa
open Go.RowKit
attribute [local go_sem ↓] Go.wp_at_zero Go.wp_at_succ

/-- Which goes ahead: as a number. -/
def cmpS (a b : Sp) : Int := if ahS a b then -1 else if ahS b a then 1 else 0
set_option maxHeartbeats 2000000 in
theorem compare_any (a b : Sp) (w : World) :
    Calls Try.prog 30 #[sv a, sv b] w fun e w' => e = .returned (.int .i64 (cmpS a b)) ∧ Below w.heap.size w w' := by
  have K1 := Lib.hid (fun W => ahead_any a b W)
  have K2 := Lib.hid (fun W => ahead_any b a W)
  have hb0 : Below w.heap.size w ((w.alloc (.cells #[.int .i64 a.n, .int .i64 a.lo, .int .i64 a.hi, .int .i64 a.to] 24)).alloc (.cells #[.int .i64 b.n, .int .i64 b.lo, .int .i64 b.hi, .int .i64 b.to] 24)) := ((Below.refl _ _).alloc (Nat.le_refl _) _).alloc (by simp) _
  have xa : Bs ((w.alloc (.cells #[.int .i64 a.n, .int .i64 a.lo, .int .i64 a.hi, .int .i64 a.to] 24)).alloc (.cells #[.int .i64 b.n, .int .i64 b.lo, .int .i64 b.hi, .int .i64 b.to] 24)) w.heap.size a := ⟨by simp, by simp, by simp, by simp⟩
  have xb : Bs ((w.alloc (.cells #[.int .i64 a.n, .int .i64 a.lo, .int .i64 a.hi, .int .i64 a.to] 24)).alloc (.cells #[.int .i64 b.n, .int .i64 b.lo, .int .i64 b.hi, .int .i64 b.to] 24)) (w.heap.size + 1) b := ⟨by simp, by simp, by simp, by simp⟩
  have hz0 : w.heap.size + 1 < ((w.alloc (.cells #[.int .i64 a.n, .int .i64 a.lo, .int .i64 a.hi, .int .i64 a.to] 24)).alloc (.cells #[.int .i64 b.n, .int .i64 b.lo, .int .i64 b.hi, .int .i64 b.to] 24)).heap.size := by simp
  unfold cmpS
  by_cases h1 : ahS a b
  · rw [if_pos h1]
    rw [decide_eq_true h1] at K1
    clear h1
    unfold sv at *
    go_enter Try.func30, Try.ntmps30
    go_wp2_with ((go_at_call 39; refine (K1.out _).mono ?_; rintro e w3 ⟨rfl, hb3⟩))
    go_ret
    exact ⟨rfl, hb0.trans (hb3.mono (by omega))⟩
  · rw [if_neg h1]
    rw [decide_eq_false h1] at K1
    clear h1
    cases h2 : decide (ahS b a) with
    | true =>
      rw [if_pos (of_decide_eq_true h2)]
      rw [h2] at K2
      clear h2
      unfold sv at *
      go_enter Try.func30, Try.ntmps30
      go_wp2_with fail
      refine (K1.out _).mono ?_
      rintro e w1 ⟨rfl, hb1⟩
      obtain ⟨c0, c1, c2, c3⟩ := xa.below hb1 (by omega)
      obtain ⟨f0, f1, f2, f3⟩ := xb.below hb1 hz0
      rw [Nat.zero_add] at c1 c2 c3 f1 f2 f3
      go_wp2_with ((go_at_call 39; refine (K2.out _).mono ?_; rintro e w3 ⟨rfl, hb3⟩))
      go_ret
      exact ⟨rfl, (hb0.trans (hb1.mono (by omega))).trans (hb3.mono (by have := hb1.size; omega))⟩
    | false =>
      rw [if_neg (of_decide_eq_false h2)]
      rw [h2] at K2
      clear h2
      unfold sv at *
      go_enter Try.func30, Try.ntmps30
      go_wp2_with fail
      refine (K1.out _).mono ?_
      rintro e w1 ⟨rfl, hb1⟩
      obtain ⟨c0, c1, c2, c3⟩ := xa.below hb1 (by omega)
      obtain ⟨f0, f1, f2, f3⟩ := xb.below hb1 hz0
      rw [Nat.zero_add] at c1 c2 c3 f1 f2 f3
      go_wp2_with ((go_at_call 39; refine (K2.out _).mono ?_; rintro e w3 ⟨rfl, hb3⟩))
      go_ret
      exact ⟨rfl, (hb0.trans (hb1.mono (by omega))).trans (hb3.mono (by have := hb1.size; omega))⟩
/-- Four stores into one block. -/
theorem set_four {w : World} {b : Nat} {a0 a1 a2 a3 : Value} (h0 : w.cell? ⟨b, 0, none⟩ = some a0) (h1 : w.cell? ⟨b, 1, none⟩ = some a1) (h2 : w.cell? ⟨b, 2, none⟩ = some a2) (h3 : w.cell? ⟨b, 3, none⟩ = some a3) (u0 u1 u2 u3 : Value) :
    ∀ W, W = (((w.setCell ⟨b, 0, none⟩ u0).setCell ⟨b, 1, none⟩ u1).setCell ⟨b, 2, none⟩ u2).setCell ⟨b, 3, none⟩ u3 → W.cell? ⟨b, 0, none⟩ = some u0 ∧ W.cell? ⟨b, 1, none⟩ = some u1 ∧ W.cell? ⟨b, 2, none⟩ = some u2 ∧ W.cell? ⟨b, 3, none⟩ = some u3 := by
  rintro W rfl
  have ne : ∀ i j : Nat, i ≠ j → (⟨b, i, none⟩ : Addr) ≠ ⟨b, j, none⟩ := fun i j h e => by injection e with _ e2; exact h e2
  refine ⟨?_, ?_, ?_, ?_⟩
  · rw [World.cell?_setCell_other _ _ _ _ (ne 3 0 (by decide)), World.cell?_setCell_other _ _ _ _ (ne 2 0 (by decide)), World.cell?_setCell_other _ _ _ _ (ne 1 0 (by decide))]
    exact World.cell?_setCell_same _ _ _ h0
  · rw [World.cell?_setCell_other _ _ _ _ (ne 3 1 (by decide)), World.cell?_setCell_other _ _ _ _ (ne 2 1 (by decide))]
    exact World.cell?_setCell_same _ _ _ ((World.cell?_setCell_other _ _ _ _ (ne 0 1 (by decide))).trans h1)
  · rw [World.cell?_setCell_other _ _ _ _ (ne 3 2 (by decide))]
    exact World.cell?_setCell_same _ _ _ ((World.cell?_setCell_other _ _ _ _ (ne 1 2 (by decide))).trans ((World.cell?_setCell_other _ _ _ _ (ne 0 2 (by decide))).trans h2))
  · exact World.cell?_setCell_same _ _ _ ((World.cell?_setCell_other _ _ _ _ (ne 2 3 (by decide))).trans ((World.cell?_setCell_other _ _ _ _ (ne 1 3 (by decide))).trans ((World.cell?_setCell_other _ _ _ _ (ne 0 3 (by decide))).trans h3)))
theorem below_four {w w0 : World} {B b : Nat} (h : Below B w0 w) (hb : B ≤ b) (u0 u1 u2 u3 : Value) : Below B w0 ((((w.setCell ⟨b, 0, none⟩ u0).setCell ⟨b, 1, none⟩ u1).setCell ⟨b, 2, none⟩ u2).setCell ⟨b, 3, none⟩ u3) :=
  (((h.setCell (p := ⟨b, 0, none⟩) hb _).setCell (p := ⟨b, 1, none⟩) hb _).setCell (p := ⟨b, 2, none⟩) hb _).setCell (p := ⟨b, 3, none⟩) hb _
set_option maxHeartbeats 4000000 in
theorem part_any (st : Bool) (s : Sp) (lo hi : Int) (w : World) (hs : Nr s) (h0 : 0 ≤ lo) (h1 : lo ≤ 4294967296) :
    Calls Try.prog 48 #[sv s, .int .i64 lo, .int .i64 hi, .bool st] w fun e w' => e = .returned (sv (partS st s lo hi)) ∧ Below w.heap.size w w' := by
  have K1 := Lib.hid (fun W => goes_any st s lo W hs.l0 hs.l1 hs.t0 hs.t1 h0 h1)
  have e : sv (partS st s lo hi) = .agg #[.int .i64 s.n, .int .i64 lo, .int .i64 hi, .int .i64 (goesS st s lo)] := rfl
  rw [e]
  clear e hs h0 h1
  generalize goesS st s lo = g at *
  unfold sv at *
  go_enter Try.func48, Try.ntmps48
  go_wp2_with fail
  have xs : Bs ((w.alloc (.cells #[.int .i64 s.n, .int .i64 s.lo, .int .i64 s.hi, .int .i64 s.to] 24)).alloc (.cells #[.int .i64 0, .int .i64 0, .int .i64 0, .int .i64 0] 24)) w.heap.size s := ⟨by simp, by simp, by simp, by simp⟩
  have xz : Bs ((w.alloc (.cells #[.int .i64 s.n, .int .i64 s.lo, .int .i64 s.hi, .int .i64 s.to] 24)).alloc (.cells #[.int .i64 0, .int .i64 0, .int .i64 0, .int .i64 0] 24)) (w.heap.size + 1) ⟨0, 0, 0, 0⟩ := ⟨by simp, by simp, by simp, by simp⟩
  have xf : ∀ i, ((w.alloc (.cells #[.int .i64 s.n, .int .i64 s.lo, .int .i64 s.hi, .int .i64 s.to] 24)).alloc (.cells #[.int .i64 0, .int .i64 0, .int .i64 0, .int .i64 0] 24)).frozen? ⟨w.heap.size + 1, i, none⟩ = false := fun i => by simp
  have b1 : Below w.heap.size w ((w.alloc (.cells #[.int .i64 s.n, .int .i64 s.lo, .int .i64 s.hi, .int .i64 s.to] 24)).alloc (.cells #[.int .i64 0, .int .i64 0, .int .i64 0, .int .i64 0] 24)) := ((Below.refl _ _).alloc (Nat.le_refl _) _).alloc (by simp) _
  have z1 : w.heap.size + 1 < ((w.alloc (.cells #[.int .i64 s.n, .int .i64 s.lo, .int .i64 s.hi, .int .i64 s.to] 24)).alloc (.cells #[.int .i64 0, .int .i64 0, .int .i64 0, .int .i64 0] 24)).heap.size := by simp
  generalize (w.alloc (.cells #[.int .i64 s.n, .int .i64 s.lo, .int .i64 s.hi, .int .i64 s.to] 24)).alloc (.cells #[.int .i64 0, .int .i64 0, .int .i64 0, .int .i64 0] 24) = wr at *
  have hS : ∀ w', Below wr.heap.size wr w' → (fun w' => (w'.cell? ⟨w.heap.size, 0, none⟩ = some (.int .i64 s.n) ∧ w'.cell? ⟨w.heap.size, 1, none⟩ = some (.int .i64 s.lo) ∧ w'.cell? ⟨w.heap.size, 2, none⟩ = some (.int .i64 s.hi) ∧ w'.cell? ⟨w.heap.size, 3, none⟩ = some (.int .i64 s.to)) ∧ (w'.cell? ⟨w.heap.size + 1, 0, none⟩ = some (.int .i64 0) ∧ w'.cell? ⟨w.heap.size + 1, 1, none⟩ = some (.int .i64 0) ∧ w'.cell? ⟨w.heap.size + 1, 2, none⟩ = some (.int .i64 0) ∧ w'.cell? ⟨w.heap.size + 1, 3, none⟩ = some (.int .i64 0)) ∧ (w'.frozen? ⟨w.heap.size + 1, 0, none⟩ = false ∧ w'.frozen? ⟨w.heap.size + 1, 1, none⟩ = false ∧ w'.frozen? ⟨w.heap.size + 1, 2, none⟩ = false ∧ w'.frozen? ⟨w.heap.size + 1, 3, none⟩ = false)) w' := fun w' hb => by
    have p := Bs.below xs hb (by omega)
    have q := Bs.below xz hb (by omega)
    have f : ∀ i, w'.frozen? ⟨w.heap.size + 1, i, none⟩ = false := fun i => (hb.frozen (p := ⟨w.heap.size + 1, i, none⟩) z1).trans (xf i)
    exact ⟨⟨p.c0, p.c1, p.c2, p.c3⟩, ⟨q.c0, q.c1, q.c2, q.c3⟩, f 0, f 1, f 2, f 3⟩
  have HS := Lib.hid hS
  clear hS xs xz xf
  have z0 : Below wr.heap.size wr wr.drew := (Below.refl _ _).drew
  obtain ⟨⟨p0, p1, p2, p3⟩, ⟨q0, q1, q2, q3⟩, f0, f1, f2, f3⟩ := HS.out wr (Below.refl _ _)
  go_region_with ((go_at_call 25; with_reducible refine (K1.out _).mono ?_; rintro e x1 ⟨rfl, y8⟩; have z8 := z0.trans (y8.mono z0.size); obtain ⟨⟨p0, p1, p2, p3⟩, ⟨q0, q1, q2, q3⟩, f0, f1, f2, f3⟩ := HS.out _ z8))
  all_goals
    have hg := set_four q0 q1 q2 q3 (.int .i64 s.n) (.int .i64 lo) (.int .i64 hi) (.int .i64 g) _ rfl
    have hbE := below_four (b := w.heap.size + 1) (b1.trans (z8.mono (by omega))) (by omega) (.int .i64 s.n) (.int .i64 lo) (.int .i64 hi) (.int .i64 g)
    clear p0 p1 p2 p3 q0 q1 q2 q3 f0 f1 f2 f3
    go_wp2
    generalize (((World.setCell _ ⟨w.heap.size + 1, 0, none⟩ (.int .i64 s.n)).setCell ⟨w.heap.size + 1, 1, none⟩ (.int .i64 lo)).setCell ⟨w.heap.size + 1, 2, none⟩ (.int .i64 hi)).setCell ⟨w.heap.size + 1, 3, none⟩ (.int .i64 g) = W at *
    obtain ⟨g0, g1, g2, g3⟩ := hg
    refine bodyPost_ret (v := _) (by simp [results, Try.results48, go_sem, g0, g1, g2, g3]; try rfl) rfl ?_
    exact ⟨rfl, hbE⟩
end Go.Proofs.Ytdlkgcbiekilhaa
