/-
  The program's own upTo, To, compare.
-/
import Derived.Test.YtkkochjdimegpaaDestFrom
namespace Go.Proofs.Ytkkochjdimegpaa
open Go.RowKit
attribute [local go_sem ↓] Go.wp_at_zero Go.wp_at_succ

set_option maxRecDepth 100000 in
set_option maxHeartbeats 4000000 in
theorem upTo_any (x : Me) (hi : Int) (w : World) :
    Calls Try.prog 52 #[fv x, .int .i64 hi] w fun e w' => e = .returned (fv ⟨{ x.b with hi := hi }, x.a, x.c⟩) ∧ Below w.heap.size w w' := by
  unfold fv
  go_enter Try.func52, Try.ntmps52
  go_wp2
  go_returns
  refine ⟨rfl, ?_⟩
  exact (((Below.refl _ _).alloc (Nat.le_refl _) _).alloc (by simp) _)
/-- Units, or nothing. -/
def RetO (w : World) (o : Option (List Int)) (e : Ending) (w' : World) : Prop :=
  (match o with
  | none => e = .returned (.tuple #[.slice none 0 0, .bool false])
  | some u => ∃ a c, e = .returned (.tuple #[.slice a u.length c, .bool true]) ∧ Ut w' a c u) ∧ Below w.heap.size w w'
set_option maxRecDepth 100000 in
set_option maxHeartbeats 4000000 in
theorem DTo_any (x : Me) (n v : Int) (w : World) (hu : Un w x.a x.c x.b.u) :
    Calls Try.prog 12 #[fv x, .agg #[.int .i64 n, .int .i64 v]] w (RetO w (toB x.b n v)) := by
  have K1 := Lib.hid (fun W (hW : Below w.heap.size w W) => DSane_any x W (hu.over hW))
  have hb0 : Below w.heap.size w ((w.alloc (.cells #[.int .i64 x.b.n, .int .i64 x.b.lo, .int .i64 x.b.hi, .slice x.a x.b.u.length x.c] 25)).alloc (.cells #[.int .i64 n, .int .i64 v] 27)) := ((Below.refl _ _).alloc (Nat.le_refl _) _).alloc (by simp) _
  have hs : Fb ((w.alloc (.cells #[.int .i64 x.b.n, .int .i64 x.b.lo, .int .i64 x.b.hi, .slice x.a x.b.u.length x.c] 25)).alloc (.cells #[.int .i64 n, .int .i64 v] 27)) w.heap.size x := ⟨by simp, by simp, by simp, by simp⟩
  have hd : Cd ((w.alloc (.cells #[.int .i64 x.b.n, .int .i64 x.b.lo, .int .i64 x.b.hi, .slice x.a x.b.u.length x.c] 25)).alloc (.cells #[.int .i64 n, .int .i64 v] 27)) (w.heap.size + 1) n v := ⟨by simp, by simp⟩
  have hz0 : w.heap.size + 1 < ((w.alloc (.cells #[.int .i64 x.b.n, .int .i64 x.b.lo, .int .i64 x.b.hi, .slice x.a x.b.u.length x.c] 25)).alloc (.cells #[.int .i64 n, .int .i64 v] 27)).heap.size := by simp
  by_cases h0 : Sb x.b
  · have h0' := id h0
    obtain ⟨s1, s2, s3, s4, s5⟩ := h0'
    have a1 := saneB_top s1
    have a2 := saneB_top s2
    have K2 : Hid (∀ W, Below w.heap.size w W → x.b.lo ≤ v → v ≤ x.b.hi → Calls Try.prog 28 #[fv x, .int .i64 v] W fun e w' => ∃ r, e = .returned r ∧ w'.ownsRow W.heap.size 3 1 r x.b.u.length (ivs (goB x.b v)) ∧ Below W.heap.size W w') := Lib.hid fun W hW h2 h3 => units_any x v W (hu.over hW) s4 a1.1 a1.2.1 (by omega) (by omega)
    have e : toB x.b n v = if (n == x.b.n && (decide (x.b.lo ≤ v) && decide (v ≤ x.b.hi))) = true then some (goB x.b v) else none := by
      unfold toB
      congr 1
      simp [h0]
    generalize goB x.b v = g at *
    obtain ⟨r, hr⟩ : ∃ r, r = toB x.b n v := ⟨_, rfl⟩
    rw [← hr]
    have HR := Lib.hid (hr.trans e)
    rw [decide_eq_true h0] at K1
    clear e h0 hr s1 s2 s3 s4 s5 a1 a2 hu
    unfold fv at *
    go_enter Try.func12, Try.ntmps12
    go_wp2_with fail
    refine (K1.out _ hb0).mono ?_
    rintro e w1 ⟨rfl, hb1⟩
    obtain ⟨c0, c1, c2, c3⟩ := hs.below hb1 (by omega)
    obtain ⟨f0, f1⟩ := hd.below hb1 hz0
    rw [Nat.zero_add] at c1 c2 c3
    have hbk : Below w.heap.size w w1 := hb0.trans (hb1.mono (by omega))
    have hz1 : w.heap.size < w1.heap.size := by have := hb1.size; omega
    clear hb1 hb0 hs hd hz0
    by_cases h1 : n = x.b.n
    · have d1 : (n == x.b.n) = true := by simp [h1]
      have d1' : (n != x.b.n) = false := by simp [h1]
      have H1 := Lib.hid h1
      clear h1
      by_cases h2 : x.b.lo ≤ v
      · have d2 : decide (v < x.b.lo) = false := decide_eq_false (by omega)
        by_cases h3 : v ≤ x.b.hi
        · have d3 : decide (x.b.hi < v) = false := decide_eq_false (by omega)
          have e2 : (if (n == x.b.n && (decide (x.b.lo ≤ v) && decide (v ≤ x.b.hi))) = true then some g else none) = some g := by simp [d1, h2, h3]
          have E2 := Lib.hid (HR.out.trans e2)
          have K3 := Lib.hid (fun W hW => K2.out W hW h2 h3)
          clear K2 h2 h3 e2
          go_wp2_with fail
          refine (K3.out _ hbk).mono ?_
          rintro e w3 ⟨rU, rfl, hown, hb3⟩
          obtain ⟨rA, rC, rfl, hut, _⟩ := Ut.of_own hown
          go_wp2
          go_returns
          rw [E2.out]
          exact ⟨⟨rA, rC, rfl, hut⟩, hbk.trans (hb3.mono (by omega))⟩
        · have d3 : decide (x.b.hi < v) = true := decide_eq_true (by omega)
          have e2 : (if (n == x.b.n && (decide (x.b.lo ≤ v) && decide (v ≤ x.b.hi))) = true then some g else none) = none := by simp [h3]
          have E2 := Lib.hid (HR.out.trans e2)
          clear K2 h2 h3 e2
          go_wp2_with fail
          go_returns
          rw [E2.out]
          exact ⟨rfl, hbk⟩
      · have d2 : decide (v < x.b.lo) = true := decide_eq_true (by omega)
        have e2 : (if (n == x.b.n && (decide (x.b.lo ≤ v) && decide (v ≤ x.b.hi))) = true then some g else none) = none := by simp [h2]
        have E2 := Lib.hid (HR.out.trans e2)
        clear K2 h2 e2
        go_wp2_with fail
        go_returns
        rw [E2.out]
        exact ⟨rfl, hbk⟩
    · have d1 : (n != x.b.n) = true := by simp [h1]
      have d1' : (n == x.b.n) = false := by simp [h1]
      have e2 : (if (n == x.b.n && (decide (x.b.lo ≤ v) && decide (v ≤ x.b.hi))) = true then some g else none) = none := by simp [h1]
      have E2 := Lib.hid (HR.out.trans e2)
      clear K2 h1 e2
      go_wp2_with fail
      go_returns
      rw [E2.out]
      exact ⟨rfl, hbk⟩
  · have e : toB x.b n v = none := by
      unfold toB
      rw [if_neg (fun k => h0 k.1)]
    rw [e]
    rw [decide_eq_false h0] at K1
    clear e h0 hu
    unfold fv at *
    go_enter Try.func12, Try.ntmps12
    go_wp2_with ((go_at_call 19; refine (K1.out _ hb0).mono ?_; rintro e w3 ⟨rfl, hb3⟩))
    go_returns
    exact ⟨rfl, hb0.trans (hb3.mono (by omega))⟩
/-- Which goes ahead: as a number. -/
def cmpB (a b : Bp) : Int := if ahB a b then -1 else if ahB b a then 1 else 0
set_option maxHeartbeats 2000000 in
theorem dCompare_any (a b : Me) (w : World) :
    Calls Try.prog 33 #[fv a, fv b] w fun e w' => e = .returned (.int .i64 (cmpB a.b b.b)) ∧ Below w.heap.size w w' := by
  have K1 := Lib.hid (fun W => dAhead_any a b W)
  have K2 := Lib.hid (fun W => dAhead_any b a W)
  have hb0 : Below w.heap.size w ((w.alloc (.cells #[.int .i64 a.b.n, .int .i64 a.b.lo, .int .i64 a.b.hi, .slice a.a a.b.u.length a.c] 25)).alloc (.cells #[.int .i64 b.b.n, .int .i64 b.b.lo, .int .i64 b.b.hi, .slice b.a b.b.u.length b.c] 25)) := ((Below.refl _ _).alloc (Nat.le_refl _) _).alloc (by simp) _
  have xa : Fb ((w.alloc (.cells #[.int .i64 a.b.n, .int .i64 a.b.lo, .int .i64 a.b.hi, .slice a.a a.b.u.length a.c] 25)).alloc (.cells #[.int .i64 b.b.n, .int .i64 b.b.lo, .int .i64 b.b.hi, .slice b.a b.b.u.length b.c] 25)) w.heap.size a := ⟨by simp, by simp, by simp, by simp⟩
  have xb : Fb ((w.alloc (.cells #[.int .i64 a.b.n, .int .i64 a.b.lo, .int .i64 a.b.hi, .slice a.a a.b.u.length a.c] 25)).alloc (.cells #[.int .i64 b.b.n, .int .i64 b.b.lo, .int .i64 b.b.hi, .slice b.a b.b.u.length b.c] 25)) (w.heap.size + 1) b := ⟨by simp, by simp, by simp, by simp⟩
  have hz0 : w.heap.size + 1 < ((w.alloc (.cells #[.int .i64 a.b.n, .int .i64 a.b.lo, .int .i64 a.b.hi, .slice a.a a.b.u.length a.c] 25)).alloc (.cells #[.int .i64 b.b.n, .int .i64 b.b.lo, .int .i64 b.b.hi, .slice b.a b.b.u.length b.c] 25)).heap.size := by simp
  unfold cmpB
  by_cases h1 : ahB a.b b.b
  · rw [if_pos h1]
    rw [decide_eq_true h1] at K1
    clear h1
    unfold fv at *
    go_enter Try.func33, Try.ntmps33
    go_wp2_with ((go_at_call 46; refine (K1.out _).mono ?_; rintro e w3 ⟨rfl, hb3⟩))
    go_ret
    exact ⟨rfl, hb0.trans (hb3.mono (by omega))⟩
  · rw [if_neg h1]
    rw [decide_eq_false h1] at K1
    clear h1
    cases h2 : decide (ahB b.b a.b) with
    | true =>
      rw [if_pos (of_decide_eq_true h2)]
      rw [h2] at K2
      clear h2
      unfold fv at *
      go_enter Try.func33, Try.ntmps33
      go_wp2_with fail
      refine (K1.out _).mono ?_
      rintro e w1 ⟨rfl, hb1⟩
      obtain ⟨c0, c1, c2, c3⟩ := xa.below hb1 (by omega)
      obtain ⟨f0, f1, f2, f3⟩ := xb.below hb1 hz0
      rw [Nat.zero_add] at c1 c2 c3 f1 f2 f3
      go_wp2_with ((go_at_call 46; refine (K2.out _).mono ?_; rintro e w3 ⟨rfl, hb3⟩))
      go_ret
      exact ⟨rfl, (hb0.trans (hb1.mono (by omega))).trans (hb3.mono (by have := hb1.size; omega))⟩
    | false =>
      rw [if_neg (of_decide_eq_false h2)]
      rw [h2] at K2
      clear h2
      unfold fv at *
      go_enter Try.func33, Try.ntmps33
      go_wp2_with fail
      refine (K1.out _).mono ?_
      rintro e w1 ⟨rfl, hb1⟩
      obtain ⟨c0, c1, c2, c3⟩ := xa.below hb1 (by omega)
      obtain ⟨f0, f1, f2, f3⟩ := xb.below hb1 hz0
      rw [Nat.zero_add] at c1 c2 c3 f1 f2 f3
      go_wp2_with ((go_at_call 46; refine (K2.out _).mono ?_; rintro e w3 ⟨rfl, hb3⟩))
      go_ret
      exact ⟨rfl, (hb0.trans (hb1.mono (by omega))).trans (hb3.mono (by have := hb1.size; omega))⟩
end Go.Proofs.Ytkkochjdimegpaa
