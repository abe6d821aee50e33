/-
  The program's own saneCodes, Sane, slices.Clone at ints, units, from, upTo, To.
-/
import Derived.Test.YtkkochjdimegpaaDestPro1
import Derived.Test.YtkkochjdimegpaaInfo64
import Derived.Deep.RegionWith
namespace Go.Proofs.Ytkkochjdimegpaa
open Go.RowKit
attribute [local go_sem ↓] Go.wp_at_zero Go.wp_at_succ

set_option maxHeartbeats 4000000 in
theorem dCodes_any (x : Me) (w : World) :
    Calls Try.prog 34 #[fv x] w fun e w' => e = .returned (.bool ((saneB x.b.n x.b.lo && saneB x.b.n x.b.hi) && decide (x.b.lo ≤ x.b.hi))) ∧ Below w.heap.size w w' := by
  have hs := Fb.new w x 25
  have hb0 : Below w.heap.size w (w.alloc (.cells #[.int .i64 x.b.n, .int .i64 x.b.lo, .int .i64 x.b.hi, .slice x.a x.b.u.length x.c] 25)) := (Below.refl _ _).alloc (Nat.le_refl _) _
  have hz0 : w.heap.size < (w.alloc (.cells #[.int .i64 x.b.n, .int .i64 x.b.lo, .int .i64 x.b.hi, .slice x.a x.b.u.length x.c] 25)).heap.size := by simp
  have K1 := Lib.hid (fun W => Sane_any x.b.n x.b.lo W)
  have K2 := Lib.hid (fun W => Sane_any x.b.n x.b.hi W)
  cases d1 : saneB x.b.n x.b.lo with
  | false =>
    rw [d1] at K1
    unfold fv at *
    go_enter Try.func34, Try.ntmps34
    go_wp2_with ((go_at_call 47; refine (K1.out _).mono ?_; rintro e w1 ⟨rfl, hb1⟩))
    go_ret
    exact ⟨rfl, hb0.trans (hb1.mono (by omega))⟩
  | true =>
    cases d2 : saneB x.b.n x.b.hi with
    | false =>
      rw [d1] at K1
      rw [d2] at K2
      unfold fv at *
      go_enter Try.func34, Try.ntmps34
      go_wp2_with fail
      refine (K1.out _).mono ?_
      rintro e w1 ⟨rfl, hb1⟩
      obtain ⟨c0, c1, c2, c3⟩ := hs.below hb1 hz0
      rw [Nat.zero_add] at c1 c2 c3
      go_wp2_with fail
      refine (K2.out _).mono ?_
      rintro e w2 ⟨rfl, hb2⟩
      go_wp2
      go_ret
      exact ⟨rfl, (hb0.trans (hb1.mono (by omega))).trans (hb2.mono (by have := hb1.size; omega))⟩
    | true =>
      rw [d1] at K1
      rw [d2] at K2
      unfold fv at *
      have key : ∀ w1 w2, Below (w.alloc (.cells #[.int .i64 x.b.n, .int .i64 x.b.lo, .int .i64 x.b.hi, .slice x.a x.b.u.length x.c] 25)).heap.size (w.alloc (.cells #[.int .i64 x.b.n, .int .i64 x.b.lo, .int .i64 x.b.hi, .slice x.a x.b.u.length x.c] 25)) w1 → Below w1.heap.size w1 w2 → Below w.heap.size w w2 ∧ w.heap.size < w2.heap.size ∧ Fb w2 w.heap.size x := fun w1 w2 hb1 hb2 => by
        have a := hb1.size
        have b := hb2.size
        exact ⟨(hb0.trans (hb1.mono (by omega))).trans (hb2.mono (by omega)), by omega, (hs.below hb1 hz0).below hb2 (by omega)⟩
      go_enter Try.func34, Try.ntmps34
      go_wp2_with fail
      refine (K1.out _).mono ?_
      rintro e w1 ⟨rfl, hb1⟩
      obtain ⟨c0, c1, c2, c3⟩ := hs.below hb1 hz0
      rw [Nat.zero_add] at c1 c2 c3
      go_wp2_with fail
      refine (K2.out _).mono ?_
      rintro e w2 ⟨rfl, hb2⟩
      obtain ⟨k1, k2, e0, e1, e2, e3⟩ := key w1 w2 hb1 hb2
      rw [Nat.zero_add] at e1 e2 e3
      clear c0 c1 c2 c3 key hb0 hb1 hb2 hs hz0
      go_wp2
      go_ret
      exact ⟨rfl, k1⟩
theorem Sb_eq (s : Bp) : decide (Sb s) = (((saneB s.n s.lo && saneB s.n s.hi) && decide (s.lo ≤ s.hi)) && (decide (okU s.u) && decide (lastU s.u + (s.hi - s.lo) ≤ 65535))) := by
  show decide (saneB s.n s.lo = true ∧ saneB s.n s.hi = true ∧ s.lo ≤ s.hi ∧ okU s.u ∧ lastU s.u + (s.hi - s.lo) ≤ 65535) = _
  rw [Bool.eq_iff_iff]
  simp [and_assoc]
theorem al_below (w : World) (O : Obj) : Below w.heap.size w (w.alloc O) := (Below.refl _ _).alloc (Nat.le_refl _) _
set_option maxHeartbeats 4000000 in
theorem DSane_any (x : Me) (w : World) (hu : Un w x.a x.c x.b.u) :
    Calls Try.prog 19 #[fv x] w fun e w' => e = .returned (.bool (decide (Sb x.b))) ∧ Below w.heap.size w w' := by
  have hs := Fb.new w x 25
  have hb0 := al_below w (.cells #[.int .i64 x.b.n, .int .i64 x.b.lo, .int .i64 x.b.hi, .slice x.a x.b.u.length x.c] 25)
  have hz0 : w.heap.size < (w.alloc (.cells #[.int .i64 x.b.n, .int .i64 x.b.lo, .int .i64 x.b.hi, .slice x.a x.b.u.length x.c] 25)).heap.size := by simp
  have K1 := Lib.hid (fun W => dCodes_any x W)
  have K2 : Hid (∀ W, Below w.heap.size w W → Calls Try.prog 35 #[.slice x.a x.b.u.length x.c] W fun e w' => e = .returned (.bool (decide (okU x.b.u))) ∧ Below W.heap.size W w') := Lib.hid fun W hW => dUnits_any x.a x.c x.b.u W (hu.over hW).si
  have K3 : Hid (∀ W, Below w.heap.size w W → saneB x.b.n x.b.lo = true → saneB x.b.n x.b.hi = true → okU x.b.u → Calls Try.prog 36 #[fv x, .int .i64 x.b.hi] W fun e w' => e = .returned (.int .i64 (lastU x.b.u + (x.b.hi - x.b.lo))) ∧ Below W.heap.size W w') := Lib.hid fun W hW h1 h2 h3 => by
    have a := saneB_top h1
    have b := saneB_top h2
    exact lastUnit_any x x.b.hi W (hu.over hW).si h3 a.1 a.2.1 b.1 (by omega)
  have key : ∀ w1 w2, Below (w.alloc (.cells #[.int .i64 x.b.n, .int .i64 x.b.lo, .int .i64 x.b.hi, .slice x.a x.b.u.length x.c] 25)).heap.size (w.alloc (.cells #[.int .i64 x.b.n, .int .i64 x.b.lo, .int .i64 x.b.hi, .slice x.a x.b.u.length x.c] 25)) w1 → Below w1.heap.size w1 w2 → Below w.heap.size w w2 ∧ w.heap.size < w2.heap.size ∧ Fb w2 w.heap.size x := fun w1 w2 hb1 hb2 => by
    have a := hb1.size
    have b := hb2.size
    exact ⟨(hb0.trans (hb1.mono (by omega))).trans (hb2.mono (by omega)), by omega, (hs.below hb1 hz0).below hb2 (by omega)⟩
  have KEY := Lib.hid key
  rw [Sb_eq]
  clear key hs hb0 hz0 hu
  cases d1 : ((saneB x.b.n x.b.lo && saneB x.b.n x.b.hi) && decide (x.b.lo ≤ x.b.hi)) with
  | false =>
    rw [d1] at K1
    unfold fv at *
    go_enter Try.func19, Try.ntmps19
    go_wp2_with ((go_at_call 34; refine (K1.out _).mono ?_; rintro e w1 ⟨rfl, hb1⟩))
    go_ret
    exact ⟨rfl, (KEY.out _ _ hb1 (Below.refl _ _)).1⟩
  | true =>
    rw [d1] at K1
    have HD := Lib.hid d1
    clear d1
    cases d2 : decide (okU x.b.u) with
    | false =>
      rw [d2] at K2
      clear d2
      unfold fv at *
      go_enter Try.func19, Try.ntmps19
      go_wp2_with fail
      refine (K1.out _).mono ?_
      rintro e w1 ⟨rfl, hb1⟩
      obtain ⟨k1, k2, c0, c1, c2, c3⟩ := KEY.out _ _ hb1 (Below.refl _ _)
      rw [Nat.zero_add] at c1 c2 c3
      go_wp2_with fail
      refine (K2.out _ k1).mono ?_
      rintro e w2 ⟨rfl, hb2⟩
      have k3 := (KEY.out _ _ hb1 hb2).1
      go_wp2
      go_ret
      exact ⟨rfl, k3⟩
    | true =>
      rw [d2] at K2
      have HO := Lib.hid (of_decide_eq_true d2)
      clear d2
      have K4 : Hid (∀ W, Below w.heap.size w W → Calls Try.prog 36 #[fv x, .int .i64 x.b.hi] W fun e w' => e = .returned (.int .i64 (lastU x.b.u + (x.b.hi - x.b.lo))) ∧ Below W.heap.size W w') := Lib.hid fun W hW => by
        have h := HD.out
        simp only [Bool.and_eq_true] at h
        exact K3.out W hW h.1.1 h.1.2 HO.out
      clear K3
      generalize lastU x.b.u + (x.b.hi - x.b.lo) = L at *
      unfold fv at *
      go_enter Try.func19, Try.ntmps19
      go_wp2_with fail
      refine (K1.out _).mono ?_
      rintro e w1 ⟨rfl, hb1⟩
      obtain ⟨k1, k2, c0, c1, c2, c3⟩ := KEY.out _ _ hb1 (Below.refl _ _)
      rw [Nat.zero_add] at c1 c2 c3
      go_wp2_with fail
      refine (K2.out _ k1).mono ?_
      rintro e w2 ⟨rfl, hb2⟩
      obtain ⟨k3, k4, e0, e1, e2, e3⟩ := KEY.out _ _ hb1 hb2
      rw [Nat.zero_add] at e1 e2 e3
      clear c0 c1 c2 c3 KEY
      go_wp2_with fail
      refine (K4.out _ k3).mono ?_
      rintro e w3 ⟨rfl, hb3⟩
      go_wp2
      go_ret
      exact ⟨rfl, k3.trans (hb3.mono (by omega))⟩
end Go.Proofs.Ytkkochjdimegpaa
