/-
  The program's own byteAt, bounds, between; rank, first, lowest, highest.
-/
import Derived.Test.YtnojapffmcnbaaaRectFlt
import Derived.Test.YtnojapffmcnbaaaBits
import Derived.BigQuiet
import Derived.Deep.QuietTactic
import Derived.Sort.Grow
namespace Go.Proofs.Ytnojapffmcnbaaa
open Go.RowKit Go.Sort

theorem i64_mask8 (n : Int) : bits .and .i64 n 255 = n % 256 := by
  have h127 : (BitVec.ofInt 64 255).toNat = 2 ^ 8 - 1 := by decide
  have key : (BitVec.ofInt 64 n &&& BitVec.ofInt 64 255).toNat = (n % ((2 ^ 64 : Nat) : Int)).toNat % 2 ^ 8 := by
    rw [BitVec.toNat_and, BitVec.toNat_ofInt, h127, Nat.and_two_pow_sub_one_eq_mod]
  show IntKind.i64.wrap ((BitVec.ofInt 64 n &&& BitVec.ofInt 64 255).toNat : Nat) = n % 256
  rw [key, IntKind.wrap_i64]
  omega
/-- The byte of a number at a place, the last byte being at 0. -/
def byJ (v : Int) (j : Nat) : Int := v / 256 ^ j % 256
theorem byJ_bnd (v : Int) (j : Nat) : 0 ≤ byJ v j ∧ byJ v j < 256 := ⟨Int.emod_nonneg _ (by decide), Int.emod_lt_of_pos _ (by decide)⟩
set_option maxHeartbeats 4000000 in
theorem byteAt_any (n v i : Int) (w : World) (hn : 1 ≤ n) (hn' : n ≤ 4) (hi : 0 ≤ i) (hi' : i < n) :
    Calls Try.prog 33 #[.int .i64 n, .int .i64 v, .int .i64 i] w fun e w' => e = .returned (.int .i64 (byJ v (n - 1 - i).toNat)) ∧ w' = w := by
  have key : ∀ (n i : Int), (n = 1 ∧ i = 0) ∨ (n = 2 ∧ i = 0) ∨ (n = 2 ∧ i = 1) ∨ (n = 3 ∧ i = 0) ∨ (n = 3 ∧ i = 1) ∨ (n = 3 ∧ i = 2) ∨ (n = 4 ∧ i = 0) ∨ (n = 4 ∧ i = 1) ∨ (n = 4 ∧ i = 2) ∨ (n = 4 ∧ i = 3) →
      Calls Try.prog 33 #[.int .i64 n, .int .i64 v, .int .i64 i] w fun e w' => e = .returned (.int .i64 (byJ v (n - 1 - i).toNat)) ∧ w' = w := by
    intro n i h
    rcases h with ⟨rfl, rfl⟩ | ⟨rfl, rfl⟩ | ⟨rfl, rfl⟩ | ⟨rfl, rfl⟩ | ⟨rfl, rfl⟩ | ⟨rfl, rfl⟩ | ⟨rfl, rfl⟩ | ⟨rfl, rfl⟩ | ⟨rfl, rfl⟩ | ⟨rfl, rfl⟩
    all_goals
      go_enter Try.func33, Try.ntmps33
      go_wp2
      go_ret
      refine ⟨?_, rfl⟩
      simp [byJ, i64_mask8]
  exact key n i (by omega)
set_option maxHeartbeats 1000000 in
theorem bounds_any (n lo hi i : Int) (w : World) (hn : 1 ≤ n) (hn' : n ≤ 4) (i0 : 0 ≤ i) (i1 : i < n) :
    Calls Try.prog 27 #[.agg #[.int .i64 n, .int .i64 lo, .int .i64 hi], .int .i64 i] w fun e w' => e = .returned (.tuple #[.int .i64 (byJ lo (n - 1 - i).toNat), .int .i64 (byJ hi (n - 1 - i).toNat)]) ∧ Below w.heap.size w w' := by
  have c1 := fun W => byteAt_any n lo i W hn hn' i0 i1
  have c2 := fun W => byteAt_any n hi i W hn hn' i0 i1
  generalize byJ lo (n - 1 - i).toNat = x at *
  generalize byJ hi (n - 1 - i).toNat = y at *
  have C1 := Lib.hid c1
  have C2 := Lib.hid c2
  clear c1 c2
  go_enter Try.func27, Try.ntmps27
  go_wp2
  go_quiet ((go_at_call 33; first | with_reducible exact Calls.quiet_of_same (C1.out _) | with_reducible exact Calls.quiet_of_same (C2.out _)))
  go_wp2
  go_returns
  exact ⟨rfl, below_drewN ((Below.refl _ _).alloc (Nat.le_refl _) _) _⟩
set_option maxHeartbeats 1000000 in
theorem between_any (n lo hi i b : Int) (w : World) (hn : 1 ≤ n) (hn' : n ≤ 4) (i0 : 0 ≤ i) (i1 : i < n) :
    Calls Try.prog 32 #[.agg #[.int .i64 n, .int .i64 lo, .int .i64 hi], .int .i64 i, .int .i64 b] w fun e w' => e = .returned (.bool (decide (byJ lo (n - 1 - i).toNat ≤ b) && decide (b ≤ byJ hi (n - 1 - i).toNat))) ∧ Below w.heap.size w w' := by
  have c1 := fun W => bounds_any n lo hi i W hn hn' i0 i1
  generalize byJ lo (n - 1 - i).toNat = x at *
  generalize byJ hi (n - 1 - i).toNat = y at *
  have C1 := Lib.hid c1
  clear c1
  cases t1 : decide (x ≤ b) with
  | false =>
    go_enter Try.func32, Try.ntmps32
    go_wp2_with (go_at_call 27; refine (C1.out _).mono ?_; rintro e w1 ⟨rfl, hb⟩)
    go_ret
    exact ⟨rfl, ((Below.refl _ _).alloc (Nat.le_refl _) _).trans (hb.mono (by simp))⟩
  | true =>
    go_enter Try.func32, Try.ntmps32
    go_wp2_with (go_at_call 27; refine (C1.out _).mono ?_; rintro e w1 ⟨rfl, hb⟩)
    go_ret
    exact ⟨rfl, ((Below.refl _ _).alloc (Nat.le_refl _) _).trans (hb.mono (by simp))⟩
set_option maxHeartbeats 1000000 in
theorem rank_any (n v : Int) (w : World) :
    Calls Try.prog 52 #[.int .i64 n, .int .i64 v] w fun e w' => e = .returned (.complex .f64 (flN n) (flN v)) ∧ w' = w := by
  go_enter Try.func52, Try.ntmps52
  go_wp2
  go_ret
  exact ⟨rfl, rfl⟩
/-- Does one code go ahead of another one? -/
def ahB (a b c d : Int) : Bool := decide (a < c ∨ (a = c ∧ b < d))
set_option maxHeartbeats 1000000 in
theorem first_any (a b c d : Int) (w : World) (ha : 0 ≤ a) (ha' : a < 4294967296) (hb : 0 ≤ b) (hb' : b < 4294967296) (hc : 0 ≤ c) (hc' : c < 4294967296) (hd : 0 ≤ d) (hd' : d < 4294967296) :
    Calls Try.prog 47 #[.complex .f64 (flN a) (flN b), .complex .f64 (flN c) (flN d)] w fun e w' => e = .returned (.bool (ahB a b c d)) ∧ w' = w := by
  have o1 := flN_order ha ha' hc hc'
  have o2 := flN_order hb hb' hd hd'
  have e1 : (FloatKind.f64.format.order (flN a) (flN c) != some Ordering.eq) = !decide (a = c) := by rw [o1, bne, cmp_eq]
  have e2 : (FloatKind.f64.format.order (flN a) (flN c) == some Ordering.lt) = decide (a < c) := by rw [o1, cmp_lt]
  have e3 : (FloatKind.f64.format.order (flN b) (flN d) == some Ordering.lt) = decide (b < d) := by rw [o2, cmp_lt]
  have E2 := Lib.hid e2
  have E3 := Lib.hid e3
  clear o1 o2 e2 e3
  by_cases h : a = c
  · have H := Lib.hid h
    rw [decide_eq_true h, Bool.not_true] at e1
    clear h
    go_enter Try.func47, Try.ntmps47
    go_wp2
    go_ret
    refine ⟨?_, rfl⟩
    show Ending.returned (Value.bool _) = _
    rw [E3.out]
    simp [ahB, H.out]
  · have H := Lib.hid h
    rw [decide_eq_false h, Bool.not_false] at e1
    clear h
    go_enter Try.func47, Try.ntmps47
    go_wp2
    go_ret
    refine ⟨?_, rfl⟩
    show Ending.returned (Value.bool _) = _
    rw [E2.out]
    simp [ahB, H.out]
set_option maxHeartbeats 1000000 in
theorem lowest_any (n lo hi : Int) (w : World) :
    Calls Try.prog 48 #[.agg #[.int .i64 n, .int .i64 lo, .int .i64 hi]] w fun e w' => e = .returned (.complex .f64 (flN n) (flN lo)) ∧ ∃ q os, w' = grow (w.drewN q) os := by
  go_enter Try.func48, Try.ntmps48
  go_wp2_with (go_at_call 52; refine (rank_any _ _ _).mono ?_; rintro e w1 ⟨rfl, rfl⟩)
  go_ret
  exact ⟨rfl, 0, _, by rw [alloc_eq_grow]; rfl⟩
set_option maxHeartbeats 1000000 in
theorem highest_any (n lo hi : Int) (w : World) :
    Calls Try.prog 46 #[.agg #[.int .i64 n, .int .i64 lo, .int .i64 hi]] w fun e w' => e = .returned (.complex .f64 (flN n) (flN hi)) ∧ ∃ q os, w' = grow (w.drewN q) os := by
  go_enter Try.func46, Try.ntmps46
  go_wp2_with (go_at_call 52; refine (rank_any _ _ _).mono ?_; rintro e w1 ⟨rfl, rfl⟩)
  go_ret
  exact ⟨rfl, 0, _, by rw [alloc_eq_grow]; rfl⟩
end Go.Proofs.Ytnojapffmcnbaaa
