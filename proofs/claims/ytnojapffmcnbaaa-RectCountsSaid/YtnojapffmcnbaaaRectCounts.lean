/-
  The walk of the statement RectCounts.
-/
import Derived.Test.YtnojapffmcnbaaaRectStep
namespace Go.Proofs.Ytnojapffmcnbaaa
open Go.RowKit

set_option maxRecDepth 100000 in
set_option maxHeartbeats 4000000 in
theorem counts_no (r : Rc) (k : Int) (w : World) (hs : saneR r = false) :
    Calls Try.prog 5 #[.agg #[.int .i64 r.n, .int .i64 r.lo, .int .i64 r.hi], .int .i64 k] w fun e w' => e = .returned (.bool true) ∧ Below w.heap.size w w' := by
  have hz : sizeR r = 0 := by unfold sizeR; rw [if_neg (by rw [hs]; decide)]
  have k2 := Size_any r
  have k3 := rcSane_any r
  have k4 := fun W => Nth_no r k W (by rw [hz]; omega)
  rw [hz] at k2
  rw [hs] at k3
  have K2 := Lib.hid k2
  have K3 := Lib.hid k3
  have K4 := Lib.hid k4
  clear k2 k3 k4 hz hs
  go_enter Try.func5, Try.ntmps5
  go_wp2_with fail
  refine (awake_any _).mono ?_
  rintro e w1 ⟨rfl, hb1⟩
  have x1 : Bx w1 w.heap.size r := (Bx.new w r _).below hb1 (by simp)
  have z1 : w.heap.size < w1.heap.size := size_step hb1
  have b1 : Below w.heap.size w w1 := below_step (Below.refl _ _) (Nat.le_refl _) hb1
  clear hb1
  obtain ⟨y0, y1, y2⟩ := id x1
  go_wp2_with fail
  refine (K2.out _).mono ?_
  rintro e w2 ⟨rfl, hb2⟩
  have x2 := x1.below hb2 z1
  have b2 := b1.trans (hb2.mono b1.size)
  have z2 := Nat.lt_of_lt_of_le z1 hb2.size
  clear y0 y1 y2 hb2 x1 z1 b1
  obtain ⟨y0, y1, y2⟩ := id x2
  go_wp2_with fail
  refine (K3.out _).mono ?_
  rintro e w3 ⟨rfl, hb3⟩
  have x3 := x2.below hb3 z2
  have b3 := b2.trans (hb3.mono b2.size)
  clear y0 y1 y2 hb3 x2 z2 b2
  obtain ⟨y0, y1, y2⟩ := id x3
  go_wp2_with fail
  refine (K4.out _).mono ?_
  rintro e w4 ⟨rfl, hb4⟩
  have b4 := b3.trans (hb4.mono b3.size)
  clear y0 y1 y2 hb4 x3 b3
  go_wp2
  go_ret
  exact ⟨rfl, b4.alloc b4.size _⟩
set_option maxRecDepth 100000 in
set_option maxHeartbeats 4000000 in
theorem counts_yes (r : Rc) (k : Int) (w : World) (hs : saneR r = true) :
    Calls Try.prog 5 #[.agg #[.int .i64 r.n, .int .i64 r.lo, .int .i64 r.hi], .int .i64 k] w fun e w' => e = .returned (.bool true) ∧ Below w.heap.size w w' := by
  have hz1 : 1 ≤ sizeR r := by unfold sizeR; rw [if_pos hs]; exact szR_pos _
  have hz2 := sizeR_le r
  have k2 := Size_any r
  have k3 := rcSane_any r
  rw [hs] at k3
  obtain ⟨i, hi⟩ : ∃ i : Nat, (i : Int) = k % 4294967296 % (sizeR r : Int) := ⟨(k % 4294967296 % (sizeR r : Int)).toNat, by have := Int.emod_nonneg (k % 4294967296) (b := (sizeR r : Int)) (by omega); omega⟩
  have hi2 : i < sizeR r := by have := Int.emod_lt_of_pos (k % 4294967296) (b := (sizeR r : Int)) (by omega); omega
  have n1 := fun W => Nth_yes r i W hs hi2
  have n3 := fun W => Nth_yes r 0 W hs (by omega)
  have n4 := fun W => Nth_yes r (sizeR r - 1) W hs (by omega)
  have n5 := fun W => Nth_no r (sizeR r : Int) W (.inr (Int.le_refl _))
  rw [nthC_first hs] at n3
  rw [nthC_last hs] at n4
  have hlo : r.lo ≤ nthC r i := by
    rw [← nthC_first hs]
    rcases Nat.eq_zero_or_pos i with e | e
    · rw [e]; exact Int.le_refl _
    · exact Int.le_of_lt (nthC_lt hs e hi2)
  have hhi : nthC r i ≤ r.hi := by
    rw [← nthC_last hs]
    rcases Nat.lt_or_ge i (sizeR r - 1) with e | e
    · exact Int.le_of_lt (nthC_lt hs e (by omega))
    · have : i = sizeR r - 1 := by omega
      rw [← this]; exact Int.le_refl _
  have k6 := In_any r r.n (nthC r i)
  rw [nthC_in hs i] at k6
  have hN : ((sizeR r : Nat) : Int) - 1 = ((sizeR r - 1 : Nat) : Int) := by omega
  have tm : bits .and .i64 k 4294967295 = k % 4294967296 := i64_mask32 k
  have hr : k % 4294967296 % (sizeR r : Int) = (i : Int) := hi.symm
  generalize hm : k % 4294967296 = kk at *
  have hk0 : 0 ≤ kk ∧ kk < 4294967296 := by omega
  obtain ⟨hk0, hk1⟩ := hk0
  clear hi hm
  by_cases hlast : i + 1 < sizeR r
  · have n2 := fun W => Nth_yes r (i + 1) W hs hlast
    have hlt := nthC_lt hs (Nat.lt_succ_self i) hlast
    have k7 := In_any r r.n (nthC r (i + 1))
    rw [nthC_in hs (i + 1)] at k7
    generalize nthC r (i + 1) = U at *
    generalize nthC r i = V at *
    generalize sizeR r = S at *
    generalize S - 1 = S' at *
    have t1 : decide ((S : Int) < 1) = false := decide_eq_false (by omega)
    have t2 : decide (((i : Int) + 1) < (S : Int)) = true := decide_eq_true (by omega)
    have t3 : decide (i + 1 < S) = true := decide_eq_true hlast
    have t4 : decide (V < U) = true := decide_eq_true hlt
    have t5 : decide (r.lo ≤ V) = true := decide_eq_true hlo
    have t6 : decide (V ≤ r.hi) = true := decide_eq_true hhi
    have ei : ((i + 1 : Nat) : Int) = (i : Int) + 1 := by omega
    rw [ei] at n2
    have K2 := Lib.hid k2
    have K3 := Lib.hid k3
    have N1 := Lib.hid n1
    have N2 := Lib.hid n2
    have N3 := Lib.hid n3
    have N4 := Lib.hid n4
    have N5 := Lib.hid n5
    have K6 := Lib.hid k6
    have K7 := Lib.hid k7
    clear k2 k3 n1 n2 n3 n4 n5 k6 k7 hs hlo hhi ei hlt
    go_enter Try.func5, Try.ntmps5
    go_wp2_with fail
    refine (awake_any _).mono ?_
    rintro e w1 ⟨rfl, hb1⟩
    have x1 : Bx w1 w.heap.size r := (Bx.new w r _).below hb1 (by simp)
    have z1 : w.heap.size < w1.heap.size := size_step hb1
    have b1 : Below w.heap.size w w1 := below_step (Below.refl _ _) (Nat.le_refl _) hb1
    clear hb1
    obtain ⟨y0, y1, y2⟩ := id x1
    go_wp2_with fail
    refine (K2.out _).mono ?_
    rintro e w2 ⟨rfl, hb2⟩
    have x2 := x1.below hb2 (by omega)
    have b2 := b1.trans (hb2.mono b1.size)
    have z2 := Nat.lt_of_lt_of_le z1 hb2.size
    clear y0 y1 y2 hb2 x1 z1 b1
    obtain ⟨y0, y1, y2⟩ := id x2
    go_wp2_with fail
    refine (K3.out _).mono ?_
    rintro e w3 ⟨rfl, hb3⟩
    have x3 := x2.below hb3 (by omega)
    have b3 := b2.trans (hb3.mono b2.size)
    have z3 := Nat.lt_of_lt_of_le z2 hb3.size
    clear y0 y1 y2 hb3 x2 z2 b2
    obtain ⟨y0, y1, y2⟩ := id x3
    go_wp2_with fail
    refine (N1.out _).mono ?_
    rintro e w4 ⟨rfl, hb4⟩
    have x4 := x3.below hb4 (by omega)
    have b4 := b3.trans (hb4.mono b3.size)
    have z4 := Nat.lt_of_lt_of_le z3 hb4.size
    clear y0 y1 y2 hb4 x3 z3 b3
    obtain ⟨y0, y1, y2⟩ := id x4
    go_wp2_with fail
    refine (N2.out _).mono ?_
    rintro e w5 ⟨rfl, hb5⟩
    have x5 := x4.step z4 hb5
    have b5 := below_step b4 b4.size hb5
    have z5 := Nat.lt_trans z4 (size_step hb5)
    have c5 := Bc2.new w4 hb5
    have pc5 := size_step hb5
    clear y0 y1 y2 hb5 x4 z4 b4
    obtain ⟨y0, y1, y2⟩ := id x5
    go_wp2_with fail
    refine (N3.out _).mono ?_
    rintro e w6 ⟨rfl, hb6⟩
    have x6 := x5.step z5 hb6
    have b6 := below_step b5 b5.size hb6
    have z6 := Nat.lt_trans z5 (size_step hb6)
    have c6 := c5.step pc5 hb6
    have pc6 := Nat.lt_trans pc5 (size_step hb6)
    have d6 := Bc2.new w5 hb6
    have pd6 := size_step hb6
    clear y0 y1 y2 hb6 x5 z5 b5 c5 pc5
    obtain ⟨y0, y1, y2⟩ := id x6
    go_wp2_with fail
    refine (N4.out _).mono ?_
    rintro e w7 ⟨rfl, hb7⟩
    have x7 := x6.step z6 hb7
    have b7 := below_step b6 b6.size hb7
    have z7 := Nat.lt_trans z6 (size_step hb7)
    have c7 := c6.step pc6 hb7
    have d7 := d6.step pd6 hb7
    have pc7 := Nat.lt_trans pc6 (size_step hb7)
    have pd7 := Nat.lt_trans pd6 (size_step hb7)
    have f7 := Bc2.new w6 hb7
    have pf7 := size_step hb7
    clear y0 y1 y2 hb7 x6 z6 b6 c6 pc6 d6 pd6
    obtain ⟨y0, y1, y2⟩ := id x7
    go_wp2_with fail
    refine (N5.out _).mono ?_
    rintro e w8 ⟨rfl, hb8⟩
    have x8 := x7.step z7 hb8
    have b8 := below_step b7 b7.size hb8
    have z8 := Nat.lt_trans z7 (size_step hb8)
    have c8 := c7.step pc7 hb8
    have d8 := d7.step pd7 hb8
    have f8 := f7.step pf7 hb8
    have pc8 := Nat.lt_trans pc7 (size_step hb8)
    have pd8 := Nat.lt_trans pd7 (size_step hb8)
    have pf8 := Nat.lt_trans pf7 (size_step hb8)
    have g8 := Bc2.new w7 hb8
    have pg8 := size_step hb8
    clear y0 y1 y2 hb8 x7 z7 b7 c7 pc7 d7 pd7 f7 pf7
    obtain ⟨y0, y1, y2⟩ := id x8
    obtain ⟨u0, u1⟩ := id c8
    obtain ⟨u2, u3⟩ := id d8
    obtain ⟨u4, u5⟩ := id f8
    obtain ⟨u6, u7⟩ := id g8
    go_wp2_with fail
    refine (K6.out _).mono ?_
    rintro e w9 ⟨rfl, hb9⟩
    have x9 := x8.step z8 hb9
    have b9 := below_step b8 b8.size hb9
    have z9 := Nat.lt_trans z8 (size_step hb9)
    have c9 := c8.step pc8 hb9
    have d9 := d8.step pd8 hb9
    have pc9 := Nat.lt_trans pc8 (size_step hb9)
    have pd9 := Nat.lt_trans pd8 (size_step hb9)
    clear y0 y1 y2 u0 u1 u2 u3 u4 u5 u6 u7 hb9 x8 z8 b8 c8 d8 f8 g8 pc8 pd8 pf8 pg8
    obtain ⟨y0, y1, y2⟩ := id x9
    obtain ⟨u0, u1⟩ := id c9
    obtain ⟨u2, u3⟩ := id d9
    go_wp2_with fail
    refine (K7.out _).mono ?_
    rintro e w10 ⟨rfl, hb10⟩
    have x10 := x9.below hb10 z9
    have b10 := b9.trans (hb10.mono b9.size)
    have c10 := c9.below hb10 pc9
    clear y0 y1 y2 u0 u1 u2 u3 hb10 x9 z9 b9 c9 d9 pc9 pd9
    obtain ⟨y0, y1, y2⟩ := id x10
    obtain ⟨u0, u1⟩ := id c10
    go_wp2
    go_ret
    exact ⟨rfl, b10⟩
  · have n2 := fun W => Nth_no r ((i + 1 : Nat) : Int) W (.inr (by omega))
    generalize nthC r i = V at *
    generalize sizeR r = S at *
    generalize S - 1 = S' at *
    have t1 : decide ((S : Int) < 1) = false := decide_eq_false (by omega)
    have t2 : decide (((i : Int) + 1) < (S : Int)) = false := decide_eq_false (by omega)
    have t3 : decide (i + 1 < S) = false := decide_eq_false hlast
    have t5 : decide (r.lo ≤ V) = true := decide_eq_true hlo
    have t6 : decide (V ≤ r.hi) = true := decide_eq_true hhi
    have ei : ((i + 1 : Nat) : Int) = (i : Int) + 1 := by omega
    rw [ei] at n2
    have K2 := Lib.hid k2
    have K3 := Lib.hid k3
    have N1 := Lib.hid n1
    have N2 := Lib.hid n2
    have N3 := Lib.hid n3
    have N4 := Lib.hid n4
    have N5 := Lib.hid n5
    have K6 := Lib.hid k6
    clear k2 k3 n1 n2 n3 n4 n5 k6 hs hlo hhi ei
    go_enter Try.func5, Try.ntmps5
    go_wp2_with fail
    refine (awake_any _).mono ?_
    rintro e w1 ⟨rfl, hb1⟩
    have x1 : Bx w1 w.heap.size r := (Bx.new w r _).below hb1 (by simp)
    have z1 : w.heap.size < w1.heap.size := size_step hb1
    have b1 : Below w.heap.size w w1 := below_step (Below.refl _ _) (Nat.le_refl _) hb1
    clear hb1
    obtain ⟨y0, y1, y2⟩ := id x1
    go_wp2_with fail
    refine (K2.out _).mono ?_
    rintro e w2 ⟨rfl, hb2⟩
    have x2 := x1.below hb2 (by omega)
    have b2 := b1.trans (hb2.mono b1.size)
    have z2 := Nat.lt_of_lt_of_le z1 hb2.size
    clear y0 y1 y2 hb2 x1 z1 b1
    obtain ⟨y0, y1, y2⟩ := id x2
    go_wp2_with fail
    refine (K3.out _).mono ?_
    rintro e w3 ⟨rfl, hb3⟩
    have x3 := x2.below hb3 (by omega)
    have b3 := b2.trans (hb3.mono b2.size)
    have z3 := Nat.lt_of_lt_of_le z2 hb3.size
    clear y0 y1 y2 hb3 x2 z2 b2
    obtain ⟨y0, y1, y2⟩ := id x3
    go_wp2_with fail
    refine (N1.out _).mono ?_
    rintro e w4 ⟨rfl, hb4⟩
    have x4 := x3.below hb4 (by omega)
    have b4 := b3.trans (hb4.mono b3.size)
    have z4 := Nat.lt_of_lt_of_le z3 hb4.size
    clear y0 y1 y2 hb4 x3 z3 b3
    obtain ⟨y0, y1, y2⟩ := id x4
    go_wp2_with fail
    refine (N2.out _).mono ?_
    rintro e w5 ⟨rfl, hb5⟩
    have x5 := x4.step z4 hb5
    have b5 := below_step b4 b4.size hb5
    have z5 := Nat.lt_trans z4 (size_step hb5)
    have c5 := Bc2.new w4 hb5
    have pc5 := size_step hb5
    clear y0 y1 y2 hb5 x4 z4 b4
    obtain ⟨y0, y1, y2⟩ := id x5
    go_wp2_with fail
    refine (N3.out _).mono ?_
    rintro e w6 ⟨rfl, hb6⟩
    have x6 := x5.step z5 hb6
    have b6 := below_step b5 b5.size hb6
    have z6 := Nat.lt_trans z5 (size_step hb6)
    have c6 := c5.step pc5 hb6
    have pc6 := Nat.lt_trans pc5 (size_step hb6)
    have d6 := Bc2.new w5 hb6
    have pd6 := size_step hb6
    clear y0 y1 y2 hb6 x5 z5 b5 c5 pc5
    obtain ⟨y0, y1, y2⟩ := id x6
    go_wp2_with fail
    refine (N4.out _).mono ?_
    rintro e w7 ⟨rfl, hb7⟩
    have x7 := x6.step z6 hb7
    have b7 := below_step b6 b6.size hb7
    have z7 := Nat.lt_trans z6 (size_step hb7)
    have c7 := c6.step pc6 hb7
    have d7 := d6.step pd6 hb7
    have pc7 := Nat.lt_trans pc6 (size_step hb7)
    have pd7 := Nat.lt_trans pd6 (size_step hb7)
    have f7 := Bc2.new w6 hb7
    have pf7 := size_step hb7
    clear y0 y1 y2 hb7 x6 z6 b6 c6 pc6 d6 pd6
    obtain ⟨y0, y1, y2⟩ := id x7
    go_wp2_with fail
    refine (N5.out _).mono ?_
    rintro e w8 ⟨rfl, hb8⟩
    have x8 := x7.step z7 hb8
    have b8 := below_step b7 b7.size hb8
    have z8 := Nat.lt_trans z7 (size_step hb8)
    have c8 := c7.step pc7 hb8
    have d8 := d7.step pd7 hb8
    have f8 := f7.step pf7 hb8
    have pc8 := Nat.lt_trans pc7 (size_step hb8)
    have pd8 := Nat.lt_trans pd7 (size_step hb8)
    have pf8 := Nat.lt_trans pf7 (size_step hb8)
    have g8 := Bc2.new w7 hb8
    have pg8 := size_step hb8
    clear y0 y1 y2 hb8 x7 z7 b7 c7 pc7 d7 pd7 f7 pf7
    obtain ⟨y0, y1, y2⟩ := id x8
    obtain ⟨u0, u1⟩ := id c8
    obtain ⟨u2, u3⟩ := id d8
    obtain ⟨u4, u5⟩ := id f8
    obtain ⟨u6, u7⟩ := id g8
    go_wp2_with fail
    refine (K6.out _).mono ?_
    rintro e w9 ⟨rfl, hb9⟩
    have x9 := x8.step z8 hb9
    have b9 := below_step b8 b8.size hb9
    have z9 := Nat.lt_trans z8 (size_step hb9)
    have c9 := c8.step pc8 hb9
    have d9 := d8.step pd8 hb9
    have pc9 := Nat.lt_trans pc8 (size_step hb9)
    have pd9 := Nat.lt_trans pd8 (size_step hb9)
    clear y0 y1 y2 u0 u1 u2 u3 u4 u5 u6 u7 hb9 x8 z8 b8 c8 d8 f8 g8 pc8 pd8 pf8 pg8
    obtain ⟨y0, y1, y2⟩ := id x9
    obtain ⟨u0, u1⟩ := id c9
    obtain ⟨u2, u3⟩ := id d9
    go_wp2
    go_ret
    exact ⟨rfl, b9⟩
theorem counts_walk (r : Rc) (k : Int) (w : World) :
    Calls Try.prog 5 #[.agg #[.int .i64 r.n, .int .i64 r.lo, .int .i64 r.hi], .int .i64 k] w fun e w' => e = .returned (.bool true) ∧ Below w.heap.size w w' := by
  cases h : saneR r with
  | false => exact counts_no r k w h
  | true => exact counts_yes r k w h
end Go.Proofs.Ytnojapffmcnbaaa
