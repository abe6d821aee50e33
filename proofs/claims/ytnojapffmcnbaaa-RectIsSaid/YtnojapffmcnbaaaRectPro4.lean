/-
  The program's own Size.
-/
import Derived.Test.YtnojapffmcnbaaaRectNum
import Derived.Deep.RegionHeld
import Derived.Deep.DrawnRows
namespace Go.Proofs.Ytnojapffmcnbaaa
open Go.RowKit Go.Sort
attribute [local go_sem ↓] Go.wp_at_zero Go.wp_at_succ

theorem szR_small {r : Rc} (h : saneR r = true) {j : Nat} (hj : 1 ≤ j) (hn : r.n.toNat ≤ 4) : szR ((prs r).drop j) ≤ 16777216 := by
  have h1 := szR_le (p := (prs r).drop j) (fun q hq => prs_bnd h q (List.mem_of_mem_drop hq))
  exact Nat.le_trans h1 (Nat.le_trans (Nat.pow_le_pow_right (by decide) (by rw [List.length_drop, prs_len h]; omega : _ ≤ 3)) (by decide))
set_option maxHeartbeats 2000000 in
theorem Size_any (r : Rc) (w : World) :
    Calls Try.prog 19 #[.agg #[.int .i64 r.n, .int .i64 r.lo, .int .i64 r.hi]] w fun e w' => e = .returned (.int .i64 (sizeR r : Nat)) ∧ Below w.heap.size w w' := by
  have k1 := rcSane_any r
  by_cases hs : saneR r = true
  · have hz : sizeR r = szR (prs r) := by unfold sizeR; rw [if_pos hs]
    have h0 := (saneR_iff r).1 hs
    have hsb := saneR_by h0.1 h0.2.1
    obtain ⟨n1, n2, _⟩ := (saneB_iff _ _).1 h0.1
    rw [hz]
    rw [hs] at k1
    have K1 := Lib.hid k1
    have HS := Lib.hid hs
    have H0 := Lib.hid h0
    have HB := Lib.hid hsb
    clear k1 hs hz h0 hsb
    go_enter Try.func19, Try.ntmps19
    go_wp2_with fail
    refine (K1.out _).mono ?_
    rintro e w1 ⟨rfl, hb1⟩
    have z1 : w.heap.size < w1.heap.size := by have := hb1.size; simp at this; omega
    have x1 : Bx w1 w.heap.size r := (Bx.new w r _).below hb1 (by simp)
    have b1 : Below w.heap.size w w1 := ((Below.refl _ _).alloc (Nat.le_refl _) _).trans (hb1.mono (by simp))
    clear hb1
    obtain ⟨y0, y1, y2⟩ := id x1
    go_wp2
    go_loopw [3, 12] (fun a i wr => ∃ k : Nat, (k : Int) ≤ r.n ∧ i = .int .i64 (k : Int) ∧ a = .int .i64 ((szR ((prs r).drop (r.n.toNat - k)) : Nat) : Int) ∧ Below w.heap.size w wr ∧ w.heap.size < wr.heap.size ∧ Hid (Bx wr w.heap.size r)) (fun _ i _ => r.n.toNat - (intOf i).toNat)
    case atStart =>
      refine ⟨0, by omega, rfl, ?_, b1, z1, Lib.hid x1⟩
      rw [List.drop_eq_nil_of_le (by rw [prs_len HS.out]; omega)]
      rfl
    case round =>
      clear y0 y1 y2 b1 z1
      obtain ⟨k, hk, rfl, rfl, b3, z3, HX⟩ := hrel
      obtain ⟨y0, y1, y2⟩ := HX.out
      by_cases hlt : (k : Int) < r.n
      · have t0 : decide ((k : Int) < r.n) = true := decide_eq_true hlt
        have c1 := fun W => bounds_any r.n r.lo r.hi k W n1 n2 (by omega) hlt
        have ej : (r.n - 1 - (k : Int)).toNat = r.n.toNat - (k + 1) := by omega
        rw [ej] at c1
        obtain ⟨j, hj⟩ : ∃ j, j = r.n.toNat - (k + 1) := ⟨_, rfl⟩
        rw [← hj] at c1
        have hj1 : r.n.toNat - k = j + 1 := by omega
        have hjn : j < r.n.toNat := by omega
        have hp := prs_at H0.out.1 H0.out.2.1 hjn
        have hst := szR_drop hp
        have hle := HB.out.1 HS.out j hjn
        have b4 := byJ_bnd r.lo j
        have b5 := byJ_bnd r.hi j
        have hsm := szR_small HS.out (j := j + 1) (by omega) (by omega)
        rw [hj1]
        have hpo := szR_pos ((prs r).drop (j + 1))
        generalize hA : szR ((prs r).drop (j + 1)) = A at *
        generalize hX : byJ r.lo j = x at *
        generalize hY : byJ r.hi j = y at *
        have hP0 : (0 : Int) ≤ (A : Int) * (y - x + 1) := Int.mul_nonneg (by omega) (by omega)
        have hP1 : (A : Int) * (y - x + 1) ≤ 16777216 * 256 := Int.mul_le_mul (by omega) (by omega) (by omega) (by omega)
        have hE : ((szR ((prs r).drop j) : Nat) : Int) = (A : Int) * (y - x + 1) := by
          rw [hst, Int.natCast_mul, Int.mul_comm]
          congr 1
          simp only
          omega
        have HE := Lib.hid hE
        have EJ := Lib.hid hj
        have C1 := Lib.hid c1
        clear c1 ej hj hst hE hp hA hX hY hj1
        go_wp2_with fail
        refine (C1.out _).mono ?_
        rintro e w4 ⟨rfl, hb4⟩
        go_wp2
        refine ⟨⟨k + 1, by omega, by go_num, ?_, b3.trans (hb4.mono (Nat.le_of_lt z3)), Nat.lt_of_lt_of_le z3 hb4.size, Lib.hid (HX.out.below hb4 z3)⟩, by simp [intOf]; omega⟩
        rw [← EJ.out, HE.out]
      · have t0 : decide ((k : Int) < r.n) = false := decide_eq_false hlt
        have ek : r.n.toNat - k = 0 := by omega
        rw [ek, List.drop_zero]
        go_wp2
        go_ret
        exact ⟨rfl, b3⟩
  · have hs' : saneR r = false := by simpa using hs
    have hz : sizeR r = 0 := by unfold sizeR; rw [if_neg hs]
    rw [hz]
    rw [hs'] at k1
    have K1 := Lib.hid k1
    clear k1 hs hs' hz
    go_enter Try.func19, Try.ntmps19
    go_wp2_with fail
    refine (K1.out _).mono ?_
    rintro e w1 ⟨rfl, hb1⟩
    go_wp2
    go_ret
    exact ⟨rfl, ((Below.refl _ _).alloc (Nat.le_refl _) _).trans (hb1.mono (by simp))⟩
end Go.Proofs.Ytnojapffmcnbaaa
