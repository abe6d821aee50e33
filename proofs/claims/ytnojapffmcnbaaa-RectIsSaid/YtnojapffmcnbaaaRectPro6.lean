/-
  The program's own Nth.
-/
import Derived.Test.YtnojapffmcnbaaaRectPro4
import Derived.Deep.RegionHeld
import Derived.Deep.DrawnRows
namespace Go.Proofs.Ytnojapffmcnbaaa
open Go.RowKit Go.Sort
attribute [local go_sem ↓] Go.wp_at_zero Go.wp_at_succ

theorem or_at (j : Nat) (V d : Nat) (hj : j ≤ 3) (hV : V < 256 ^ j) (hd : d < 256) : bits .or .i64 (V : Int) ((d : Int) * 256 ^ j) = (V : Int) + d * 256 ^ j := by
  have e : (256 : Nat) ^ j = 2 ^ (8 * j) := by rw [show (256 : Nat) = 2 ^ 8 by decide, ← Nat.pow_mul]
  have hb : 256 ^ j ≤ 16777216 := Nat.le_trans (Nat.pow_le_pow_right (by decide) hj) (by decide)
  have hm : d * 256 ^ j ≤ 255 * 16777216 := Nat.mul_le_mul (by omega) hb
  have h := i64_or_nat V (d * 256 ^ j) (by omega) (by omega)
  have h2 : V ||| d * 256 ^ j = V + d * 256 ^ j := by
    rw [e] at hV ⊢
    have := Nat.two_pow_add_eq_or_of_lt (i := 8 * j) (b := V) hV d
    rw [Nat.or_comm, Nat.mul_comm d, ← this, Nat.add_comm]
  rw [h2] at h
  rw [Int.natCast_mul, Int.natCast_pow] at h
  rw [Int.natCast_add, Int.natCast_mul, Int.natCast_pow] at h
  exact h
/-- Two cells that may be written. -/
structure Rs (w : World) (b : Nat) : Prop where
  c0 : w.cell? ⟨b, 0, none⟩ = some (.int .i64 0)
  c1 : w.cell? ⟨b, 1, none⟩ = some (.int .i64 0)
  f0 : w.frozen? ⟨b, 0, none⟩ = false
  f1 : w.frozen? ⟨b, 1, none⟩ = false
theorem Rs.below {w w1 : World} {b B : Nat} (h : Rs w b) (hb : Below B w w1) (hB : b < B) : Rs w1 b :=
  ⟨(hb.cell (p := ⟨b, 0, none⟩) hB).trans h.c0, (hb.cell (p := ⟨b, 1, none⟩) hB).trans h.c1, (hb.frozen (p := ⟨b, 0, none⟩) hB).trans h.f0, (hb.frozen (p := ⟨b, 1, none⟩) hB).trans h.f1⟩
theorem Rs.set {w : World} {b : Nat} (h : Rs w b) (u v : Value) : ((w.setCell ⟨b, 0, none⟩ u).setCell ⟨b, 1, none⟩ v).cell? ⟨b, 0, none⟩ = some u ∧ ((w.setCell ⟨b, 0, none⟩ u).setCell ⟨b, 1, none⟩ v).cell? ⟨b, 1, none⟩ = some v := by
  have n1 : (⟨b, 1, none⟩ : Addr) ≠ ⟨b, 0, none⟩ := fun e => by injection e with _ e2; cases e2
  have n0 : (⟨b, 0, none⟩ : Addr) ≠ ⟨b, 1, none⟩ := fun e => by injection e with _ e2; cases e2
  refine ⟨?_, ?_⟩
  · rw [World.cell?_setCell_other _ _ _ _ n1]
    exact World.cell?_setCell_same _ _ _ h.c0
  · exact World.cell?_setCell_same _ _ _ ((World.cell?_setCell_other _ _ _ _ n0).trans h.c1)
set_option maxHeartbeats 4000000 in
theorem Nth_yes (r : Rc) (K : Nat) (w : World) (hs : saneR r = true) (hK : K < sizeR r) :
    Calls Try.prog 11 #[.agg #[.int .i64 r.n, .int .i64 r.lo, .int .i64 r.hi], .int .i64 (K : Nat)] w fun e w' => e = .returned (.tuple #[.agg #[.int .i64 r.n, .int .i64 (nthC r K)], .bool true]) ∧ Below w.heap.size w w' := by
  have k1 := Size_any r
  have hK2 := sizeR_le r
  have h0 := (saneR_iff r).1 hs
  have hsb := (saneR_by h0.1 h0.2.1).1 hs
  obtain ⟨n1, n2, _⟩ := (saneB_iff _ _).1 h0.1
  have t0 : decide ((K : Int) < 0) = false := decide_eq_false (by omega)
  have t1 : decide (sizeR r ≤ K) = false := decide_eq_false (by omega)
  have hwi := ntR_in K (prs_bnd hs)
  have hsm := wiR_small (prs_bnd hs) hwi
  obtain ⟨V, hV⟩ : ∃ V, V = nthC r K := ⟨_, rfl⟩
  rw [← hV]
  have HV := Lib.hid hV
  have K1 := Lib.hid k1
  have HS := Lib.hid hs
  have H0 := Lib.hid h0
  have HB := Lib.hid hsb
  have HM := Lib.hid hsm
  clear k1 hs h0 hsb hV hwi hsm
  generalize sizeR r = Z at *
  go_enter Try.func11, Try.ntmps11
  go_wp2_with fail
  refine (K1.out _).mono ?_
  rintro e w1 ⟨rfl, hb1⟩
  have z1 : w.heap.size + 1 < w1.heap.size := by have := hb1.size; simp at this; omega
  have x1 : Bx w1 w.heap.size r := (Bx.mk (by simp) (by simp) (by simp)).below hb1 (by simp; omega)
  have b1 : Below w.heap.size w w1 := (((Below.refl _ _).alloc (Nat.le_refl _) _).alloc (by simp) _).trans (hb1.mono (by simp; omega))
  have r1 : Rs w1 (w.heap.size + 1) := (Rs.mk (by simp) (by simp) (by simp) (by simp)).below hb1 (by simp)
  clear hb1
  obtain ⟨y0, y1, y2⟩ := id x1
  have hk0 : kJ (prs r) K 0 = K := by cases prs r <;> rfl
  go_wp2
  go_loopw [1, 6, 7] (fun kk a i wr => ∃ j : Nat, (j : Int) ≤ r.n ∧ i = .int .i64 (r.n - 1 - (j : Int)) ∧ a = .int .i64 ((nuR ((ntR (prs r) K).take j) : Nat) : Int) ∧ kk = .int .i64 ((kJ (prs r) K j : Nat) : Int) ∧ Hid (kJ (prs r) K j ≤ K) ∧ Below w.heap.size w wr ∧ w.heap.size + 1 < wr.heap.size ∧ Hid (Bx wr w.heap.size r) ∧ Hid (Rs wr (w.heap.size + 1))) (fun _ _ i _ => (intOf i + 1).toNat)
  case atStart => exact ⟨0, by omega, by simp, by simp [nuR], by rw [hk0], Lib.hid (by rw [hk0]; exact Nat.le_refl _), b1, z1, Lib.hid x1, Lib.hid r1⟩
  case round =>
    clear y0 y1 y2 b1 z1 hk0
    obtain ⟨j, hj, rfl, rfl, rfl, HL, b3, z3, HX, HR⟩ := hrel
    obtain ⟨y0, y1, y2⟩ := HX.out
    by_cases hlt : (j : Int) < r.n
    · have t2 : decide ((0 : Int) ≤ r.n - 1 - (j : Int)) = true := decide_eq_true (by omega)
      have c1 := fun W => bounds_any r.n r.lo r.hi (r.n - 1 - (j : Int)) W n1 n2 (by omega) (by omega)
      have ej : (r.n - 1 - (r.n - 1 - (j : Int))).toNat = j := by omega
      rw [ej] at c1
      have hjn : j < r.n.toNat := by omega
      have hp := prs_at H0.out.1 H0.out.2.1 hjn
      have hst := kJ_step (k := K) hp
      have hnt := ntR_at (k := K) hp
      have hnu := nuR_take hnt
      have hvl := nuR_lt HM.out j
      have hle := HB.out j hjn
      have b4 := byJ_bnd r.lo j
      have b5 := byJ_bnd r.hi j
      simp only at hst hnu
      have hkl := HL.out
      generalize hA : nuR ((ntR (prs r) K).take j) = A at *
      generalize hX : byJ r.lo j = x at *
      generalize hY : byJ r.hi j = y at *
      generalize hJ : kJ (prs r) K j = k at *
      have m1 : y.toNat - x.toNat + 1 = (y - x + 1).toNat := by omega
      rw [m1] at hst hnu
      obtain ⟨m, hm⟩ : ∃ m : Nat, (m : Int) = y - x + 1 := ⟨(y - x + 1).toNat, by omega⟩
      have m2 : (y - x + 1).toNat = m := by omega
      rw [m2] at hst hnu
      have m3 : 1 ≤ m := by omega
      have m4 : m ≤ 256 := by omega
      have hml := Nat.mod_lt k m3
      have hdl := Nat.div_le_self k m
      have e1 : (x.toNat + k % m : Nat) < 256 := by omega
      have hor := or_at j A (x.toNat + k % m) (by omega) hvl e1
      have ed : x + (k : Int) % (y - x + 1) = ((x.toNat + k % m : Nat) : Int) := by
        rw [← hm]
        omega
      have eq : (k : Int) / (y - x + 1) = ((k / m : Nat) : Int) := by
        rw [← hm]
        exact (Int.natCast_ediv k m).symm
      generalize hD : x.toNat + k % m = D at *
      generalize hQ : k / m = q at *
      have C1 := Lib.hid c1
      have HST := Lib.hid hst
      have HNU := Lib.hid hnu
      have HMM := Lib.hid hm
      have HOR := Lib.hid hor
      clear c1 ej hp hst hnt hnu hA hX hY hJ m1 m2 hor hD hQ hm hml
      obtain ⟨I, hI⟩ : ∃ I, I = r.n - 1 - (j : Int) := ⟨_, rfl⟩
      have i0 : 0 ≤ I := by omega
      have i1 : I ≤ 3 := by omega
      have eI : r.n - 1 - I = (j : Int) := by omega
      rw [← hI] at C1 t2 ⊢
      have EI := Lib.hid hI
      clear hI
      rcases (show j = 0 ∨ j = 1 ∨ j = 2 ∨ j = 3 by omega) with rfl | rfl | rfl | rfl
      · have o0 : bits .or .i64 (A : Int) (D : Int) = (A : Int) + D := by simpa using HOR.out
        go_wp2_with fail
        refine (C1.out _).mono ?_
        rintro e w4 ⟨rfl, hb4⟩
        have x4 := HX.out.below hb4 (by omega)
        clear y0 y1 y2
        obtain ⟨y0, y1, y2⟩ := x4
        go_wp2_with fail
        go_quiet (fail)
        go_wp2
        refine ⟨⟨1, by omega, by have := EI.out; first | rfl | (congr 1; omega), ?_, ?_, Lib.hid (by rw [HST.out]; have := HL.out; omega), below_drewN (b3.trans (hb4.mono (by omega))) _, Nat.lt_of_lt_of_le z3 hb4.size, Lib.hid ((HX.out.below hb4 (by omega)).below (below_drewN (Below.refl w4.heap.size _) _) (by have := hb4.size; omega)), Lib.hid ((HR.out.below hb4 (by omega)).below (below_drewN (Below.refl w4.heap.size _) _) (by have := hb4.size; omega))⟩, by simp [intOf]; omega⟩
        · rw [HNU.out]
          first | rfl | (congr 1; omega)
        · rw [HST.out]
      · have o0 : bits .or .i64 (A : Int) ((D : Int) * 256) = (A : Int) + D * 256 := by simpa using HOR.out
        go_wp2_with fail
        refine (C1.out _).mono ?_
        rintro e w4 ⟨rfl, hb4⟩
        have x4 := HX.out.below hb4 (by omega)
        clear y0 y1 y2
        obtain ⟨y0, y1, y2⟩ := x4
        go_wp2_with fail
        go_quiet (fail)
        go_wp2
        refine ⟨⟨2, by omega, by have := EI.out; first | rfl | (congr 1; omega), ?_, ?_, Lib.hid (by rw [HST.out]; have := HL.out; omega), below_drewN (b3.trans (hb4.mono (by omega))) _, Nat.lt_of_lt_of_le z3 hb4.size, Lib.hid ((HX.out.below hb4 (by omega)).below (below_drewN (Below.refl w4.heap.size _) _) (by have := hb4.size; omega)), Lib.hid ((HR.out.below hb4 (by omega)).below (below_drewN (Below.refl w4.heap.size _) _) (by have := hb4.size; omega))⟩, by simp [intOf]; omega⟩
        · rw [HNU.out]
          first | rfl | (congr 1; omega)
        · rw [HST.out]
      · have o0 : bits .or .i64 (A : Int) ((D : Int) * 65536) = (A : Int) + D * 65536 := by simpa using HOR.out
        go_wp2_with fail
        refine (C1.out _).mono ?_
        rintro e w4 ⟨rfl, hb4⟩
        have x4 := HX.out.below hb4 (by omega)
        clear y0 y1 y2
        obtain ⟨y0, y1, y2⟩ := x4
        go_wp2_with fail
        go_quiet (fail)
        go_wp2
        refine ⟨⟨3, by omega, by have := EI.out; first | rfl | (congr 1; omega), ?_, ?_, Lib.hid (by rw [HST.out]; have := HL.out; omega), below_drewN (b3.trans (hb4.mono (by omega))) _, Nat.lt_of_lt_of_le z3 hb4.size, Lib.hid ((HX.out.below hb4 (by omega)).below (below_drewN (Below.refl w4.heap.size _) _) (by have := hb4.size; omega)), Lib.hid ((HR.out.below hb4 (by omega)).below (below_drewN (Below.refl w4.heap.size _) _) (by have := hb4.size; omega))⟩, by simp [intOf]; omega⟩
        · rw [HNU.out]
          first | rfl | (congr 1; omega)
        · rw [HST.out]
      · have o0 : bits .or .i64 (A : Int) ((D : Int) * 16777216) = (A : Int) + D * 16777216 := by simpa using HOR.out
        go_wp2_with fail
        refine (C1.out _).mono ?_
        rintro e w4 ⟨rfl, hb4⟩
        have x4 := HX.out.below hb4 (by omega)
        clear y0 y1 y2
        obtain ⟨y0, y1, y2⟩ := x4
        go_wp2_with fail
        go_quiet (fail)
        go_wp2
        refine ⟨⟨4, by omega, by have := EI.out; first | rfl | (congr 1; omega), ?_, ?_, Lib.hid (by rw [HST.out]; have := HL.out; omega), below_drewN (b3.trans (hb4.mono (by omega))) _, Nat.lt_of_lt_of_le z3 hb4.size, Lib.hid ((HX.out.below hb4 (by omega)).below (below_drewN (Below.refl w4.heap.size _) _) (by have := hb4.size; omega)), Lib.hid ((HR.out.below hb4 (by omega)).below (below_drewN (Below.refl w4.heap.size _) _) (by have := hb4.size; omega))⟩, by simp [intOf]; omega⟩
        · rw [HNU.out]
          first | rfl | (congr 1; omega)
        · rw [HST.out]
    · have t2 : decide ((0 : Int) ≤ r.n - 1 - (j : Int)) = false := decide_eq_false (by omega)
      have ej : j = r.n.toNat := by omega
      have hV : V = ((nuR ((ntR (prs r) K).take j) : Nat) : Int) := by
        rw [HV.out, nthC, List.take_of_length_le (by rw [ntR_length, prs_len HS.out]; omega)]
      rw [← hV]
      have v0 : Hid (V = ((nuR ((ntR (prs r) K).take j) : Nat) : Int)) := Lib.hid hV
      clear hV ej
      obtain ⟨q0, q1, q2, q3⟩ := HR.out
      obtain ⟨g0, g1⟩ := HR.out.set (.int .i64 r.n) (.int .i64 V)
      have hbE : Below w.heap.size w ((wr.setCell ⟨w.heap.size + 1, 0, none⟩ (.int .i64 r.n)).setCell ⟨w.heap.size + 1, 1, none⟩ (.int .i64 V)) := (b3.setCell (by simp) _).setCell (by simp) _
      go_wp2
      clear q0 q1 q2 q3 y0 y1 y2 HR HX z3 b3
      generalize (wr.setCell ⟨w.heap.size + 1, 0, none⟩ (.int .i64 r.n)).setCell ⟨w.heap.size + 1, 1, none⟩ (.int .i64 V) = W at *
      refine bodyPost_ret (v := _) (by simp [results, Try.results11, go_sem, g0, g1]; try rfl) rfl ?_
      exact ⟨rfl, hbE⟩
set_option maxHeartbeats 1000000 in
theorem Nth_no (r : Rc) (k : Int) (w : World) (hk : k < 0 ∨ (sizeR r : Int) ≤ k) :
    Calls Try.prog 11 #[.agg #[.int .i64 r.n, .int .i64 r.lo, .int .i64 r.hi], .int .i64 k] w fun e w' => e = .returned (.tuple #[.agg #[.int .i64 0, .int .i64 0], .bool false]) ∧ Below w.heap.size w w' := by
  by_cases h0 : k < 0
  · have t0 : decide (k < 0) = true := decide_eq_true h0
    clear h0 hk
    go_enter Try.func11, Try.ntmps11
    go_wp2
    go_returns
    exact ⟨rfl, (((Below.refl _ _).alloc (Nat.le_refl _) _).alloc (by simp) _)⟩
  · have t0 : decide (k < 0) = false := decide_eq_false h0
    have t1 : decide ((sizeR r : Int) ≤ k) = true := decide_eq_true (by omega)
    have k1 := Size_any r
    generalize (sizeR r : Int) = Z at *
    have K1 := Lib.hid k1
    clear h0 hk k1
    go_enter Try.func11, Try.ntmps11
    go_wp2_with fail
    refine (K1.out _).mono ?_
    rintro e w1 ⟨rfl, hb1⟩
    have b1 : Below w.heap.size w w1 := (((Below.refl _ _).alloc (Nat.le_refl _) _).alloc (by simp) _).trans (hb1.mono (by simp; omega))
    have r1 : Rs w1 (w.heap.size + 1) := (Rs.mk (by simp) (by simp) (by simp) (by simp)).below hb1 (by simp)
    clear hb1
    obtain ⟨g0, g1⟩ := r1.set (.int .i64 0) (.int .i64 0)
    have hbE : Below w.heap.size w ((w1.setCell ⟨w.heap.size + 1, 0, none⟩ (.int .i64 0)).setCell ⟨w.heap.size + 1, 1, none⟩ (.int .i64 0)) := (b1.setCell (by simp) _).setCell (by simp) _
    obtain ⟨q0, q1, q2, q3⟩ := r1
    go_wp2
    clear q0 q1 q2 q3 b1
    generalize (w1.setCell ⟨w.heap.size + 1, 0, none⟩ (.int .i64 0)).setCell ⟨w.heap.size + 1, 1, none⟩ (.int .i64 0) = W at *
    refine bodyPost_ret (v := _) (by simp [results, Try.results11, go_sem, g0, g1]; try rfl) rfl ?_
    exact ⟨rfl, hbE⟩
end Go.Proofs.Ytnojapffmcnbaaa
