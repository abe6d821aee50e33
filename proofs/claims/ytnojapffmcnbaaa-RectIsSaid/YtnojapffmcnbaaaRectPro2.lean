/-
  The program's own Sane, In, Holds.
-/
import Derived.Test.YtnojapffmcnbaaaRectBy
import Derived.Deep.RegionHeld
import Derived.Deep.DrawnRows
namespace Go.Proofs.Ytnojapffmcnbaaa
open Go.RowKit Go.Sort
attribute [local go_sem ↓] Go.wp_at_zero Go.wp_at_succ

/-- A codespace's three cells. -/
structure Bx (w : World) (b : Nat) (r : Rc) : Prop where
  c0 : w.cell? ⟨b, 0, none⟩ = some (.int .i64 r.n)
  c1 : w.cell? ⟨b, 1, none⟩ = some (.int .i64 r.lo)
  c2 : w.cell? ⟨b, 2, none⟩ = some (.int .i64 r.hi)
theorem Bx.below {w w1 : World} {b B : Nat} {r : Rc} (h : Bx w b r) (hb : Below B w w1) (hB : b < B) : Bx w1 b r :=
  ⟨(hb.cell (p := ⟨b, 0, none⟩) hB).trans h.c0, (hb.cell (p := ⟨b, 1, none⟩) hB).trans h.c1, (hb.cell (p := ⟨b, 2, none⟩) hB).trans h.c2⟩
theorem Bx.new (w : World) (r : Rc) (t : TypeId) : Bx (w.alloc (.cells #[.int .i64 r.n, .int .i64 r.lo, .int .i64 r.hi] t)) w.heap.size r := ⟨by simp, by simp, by simp⟩
/-- A code's two cells. -/
structure Bc2 (w : World) (b : Nat) (n v : Int) : Prop where
  c0 : w.cell? ⟨b, 0, none⟩ = some (.int .i64 n)
  c1 : w.cell? ⟨b, 1, none⟩ = some (.int .i64 v)
theorem Bc2.below {w w1 : World} {b B : Nat} {n v : Int} (h : Bc2 w b n v) (hb : Below B w w1) (hB : b < B) : Bc2 w1 b n v :=
  ⟨(hb.cell (p := ⟨b, 0, none⟩) hB).trans h.c0, (hb.cell (p := ⟨b, 1, none⟩) hB).trans h.c1⟩
set_option maxHeartbeats 2000000 in
theorem rcSane_any (r : Rc) (w : World) :
    Calls Try.prog 13 #[.agg #[.int .i64 r.n, .int .i64 r.lo, .int .i64 r.hi]] w fun e w' => e = .returned (.bool (saneR r)) ∧ Below w.heap.size w w' := by
  have k1 := Sane_any r.n r.lo
  have k2 := Sane_any r.n r.hi
  by_cases h1 : saneB r.n r.lo = true
  · rw [h1] at k1
    by_cases h2 : saneB r.n r.hi = true
    · rw [h2] at k2
      have hb := saneR_by h1 h2
      have hn := (saneB_iff _ _).1 h1
      obtain ⟨n1, n2, _⟩ := hn
      have HB := Lib.hid hb
      have K1 := Lib.hid k1
      have K2 := Lib.hid k2
      have H1 := Lib.hid h1
      have H2 := Lib.hid h2
      clear hb k1 k2 h1 h2
      go_enter Try.func13, Try.ntmps13
      go_wp2_with fail
      refine (K1.out _).mono ?_
      rintro e w1 ⟨rfl, hb1⟩
      have z1 : w.heap.size < w1.heap.size := by have := hb1.size; simp at this; omega
      have x1 : Bx w1 w.heap.size r := (Bx.new w r _).below hb1 (by simp)
      have b1 : Below w.heap.size w w1 := ((Below.refl _ _).alloc (Nat.le_refl _) _).trans (hb1.mono (by simp))
      clear hb1
      obtain ⟨y0, y1, y2⟩ := id x1
      go_wp2_with fail
      refine (K2.out _).mono ?_
      rintro e w2 ⟨rfl, hb2⟩
      have x2 := x1.below hb2 z1
      have b2 := b1.trans (hb2.mono (Nat.le_of_lt z1))
      have z2 : w.heap.size < w2.heap.size := Nat.lt_of_lt_of_le z1 hb2.size
      clear y0 y1 y2 x1 hb2
      obtain ⟨y0, y1, y2⟩ := id x2
      go_wp2
      go_loopw [24] (fun i wr => ∃ k : Nat, (k : Int) ≤ r.n ∧ i = .int .i64 (k : Int) ∧ Hid (∀ j, r.n.toNat - k ≤ j → j < r.n.toNat → byJ r.lo j ≤ byJ r.hi j) ∧ Below w.heap.size w wr ∧ w.heap.size < wr.heap.size ∧ Hid (Bx wr w.heap.size r)) (fun i _ => r.n.toNat - (intOf i).toNat)
      case atStart => exact ⟨0, by omega, rfl, Lib.hid (fun j h1 h2 => by omega), b2, z2, Lib.hid x2⟩
      case round =>
        clear y0 y1 y2 b2 z2
        obtain ⟨k, hk, rfl, HJ, b3, z3, HX⟩ := hrel
        obtain ⟨y0, y1, y2⟩ := HX.out
        by_cases hlt : (k : Int) < r.n
        · have t0 : decide ((k : Int) < r.n) = true := decide_eq_true hlt
          have c1 := fun W => bounds_any r.n r.lo r.hi k W n1 n2 (by omega) hlt
          have ej : (r.n - 1 - (k : Int)).toNat = r.n.toNat - (k + 1) := by omega
          rw [ej] at c1
          have C1 := Lib.hid c1
          clear c1 ej
          obtain ⟨j, hj⟩ : ∃ j, j = r.n.toNat - (k + 1) := ⟨_, rfl⟩
          rw [← hj] at C1
          have EJ := Lib.hid hj
          clear hj
          cases t1 : decide (byJ r.hi j < byJ r.lo j) with
          | true =>
            go_wp2_with fail
            refine (C1.out _).mono ?_
            rintro e w4 ⟨rfl, hb4⟩
            go_wp2
            go_ret
            refine ⟨?_, b3.trans (hb4.mono (Nat.le_of_lt z3))⟩
            cases hs : saneR r with
            | false => rfl
            | true =>
              have h6 := (HB.out.1 hs) j (by have := EJ.out; omega)
              have h5 := of_decide_eq_true t1
              omega
          | false =>
            go_wp2_with fail
            refine (C1.out _).mono ?_
            rintro e w4 ⟨rfl, hb4⟩
            go_wp2
            refine ⟨⟨k + 1, by omega, by go_num, Lib.hid (fun i h5 h6 => ?_), b3.trans (hb4.mono (Nat.le_of_lt z3)), Nat.lt_of_lt_of_le z3 hb4.size, Lib.hid (HX.out.below hb4 z3)⟩, by simp [intOf]; omega⟩
            have h7 := of_decide_eq_false t1
            have h8 := EJ.out
            by_cases e : i = j
            · subst e; omega
            · exact HJ.out i (by omega) h6
        · have t0 : decide ((k : Int) < r.n) = false := decide_eq_false hlt
          go_wp2
          go_ret
          refine ⟨?_, b3⟩
          rw [HB.out.2 (fun j h5 => HJ.out j (by omega) h5)]
          rfl
    · have h2' : saneB r.n r.hi = false := by simpa using h2
      have hs : saneR r = false := by unfold saneR; rw [h1, h2']; rfl
      rw [hs]
      rw [h2'] at k2
      have K1 := Lib.hid k1
      have K2 := Lib.hid k2
      clear k1 k2 h1 h2 h2' hs
      go_enter Try.func13, Try.ntmps13
      go_wp2_with fail
      refine (K1.out _).mono ?_
      rintro e w1 ⟨rfl, hb1⟩
      have z1 : w.heap.size < w1.heap.size := by have := hb1.size; simp at this; omega
      have x1 : Bx w1 w.heap.size r := (Bx.new w r _).below hb1 (by simp)
      have b1 : Below w.heap.size w w1 := ((Below.refl _ _).alloc (Nat.le_refl _) _).trans (hb1.mono (by simp))
      clear hb1
      obtain ⟨y0, y1, y2⟩ := id x1
      go_wp2_with fail
      refine (K2.out _).mono ?_
      rintro e w2 ⟨rfl, hb2⟩
      go_wp2
      go_ret
      exact ⟨rfl, b1.trans (hb2.mono (Nat.le_of_lt z1))⟩
  · have h1' : saneB r.n r.lo = false := by simpa using h1
    have hs : saneR r = false := by unfold saneR; rw [h1']; rfl
    rw [hs]
    rw [h1'] at k1
    have K1 := Lib.hid k1
    clear k1 k2 h1 h1' hs
    go_enter Try.func13, Try.ntmps13
    go_wp2_with fail
    refine (K1.out _).mono ?_
    rintro e w1 ⟨rfl, hb1⟩
    go_wp2
    go_ret
    exact ⟨rfl, ((Below.refl _ _).alloc (Nat.le_refl _) _).trans (hb1.mono (by simp))⟩
set_option maxHeartbeats 4000000 in
theorem In_yes (r : Rc) (v : Int) (w : World) (hs : saneR r = true) (hv : saneB r.n v = true) :
    Calls Try.prog 15 #[.agg #[.int .i64 r.n, .int .i64 r.lo, .int .i64 r.hi], .agg #[.int .i64 r.n, .int .i64 v]] w fun e w' => e = .returned (.bool (inC r r.n v)) ∧ Below w.heap.size w w' := by
  have k1 := rcSane_any r
  have k2 := Sane_any r.n v
  have hb := inC_by hs hv
  rw [hs] at k1
  rw [hv] at k2
  obtain ⟨n1, n2, _⟩ := (saneB_iff _ _).1 hv
  have HB := Lib.hid hb
  have K1 := Lib.hid k1
  have K2 := Lib.hid k2
  clear hb k1 k2 hs hv
  go_enter Try.func15, Try.ntmps15
  go_wp2_with fail
  refine (K1.out _).mono ?_
  rintro e w1 ⟨rfl, hb1⟩
  have z1 : w.heap.size + 1 < w1.heap.size := by have := hb1.size; simp at this; omega
  have x1 : Bx w1 w.heap.size r := (Bx.mk (by simp) (by simp) (by simp)).below hb1 (by simp; omega)
  have v1 : Bc2 w1 (w.heap.size + 1) r.n v := (Bc2.mk (by simp) (by simp)).below hb1 (by simp)
  have b1 : Below w.heap.size w w1 := (((Below.refl _ _).alloc (Nat.le_refl _) _).alloc (by simp) _).trans (hb1.mono (by simp; omega))
  clear hb1
  obtain ⟨y0, y1, y2⟩ := id x1
  obtain ⟨u0, u1⟩ := id v1
  go_wp2_with fail
  refine (K2.out _).mono ?_
  rintro e w2 ⟨rfl, hb2⟩
  have x2 := x1.below hb2 (by omega)
  have v2 := v1.below hb2 (by omega)
  have b2 := b1.trans (hb2.mono (by omega))
  have z2 : w.heap.size + 1 < w2.heap.size := Nat.lt_of_lt_of_le z1 hb2.size
  clear y0 y1 y2 u0 u1 x1 v1 hb2
  obtain ⟨y0, y1, y2⟩ := id x2
  obtain ⟨u0, u1⟩ := id v2
  go_wp2
  go_loopw [23] (fun i wr => ∃ k : Nat, (k : Int) ≤ r.n ∧ i = .int .i64 (k : Int) ∧ Hid (∀ j, r.n.toNat - k ≤ j → j < r.n.toNat → byJ r.lo j ≤ byJ v j ∧ byJ v j ≤ byJ r.hi j) ∧ Below w.heap.size w wr ∧ w.heap.size + 1 < wr.heap.size ∧ Hid (Bx wr w.heap.size r) ∧ Hid (Bc2 wr (w.heap.size + 1) r.n v)) (fun i _ => r.n.toNat - (intOf i).toNat)
  case atStart => exact ⟨0, by omega, rfl, Lib.hid (fun j h1 h2 => by omega), b2, z2, Lib.hid x2, Lib.hid v2⟩
  case round =>
    clear y0 y1 y2 u0 u1 b2 z2
    obtain ⟨k, hk, rfl, HJ, b3, z3, HX, HV⟩ := hrel
    obtain ⟨y0, y1, y2⟩ := HX.out
    obtain ⟨u0, u1⟩ := HV.out
    by_cases hlt : (k : Int) < r.n
    · have t0 : decide ((k : Int) < r.n) = true := decide_eq_true hlt
      have c1 := fun W => byteAt_any r.n v k W n1 n2 (by omega) hlt
      have c2 := fun b W => between_any r.n r.lo r.hi k b W n1 n2 (by omega) hlt
      have ej : (r.n - 1 - (k : Int)).toNat = r.n.toNat - (k + 1) := by omega
      rw [ej] at c1
      simp only [ej] at c2
      obtain ⟨j, hj⟩ : ∃ j, j = r.n.toNat - (k + 1) := ⟨_, rfl⟩
      rw [← hj] at c1
      simp only [← hj] at c2
      have EJ := Lib.hid hj
      have c2 := c2 (byJ v j)
      obtain ⟨q, hq⟩ : ∃ q, q = (decide (byJ r.lo j ≤ byJ v j) && decide (byJ v j ≤ byJ r.hi j)) := ⟨_, rfl⟩
      rw [← hq] at c2
      have C1 := Lib.hid c1
      have C2 := Lib.hid c2
      have HQ := Lib.hid hq
      clear c1 c2 ej hj hq
      have hS : ∀ w', Below wr.heap.size wr w' → w'.cell? ⟨w.heap.size, 0, none⟩ = some (.int .i64 r.n) ∧ w'.cell? ⟨w.heap.size, 1, none⟩ = some (.int .i64 r.lo) ∧ w'.cell? ⟨w.heap.size, 2, none⟩ = some (.int .i64 r.hi) ∧ w'.cell? ⟨w.heap.size + 1, 0, none⟩ = some (.int .i64 r.n) ∧ w'.cell? ⟨w.heap.size + 1, 1, none⟩ = some (.int .i64 v) := fun w' hb => by
        have g1 := HX.out.below hb (by omega)
        have g2 := HV.out.below hb (by omega)
        exact ⟨g1.c0, g1.c1, g1.c2, g2.c0, g2.c1⟩
      have z0 : Below wr.heap.size wr wr.drew := (Below.refl _ _).drew
      have HS := Lib.hid hS
      clear hS
      cases q with
      | false =>
        go_wp2_with fail
        go_region_held (fun w' => w'.cell? ⟨w.heap.size, 0, none⟩ = some (.int .i64 r.n) ∧ w'.cell? ⟨w.heap.size, 1, none⟩ = some (.int .i64 r.lo) ∧ w'.cell? ⟨w.heap.size, 2, none⟩ = some (.int .i64 r.hi) ∧ w'.cell? ⟨w.heap.size + 1, 0, none⟩ = some (.int .i64 r.n) ∧ w'.cell? ⟨w.heap.size + 1, 1, none⟩ = some (.int .i64 v))
          (first | exact HS.out _ z8 | exact HS.out _ z0)
          (first
            | (go_at_call 33; refine (C1.out _).mono ?_; rintro e x1 ⟨rfl, rfl⟩)
            | (go_at_call 32; refine (C2.out _).mono ?_; rintro e x2 ⟨rfl, y8⟩; have z8 := z0.trans (y8.mono z0.size)))
        all_goals
          go_wp2
          go_ret
          refine ⟨?_, b3.trans (z8.mono (by omega))⟩
          cases hs : inC r r.n v with
          | false => rfl
          | true =>
            have h6 := (HB.out.1 hs) j (by have := EJ.out; omega)
            have h7 := HQ.out
            rw [decide_eq_true h6.1, decide_eq_true h6.2] at h7
            cases h7
      | true =>
        go_wp2_with fail
        go_region_held (fun w' => w'.cell? ⟨w.heap.size, 0, none⟩ = some (.int .i64 r.n) ∧ w'.cell? ⟨w.heap.size, 1, none⟩ = some (.int .i64 r.lo) ∧ w'.cell? ⟨w.heap.size, 2, none⟩ = some (.int .i64 r.hi) ∧ w'.cell? ⟨w.heap.size + 1, 0, none⟩ = some (.int .i64 r.n) ∧ w'.cell? ⟨w.heap.size + 1, 1, none⟩ = some (.int .i64 v))
          (first | exact HS.out _ z8 | exact HS.out _ z0)
          (first
            | (go_at_call 33; refine (C1.out _).mono ?_; rintro e x1 ⟨rfl, rfl⟩)
            | (go_at_call 32; refine (C2.out _).mono ?_; rintro e x2 ⟨rfl, y8⟩; have z8 := z0.trans (y8.mono z0.size)))
        all_goals
          go_wp2
          refine ⟨⟨k + 1, by omega, by go_num, Lib.hid (fun i h5 h6 => ?_), b3.trans (z8.mono (by omega)), Nat.lt_of_lt_of_le z3 z8.size, Lib.hid (HX.out.below z8 (by omega)), Lib.hid (HV.out.below z8 (by omega))⟩, by simp [intOf]; omega⟩
          have h7 := HQ.out.symm
          rw [Bool.and_eq_true, decide_eq_true_eq, decide_eq_true_eq] at h7
          have h8 := EJ.out
          by_cases e : i = j
          · subst e; exact h7
          · exact HJ.out i (by omega) h6
    · have t0 : decide ((k : Int) < r.n) = false := decide_eq_false hlt
      go_wp2
      go_ret
      refine ⟨?_, b3⟩
      rw [HB.out.2 (fun j h5 => HJ.out j (by omega) h5)]
      rfl
end Go.Proofs.Ytnojapffmcnbaaa
