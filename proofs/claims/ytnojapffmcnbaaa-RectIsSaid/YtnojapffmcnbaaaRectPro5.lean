/-
  The program's own Fits.
-/
import Derived.Test.YtnojapffmcnbaaaRectNum
import Derived.Deep.RegionHeld
import Derived.Deep.DrawnRows
namespace Go.Proofs.Ytnojapffmcnbaaa
open Go.RowKit Go.Sort
attribute [local go_sem ↓] Go.wp_at_zero Go.wp_at_succ

set_option maxHeartbeats 4000000 in
theorem Fits_any (r : Rc) (A : Option Addr) (c : Nat) (l : List UInt8) (w : World) (hA : Sl w w.heap.size A l) (hl : l.length ≤ 1000000) :
    Calls Try.prog 17 #[.agg #[.int .i64 r.n, .int .i64 r.lo, .int .i64 r.hi], .slice A l.length c] w fun e w' => e = .returned (.int .i64 (fitC r l : Nat)) ∧ Below w.heap.size w w' := by
  have k1 := rcSane_any r
  by_cases hs : saneR r = true
  · have hz : fitC r l = fitN (prs r).reverse (l.map (·.toNat)) := by unfold fitC; rw [if_pos hs]
    have h0 := (saneR_iff r).1 hs
    obtain ⟨n1, n2, _⟩ := (saneB_iff _ _).1 h0.1
    rw [hz]
    rw [hs] at k1
    have K1 := Lib.hid k1
    have HS := Lib.hid hs
    have HA := Lib.hid hA
    obtain ⟨F, hF⟩ : ∃ F, F = fitN (prs r).reverse (l.map (·.toNat)) := ⟨_, rfl⟩
    rw [← hF]
    have HF := Lib.hid hF
    clear k1 hs hz h0 hA hF
    go_enter Try.func17, Try.ntmps17
    go_wp2_with fail
    refine (K1.out _).mono ?_
    rintro e w1 ⟨rfl, hb1⟩
    have z1 : w.heap.size < w1.heap.size := by have := hb1.size; simp at this; omega
    have x1 : Bx w1 w.heap.size r := (Bx.new w r _).below hb1 (by simp)
    have b1 : Below w.heap.size w w1 := ((Below.refl _ _).alloc (Nat.le_refl _) _).trans (hb1.mono (by simp))
    clear hb1
    obtain ⟨y0, y1, y2⟩ := id x1
    go_wp2
    go_loopw [5] (fun i wr => ∃ k : Nat, k ≤ r.n.toNat ∧ k ≤ l.length ∧ i = .int .i64 (k : Int) ∧ Hid (k + fitN ((prs r).reverse.drop k) ((l.map (·.toNat)).drop k) = F) ∧ Below w.heap.size w wr ∧ w.heap.size < wr.heap.size ∧ Hid (Bx wr w.heap.size r)) (fun i _ => r.n.toNat - (intOf i).toNat)
    case atStart => exact ⟨0, by omega, by omega, rfl, Lib.hid (by rw [HF.out, List.drop_zero, List.drop_zero, Nat.zero_add]), b1, z1, Lib.hid x1⟩
    case round =>
      clear y0 y1 y2 b1 z1
      obtain ⟨k, hk, hkl, rfl, HK, b3, z3, HX⟩ := hrel
      obtain ⟨y0, y1, y2⟩ := HX.out
      by_cases hlt : (k : Int) < r.n
      · have t0 : decide ((k : Int) < r.n) = true := decide_eq_true hlt
        by_cases hll : k < l.length
        · have t1 : decide (k < l.length) = true := decide_eq_true hll
          have c1 := fun b W => between_any r.n r.lo r.hi k b W n1 n2 (by omega) hlt
          have ej : (r.n - 1 - (k : Int)).toNat = r.n.toNat - 1 - k := by omega
          simp only [ej] at c1
          have hp := prs_rev HS.out (k := k) (by omega)
          have hd : (l.map (·.toNat))[k]? = some (l[k]?.getD 0).toNat := by rw [List.getElem?_map, List.getElem?_eq_getElem hll]; rfl
          obtain ⟨bb, o, rfl, hbb, hcl⟩ := (HA.out.below b3) (by omega)
          have hcell := hcl k hll
          clear hcl
          have b4 := byJ_bnd r.lo (r.n.toNat - 1 - k)
          have b5 := byJ_bnd r.hi (r.n.toNat - 1 - k)
          generalize hX : l[k]?.getD 0 = x at *
          have hx := x.toNat_lt
          have hw : IntKind.i64.wrap ((x.toNat : Nat) : Int) = ((x.toNat : Nat) : Int) := by rw [IntKind.wrap_i64]; omega
          have c1 := c1 (IntKind.i64.wrap ((x.toNat : Nat) : Int))
          obtain ⟨q, hq⟩ : ∃ q, q = (decide (byJ r.lo (r.n.toNat - 1 - k) ≤ IntKind.i64.wrap ((x.toNat : Nat) : Int)) && decide (IntKind.i64.wrap ((x.toNat : Nat) : Int) ≤ byJ r.hi (r.n.toNat - 1 - k))) := ⟨_, rfl⟩
          rw [← hq] at c1
          rw [hw] at hq
          have hst : q = true → fitN ((prs r).reverse.drop k) ((l.map (·.toNat)).drop k) = fitN ((prs r).reverse.drop (k + 1)) ((l.map (·.toNat)).drop (k + 1)) + 1 := fun e => by
            rw [hq, Bool.and_eq_true, decide_eq_true_eq, decide_eq_true_eq] at e
            exact fitN_yes hp hd (by simp only; omega)
          have hno : q = false → fitN ((prs r).reverse.drop k) ((l.map (·.toNat)).drop k) = 0 := fun e => by
            refine fitN_no hp hd (fun h => ?_)
            simp only at h
            rw [decide_eq_true (by omega), decide_eq_true (by omega)] at hq
            rw [e] at hq
            cases hq
          have HT := Lib.hid hst
          have HN := Lib.hid hno
          have C1 := Lib.hid c1
          clear c1 ej hp hd hst hno hq b4 b5 hX hw
          have hS : ∀ w', Below wr.heap.size wr w' → w'.cell? ⟨w.heap.size, 0, none⟩ = some (.int .i64 r.n) ∧ w'.cell? ⟨w.heap.size, 1, none⟩ = some (.int .i64 r.lo) ∧ w'.cell? ⟨w.heap.size, 2, none⟩ = some (.int .i64 r.hi) ∧ w'.cell? ⟨bb, o + k, none⟩ = some (.int .u8 ((x.toNat : Nat) : Int)) := fun w' hb => by
            have g1 := HX.out.below hb (by omega)
            exact ⟨g1.c0, g1.c1, g1.c2, (hb.cell (p := ⟨bb, o + k, none⟩) (show bb < wr.heap.size by omega)).trans hcell⟩
          have z0 : Below wr.heap.size wr wr.drew := (Below.refl _ _).drew
          have HH := Lib.hid hS
          clear hS
          cases q with
          | false =>
            go_wp2_with fail
            go_region_held (fun w' => w'.cell? ⟨w.heap.size, 0, none⟩ = some (.int .i64 r.n) ∧ w'.cell? ⟨w.heap.size, 1, none⟩ = some (.int .i64 r.lo) ∧ w'.cell? ⟨w.heap.size, 2, none⟩ = some (.int .i64 r.hi) ∧ w'.cell? ⟨bb, o + k, none⟩ = some (.int .u8 ((x.toNat : Nat) : Int)))
              (first | with_reducible exact HH.out _ z8 | with_reducible exact HH.out _ z0)
              ((go_at_call 32; with_reducible refine (C1.out _).mono ?_; rintro e x2 ⟨rfl, y8⟩; have z8 := z0.trans (y8.mono z0.size)))
            all_goals
              go_wp2
              go_ret
              refine ⟨?_, b3.trans (z8.mono (by omega))⟩
              rw [← HK.out, HN.out (by trivial)]
              rfl
          | true =>
            go_wp2_with fail
            go_region_held (fun w' => w'.cell? ⟨w.heap.size, 0, none⟩ = some (.int .i64 r.n) ∧ w'.cell? ⟨w.heap.size, 1, none⟩ = some (.int .i64 r.lo) ∧ w'.cell? ⟨w.heap.size, 2, none⟩ = some (.int .i64 r.hi) ∧ w'.cell? ⟨bb, o + k, none⟩ = some (.int .u8 ((x.toNat : Nat) : Int)))
              (first | with_reducible exact HH.out _ z8 | with_reducible exact HH.out _ z0)
              ((go_at_call 32; with_reducible refine (C1.out _).mono ?_; rintro e x2 ⟨rfl, y8⟩; have z8 := z0.trans (y8.mono z0.size)))
            all_goals
              go_wp2
              refine ⟨⟨k + 1, by omega, by omega, by go_num, Lib.hid ?_, b3.trans (z8.mono (by omega)), Nat.lt_of_lt_of_le z3 z8.size, Lib.hid (HX.out.below z8 (by omega))⟩, by simp [intOf]; omega⟩
              have h1 := HK.out
              rw [HT.out (by trivial)] at h1
              omega
        · have t1 : decide (k < l.length) = false := decide_eq_false hll
          go_wp2
          go_quiet (fail)
          go_wp2
          go_ret
          refine ⟨?_, below_drewN b3 _⟩
          have hdl : (l.map (·.toNat)).drop k = [] := List.drop_eq_nil_of_le (by rw [List.length_map]; omega)
          rw [← HK.out, hdl, fitN_nil]
          rfl
      · have t0 : decide ((k : Int) < r.n) = false := decide_eq_false hlt
        go_wp2
        go_quiet (fail)
        go_wp2
        go_ret
        refine ⟨?_, below_drewN b3 _⟩
        have hdl : (prs r).reverse.drop k = [] := List.drop_eq_nil_of_le (by rw [List.length_reverse, prs_len HS.out]; omega)
        rw [← HK.out, hdl, fitN_none]
        rfl
  · have hs' : saneR r = false := by simpa using hs
    have hz : fitC r l = 0 := by unfold fitC; rw [if_neg hs]
    rw [hz]
    rw [hs'] at k1
    have K1 := Lib.hid k1
    clear k1 hs hs' hz hA
    go_enter Try.func17, Try.ntmps17
    go_wp2_with fail
    refine (K1.out _).mono ?_
    rintro e w1 ⟨rfl, hb1⟩
    go_wp2
    go_ret
    exact ⟨rfl, ((Below.refl _ _).alloc (Nat.le_refl _) _).trans (hb1.mono (by simp))⟩
end Go.Proofs.Ytnojapffmcnbaaa
