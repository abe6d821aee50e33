/-
  The document's own Fits.
-/
import Derived.Test.YtnojapffmcnbaaaRefRect1
namespace Go.Proofs.Ytnojapffmcnbaaa
open Go.RowKit

set_option maxRecDepth 100000 in
set_option maxHeartbeats 2000000 in
theorem rFits_any (r : Rc) (A : Option Addr) (c : Nat) (l : List UInt8) (w : World) (hA : Sl w w.heap.size A l) (hl : l.length ≤ 1000000) :
    Calls Try.prog 18 #[.agg #[.int .i64 r.n, .int .i64 r.lo, .int .i64 r.hi], .slice A l.length c] w fun e w' => e = .returned (.int .i64 (fitC r l : Nat)) ∧ Below w.heap.size w w' := by
  have k1 := rcSaneR_any r
  cases hs : saneR r with
  | false =>
    have hz := fit_no hs l
    rw [hz]
    rw [hs] at k1
    have K1 := Lib.hid k1
    clear k1 hs hz hA
    go_enter Try.func18, Try.ntmps18
    go_wp2_with fail
    refine (K1.out _).mono ?_
    rintro e w1 ⟨rfl, hb1⟩
    go_wp2
    go_ret
    exact ⟨rfl, below_step (Below.refl _ _) (Nat.le_refl _) hb1⟩
  | true =>
    have hz : fitC r l = fitN (prs r).reverse (l.map (·.toNat)) := by unfold fitC; rw [if_pos hs]
    have h0 := (saneR_iff r).1 hs
    obtain ⟨n1, n2, _⟩ := (saneB_iff _ _).1 h0.1
    rw [hs] at k1
    rw [hz]
    obtain ⟨F, hF⟩ : ∃ F, F = fitN (prs r).reverse (l.map (·.toNat)) := ⟨_, rfl⟩
    rw [← hF]
    have HF := Lib.hid hF
    have K1 := Lib.hid k1
    have K2 := Lib.hid (rlows_any r)
    have K3 := Lib.hid (rhighs_any r)
    have HS := Lib.hid hs
    have H0 := Lib.hid h0
    have HA := Lib.hid hA
    clear k1 hs hz h0 hA hF
    obtain ⟨N, hN⟩ : ∃ N, N = r.n.toNat := ⟨_, rfl⟩
    have hNr : r.n = (N : Int) := by omega
    have hN4 : N ≤ 4 := by omega
    have HN := Lib.hid hN
    have e1 : (codeL r.n r.lo).length = N := by rw [code_len H0.out.1, hN]
    have e2 : (codeL r.n r.hi).length = N := by rw [code_len H0.out.2.1, hN]
    have E1 := Lib.hid e1
    have E2 := Lib.hid e2
    have HNR := Lib.hid hNr
    clear hN e1 e2 hNr n1 n2
    go_enter Try.func18, Try.ntmps18
    go_wp2_with fail
    refine (K1.out _).mono ?_
    rintro e w1 ⟨rfl, hb1⟩
    have x1 : Bx w1 w.heap.size r := (Bx.new w r _).below hb1 (by simp)
    have z1 : w.heap.size < w1.heap.size := size_step hb1
    have b1 : Below w.heap.size w w1 := below_step (Below.refl _ _) (Nat.le_refl _) hb1
    clear hb1
    obtain ⟨y0, y1, y2⟩ := id x1
    go_wp2_with fail
    refine (K2.out _).mono ?_
    rintro e w2 ⟨A1, c1, rfl, _, hs1, hb2⟩
    rw [E1.out]
    have x2 := x1.below hb2 z1
    have b2 := b1.trans (hb2.mono b1.size)
    have z2 := Nat.lt_of_lt_of_le z1 hb2.size
    clear y0 y1 y2 hb2 x1 z1 b1
    obtain ⟨y0, y1, y2⟩ := id x2
    go_wp2_with fail
    refine (K3.out _).mono ?_
    rintro e w3 ⟨A2, c2, rfl, _, hs2, hb3⟩
    rw [E2.out]
    have x3 := x2.below hb3 z2
    have b3 := b2.trans (hb3.mono b2.size)
    have HX := Lib.hid x3
    have HS1 := Lib.hid (hs1.over hb3)
    have HS2 := Lib.hid hs2
    have HL := Lib.hid (HA.out.over b3)
    clear y0 y1 y2 hb3 x2 z2 b2 hs1 hs2 x3
    go_wp2
    go_loopw [7] (fun i wr => ∃ (k m : Nat), k ≤ N ∧ k ≤ l.length ∧ i = .int .i64 (k : Int) ∧ Hid (wr = w3.drewN m) ∧ Hid (k + fitN ((prs r).reverse.drop k) ((l.map (·.toNat)).drop k) = F)) (fun i _ => N - (intOf i).toNat)
    case atStart => exact ⟨0, 0, Nat.zero_le _, Nat.zero_le _, rfl, Lib.hid rfl, Lib.hid (by rw [HF.out, List.drop_zero, List.drop_zero, Nat.zero_add])⟩
    case round =>
      obtain ⟨k, m, hk, hkl, rfl, HW, HK⟩ := hrel
      obtain ⟨y0, y1, y2⟩ : Bx wr w.heap.size r := by rw [HW.out]; exact ⟨HX.out.c0, HX.out.c1, HX.out.c2⟩
      rw [HNR.out] at y0
      by_cases hll : k < l.length
      · have t0 : decide (k < l.length) = true := decide_eq_true hll
        by_cases hlt : k < N
        · have t1 : decide (k < N) = true := decide_eq_true hlt
          have t1' : decide ((k : Int) < (N : Int)) = true := decide_eq_true (by omega)
          obtain ⟨ba, oa, rfl, _, hca⟩ := HS1.out (by rw [E1.out]; omega)
          obtain ⟨bb, ob, rfl, _, hcb⟩ := HS2.out (by rw [E2.out]; omega)
          obtain ⟨bl, ol, rfl, _, hcl⟩ := HL.out (by omega)
          have hkn : k < r.n.toNat := by rw [← HN.out]; exact hlt
          have v1 := hca k (by rw [E1.out]; exact hlt)
          have v2 := hcb k (by rw [E2.out]; exact hlt)
          rw [code_byte H0.out.1 hkn, ← HN.out] at v1
          rw [code_byte H0.out.2.1 hkn, ← HN.out] at v2
          have v3 : wr.cell? ⟨ba, oa + k, none⟩ = some (.int .u8 (byJ r.lo (N - 1 - k))) := by rw [HW.out]; exact v1
          have v4 : wr.cell? ⟨bb, ob + k, none⟩ = some (.int .u8 (byJ r.hi (N - 1 - k))) := by rw [HW.out]; exact v2
          have v5 : wr.cell? ⟨bl, ol + k, none⟩ = some (.int .u8 ((l[k]?.getD 0).toNat : Int)) := by rw [HW.out]; exact hcl k hll
          have hp := prs_rev HS.out hkn
          rw [← HN.out] at hp
          have hd : (l.map (·.toNat))[k]? = some (l[k]?.getD 0).toNat := by rw [List.getElem?_map, List.getElem?_eq_getElem hll]; rfl
          have g1 := byJ_bnd r.lo (N - 1 - k)
          have g2 := byJ_bnd r.hi (N - 1 - k)
          generalize byJ r.lo (N - 1 - k) = X at *
          generalize byJ r.hi (N - 1 - k) = Y at *
          generalize l[k]?.getD 0 = x at *
          have hyes : (X ≤ (x.toNat : Int) ∧ (x.toNat : Int) ≤ Y) → fitN ((prs r).reverse.drop k) ((l.map (·.toNat)).drop k) = fitN ((prs r).reverse.drop (k + 1)) ((l.map (·.toNat)).drop (k + 1)) + 1 := fun e => fitN_yes hp hd (by simp only; omega)
          have hno : ¬ (X ≤ (x.toNat : Int) ∧ (x.toNat : Int) ≤ Y) → fitN ((prs r).reverse.drop k) ((l.map (·.toNat)).drop k) = 0 := fun e => fitN_no hp hd (fun h => e (by simp only at h; omega))
          have HY := Lib.hid hyes
          have HNO := Lib.hid hno
          clear hca hcb hcl v1 v2 hp hd g1 g2 hyes hno hkn
          cases t2 : decide (X ≤ (x.toNat : Int)) with
          | false =>
            go_wp2
            go_quiet (fail)
            go_wp2
            go_ret
            refine ⟨?_, by rw [HW.out]; exact below_drewN (below_drewN b3 _) _⟩
            rw [← HK.out, HNO.out (fun e => of_decide_eq_false t2 e.1)]
            rfl
          | true =>
            cases t3 : decide ((x.toNat : Int) ≤ Y) with
            | false =>
              go_wp2
              go_quiet (fail)
              go_wp2
              go_ret
              refine ⟨?_, by rw [HW.out]; exact below_drewN (below_drewN b3 _) _⟩
              rw [← HK.out, HNO.out (fun e => of_decide_eq_false t3 e.2)]
              rfl
            | true =>
              go_wp2
              go_quiet (fail)
              go_wp2
              refine ⟨⟨k + 1, m + nq, by omega, by omega, by go_num, Lib.hid (by rw [HW.out]; exact World.drewN_drewN _ _ _), Lib.hid ?_⟩, by simp [intOf]; omega⟩
              have h1 := HK.out
              rw [HY.out ⟨of_decide_eq_true t2, of_decide_eq_true t3⟩] at h1
              omega
        · have t1 : decide (k < N) = false := decide_eq_false hlt
          have t1' : decide ((k : Int) < (N : Int)) = false := decide_eq_false (by omega)
          go_wp2
          go_quiet (fail)
          go_wp2
          go_ret
          refine ⟨?_, by rw [HW.out]; exact below_drewN (below_drewN b3 _) _⟩
          have hdl : (prs r).reverse.drop k = [] := List.drop_eq_nil_of_le (by rw [List.length_reverse, prs_len HS.out, ← HN.out]; omega)
          rw [← HK.out, hdl, fitN_none]
          rfl
      · have t0 : decide (k < l.length) = false := decide_eq_false hll
        go_wp2
        go_quiet (fail)
        go_wp2
        go_ret
        refine ⟨?_, by rw [HW.out]; exact below_drewN (below_drewN b3 _) _⟩
        have hdl : (l.map (·.toNat)).drop k = [] := List.drop_eq_nil_of_le (by rw [List.length_map]; omega)
        rw [← HK.out, hdl, fitN_nil]
        rfl
end Go.Proofs.Ytnojapffmcnbaaa
