/-
  The document's own lows, highs and Sane.
-/
import Derived.Test.YtnojapffmcnbaaaRectFitP
import Derived.Test.YtnojapffmcnbaaaRefBytes
namespace Go.Proofs.Ytnojapffmcnbaaa
open Go.RowKit

theorem code_byte {n v : Int} (h : saneB n v = true) {k : Nat} (hk : k < n.toNat) : (((codeL n v)[k]?.getD 0).toNat : Int) = byJ v (n.toNat - 1 - k) := by
  have h1 := code_at h (j := n.toNat - 1 - k) (by omega)
  have hl := code_len h
  unfold revN at h1
  rw [List.getElem?_map, List.getElem?_reverse (by omega), hl, show n.toNat - 1 - (n.toNat - 1 - k) = k by omega, List.getElem?_eq_getElem (by omega)] at h1
  rw [List.getElem?_eq_getElem (by omega)]
  simp only [Option.map_some, Option.some.injEq] at h1
  simp only [Option.getD_some]
  rw [h1]
  exact Int.toNat_of_nonneg (byJ_bnd v _).1
theorem code_none {n v : Int} (h : saneB n v = false) : codeL n v = [] := by unfold codeL; rw [if_neg (by rw [h]; decide)]
set_option maxHeartbeats 1000000 in
theorem rlows_any (r : Rc) (w : World) : Calls Try.prog 28 #[.agg #[.int .i64 r.n, .int .i64 r.lo, .int .i64 r.hi]] w (RetSl w (codeL r.n r.lo)) := by
  have K1 := Lib.hid (rBytes_any r.n r.lo)
  go_enter Try.func28, Try.ntmps28
  go_wp2_with fail
  refine (K1.out _).mono ?_
  rintro e w1 ⟨A, c, rfl, hc, hs, hb⟩
  go_wp2
  go_ret
  exact ⟨A, c, rfl, hc, hs, below_step (Below.refl _ _) (Nat.le_refl _) hb⟩
set_option maxHeartbeats 1000000 in
theorem rhighs_any (r : Rc) (w : World) : Calls Try.prog 29 #[.agg #[.int .i64 r.n, .int .i64 r.lo, .int .i64 r.hi]] w (RetSl w (codeL r.n r.hi)) := by
  have K1 := Lib.hid (rBytes_any r.n r.hi)
  go_enter Try.func29, Try.ntmps29
  go_wp2_with fail
  refine (K1.out _).mono ?_
  rintro e w1 ⟨A, c, rfl, hc, hs, hb⟩
  go_wp2
  go_ret
  exact ⟨A, c, rfl, hc, hs, below_step (Below.refl _ _) (Nat.le_refl _) hb⟩
set_option maxHeartbeats 2000000 in
theorem rcSaneR_any (r : Rc) (w : World) :
    Calls Try.prog 14 #[.agg #[.int .i64 r.n, .int .i64 r.lo, .int .i64 r.hi]] w fun e w' => e = .returned (.bool (saneR r)) ∧ Below w.heap.size w w' := by
  have K1 := Lib.hid (rlows_any r)
  have K2 := Lib.hid (rhighs_any r)
  go_enter Try.func14, Try.ntmps14
  go_wp2_with fail
  refine (K1.out _).mono ?_
  rintro e w1 ⟨A1, c1, rfl, _, hs1, hb1⟩
  have x1 : Bx w1 w.heap.size r := (Bx.new w r _).below hb1 (by simp)
  have z1 : w.heap.size < w1.heap.size := size_step hb1
  have b1 : Below w.heap.size w w1 := below_step (Below.refl _ _) (Nat.le_refl _) hb1
  clear hb1
  obtain ⟨y0, y1, y2⟩ := id x1
  have HS1 := Lib.hid hs1
  clear hs1
  obtain ⟨p, hp⟩ : ∃ p, p = (codeL r.n r.lo).length := ⟨_, rfl⟩
  rw [← hp]
  have HP := Lib.hid hp
  clear hp
  go_wp2_with fail
  refine (K2.out _).mono ?_
  rintro e w2 ⟨A2, c2, rfl, _, hs2, hb2⟩
  have b2 := b1.trans (hb2.mono b1.size)
  have HS2 := Lib.hid hs2
  have HS3 := Lib.hid (HS1.out.over hb2)
  clear y0 y1 y2 hb2 x1 z1 b1 hs2 HS1
  obtain ⟨q, hq⟩ : ∃ q, q = (codeL r.n r.hi).length := ⟨_, rfl⟩
  rw [← hq]
  have HQ := Lib.hid hq
  clear hq
  cases h1 : saneB r.n r.lo with
  | false =>
    have hs : saneR r = false := by unfold saneR; rw [h1]; rfl
    have p0 : p = 0 := by rw [HP.out, code_none h1]; rfl
    subst p0
    have HSS := Lib.hid hs
    clear hs
    go_wp2
    go_ret
    refine ⟨?_, b2⟩
    rw [HSS.out]
    rfl
  | true =>
    have hpn : p = r.n.toNat := by rw [HP.out, code_len h1]
    have q1 := (saneB_iff _ _).1 h1
    have t0 : ((p : Int) == 0) = false := by rw [beq_eq_false_iff_ne]; omega
    cases h2 : saneB r.n r.hi with
    | false =>
      have hs : saneR r = false := by unfold saneR; rw [h1, h2]; rfl
      have p0 : q = 0 := by rw [HQ.out, code_none h2]; rfl
      subst p0
      have HSS := Lib.hid hs
      clear hs hpn q1
      go_wp2
      go_ret
      refine ⟨?_, b2⟩
      rw [HSS.out]
      rfl
    | true =>
      have hqn : q = p := by rw [HQ.out, code_len h2, hpn]
      subst hqn
      have hb := saneR_by h1 h2
      have HB := Lib.hid hb
      have H1 := Lib.hid h1
      have H2 := Lib.hid h2
      have HPN := Lib.hid hpn
      have hq4 : q ≤ 4 := by omega
      clear hb h1 h2 hpn q1
      go_wp2
      go_loopw [5] (fun i wr => ∃ (k m : Nat), k ≤ q ∧ i = .int .i64 (k : Int) ∧ Hid (wr = w2.drewN m) ∧ Hid (∀ j, q - k ≤ j → j < q → byJ r.lo j ≤ byJ r.hi j)) (fun i _ => q - (intOf i).toNat)
      case atStart => exact ⟨0, 0, Nat.zero_le _, rfl, Lib.hid rfl, Lib.hid (fun j h1 h2 => by omega)⟩
      case round =>
        obtain ⟨k, m, hk, rfl, HW, HJ⟩ := hrel
        by_cases hlt : k < q
        · have t1 : decide (k < q) = true := decide_eq_true hlt
          obtain ⟨ba, oa, rfl, _, hca⟩ := HS3.out (by rw [← HP.out]; omega)
          obtain ⟨bb, ob, rfl, _, hcb⟩ := HS2.out (by rw [← HQ.out]; omega)
          have v1 := hca k (by rw [← HP.out]; exact hlt)
          have v2 := hcb k (by rw [← HQ.out]; exact hlt)
          rw [code_byte H1.out (by rw [← HPN.out]; exact hlt), ← HPN.out] at v1
          rw [code_byte H2.out (by rw [← HPN.out]; exact hlt), ← HPN.out] at v2
          have v3 : wr.cell? ⟨ba, oa + k, none⟩ = some (.int .u8 (byJ r.lo (q - 1 - k))) := by rw [HW.out]; exact v1
          have v4 : wr.cell? ⟨bb, ob + k, none⟩ = some (.int .u8 (byJ r.hi (q - 1 - k))) := by rw [HW.out]; exact v2
          clear v1 v2 hca hcb
          obtain ⟨X, hX⟩ : ∃ X, X = byJ r.lo (q - 1 - k) := ⟨_, rfl⟩
          obtain ⟨Y, hY⟩ : ∃ Y, Y = byJ r.hi (q - 1 - k) := ⟨_, rfl⟩
          rw [← hX] at v3
          rw [← hY] at v4
          have HX := Lib.hid hX
          have HY := Lib.hid hY
          clear hX hY
          cases t2 : decide (Y < X) with
          | true =>
            go_wp2
            go_quiet (fail)
            go_wp2
            go_ret
            refine ⟨?_, ?_⟩
            · cases hs : saneR r with
              | false => rfl
              | true =>
                have h6 := HB.out.1 hs (q - 1 - k) (by rw [← HPN.out]; omega)
                have h5 := of_decide_eq_true t2
                rw [HX.out, HY.out] at h5
                omega
            · rw [HW.out]; exact below_drewN (below_drewN b2 _) _
          | false =>
            go_wp2
            go_quiet (fail)
            go_wp2
            refine ⟨⟨k + 1, m + nq, by omega, by go_num, Lib.hid (by rw [HW.out]; exact World.drewN_drewN _ _ _), Lib.hid (fun j h5 h6 => ?_)⟩, by simp [intOf]; omega⟩
            by_cases e : j = q - 1 - k
            · subst e
              have h5 := of_decide_eq_false t2
              rw [HX.out, HY.out] at h5
              omega
            · exact HJ.out j (by omega) h6
        · have t1 : decide (k < q) = false := decide_eq_false hlt
          go_wp2
          go_ret
          refine ⟨?_, ?_⟩
          · rw [HB.out.2 (fun j h5 => HJ.out j (by omega) (by rw [HPN.out]; exact h5))]
            rfl
          · rw [HW.out]; exact below_drewN b2 _
end Go.Proofs.Ytnojapffmcnbaaa
