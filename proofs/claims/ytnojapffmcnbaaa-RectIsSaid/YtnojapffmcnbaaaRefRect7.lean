/-
  The document's own Size.
-/
import Derived.Test.YtnojapffmcnbaaaRefRect3
namespace Go.Proofs.Ytnojapffmcnbaaa
open Go.RowKit

set_option maxRecDepth 100000 in
set_option maxHeartbeats 2000000 in
theorem rSize_any (r : Rc) (w : World) :
    Calls Try.prog 20 #[.agg #[.int .i64 r.n, .int .i64 r.lo, .int .i64 r.hi]] w fun e w' => e = .returned (.int .i64 (sizeR r : Nat)) ∧ Below w.heap.size w w' := by
  have k1 := rcSaneR_any r
  cases hs : saneR r with
  | false =>
    have hz : sizeR r = 0 := by unfold sizeR; rw [if_neg (by rw [hs]; decide)]
    rw [hz]
    rw [hs] at k1
    have K1 := Lib.hid k1
    clear k1 hs hz
    go_enter Try.func20, Try.ntmps20
    go_wp2_with fail
    refine (K1.out _).mono ?_
    rintro e w1 ⟨rfl, hb1⟩
    go_wp2
    go_ret
    exact ⟨rfl, below_step (Below.refl _ _) (Nat.le_refl _) hb1⟩
  | true =>
    have hz : sizeR r = szR (prs r) := by unfold sizeR; rw [if_pos hs]
    have h0 := (saneR_iff r).1 hs
    have hsb := saneR_by h0.1 h0.2.1
    obtain ⟨n1, n2, _⟩ := (saneB_iff _ _).1 h0.1
    rw [hs] at k1
    rw [hz]
    have K1 := Lib.hid k1
    have K2 := Lib.hid (rlows_any r)
    have K3 := Lib.hid (rhighs_any r)
    have HS := Lib.hid hs
    have H0 := Lib.hid h0
    have HB := Lib.hid hsb
    clear k1 hs hz h0 hsb
    obtain ⟨N, hN⟩ : ∃ N, N = r.n.toNat := ⟨_, rfl⟩
    have hNr : r.n = (N : Int) := by omega
    have hN4 : N ≤ 4 := by omega
    have HN := Lib.hid hN
    have e1 : (codeL r.n r.lo).length = N := by rw [code_len H0.out.1, hN]
    have e2 : (codeL r.n r.hi).length = N := by rw [code_len H0.out.2.1, hN]
    have E1 := Lib.hid e1
    have E2 := Lib.hid e2
    have HNR := Lib.hid hNr
    clear hN e1 e2 hNr n1 n2
    go_enter Try.func20, Try.ntmps20
    go_wp2_with fail
    refine (K1.out _).mono ?_
    rintro e w1 ⟨rfl, hb1⟩
    have x1 : Bx w1 w.heap.size r := (Bx.new w r _).below hb1 (by simp)
    have z1 : w.heap.size < w1.heap.size := size_step hb1
    have b1 : Below w.heap.size w w1 := below_step (Below.refl _ _) (Nat.le_refl _) hb1
    clear hb1
    obtain ⟨y0, y1, y2⟩ := id x1
    go_wp2_with fail
    refine (K2.out _).mono ?_
    rintro e w2 ⟨A1, c1, rfl, _, hs1, hb2⟩
    rw [E1.out]
    have x2 := x1.below hb2 z1
    have b2 := b1.trans (hb2.mono b1.size)
    have z2 := Nat.lt_of_lt_of_le z1 hb2.size
    clear y0 y1 y2 hb2 x1 z1 b1
    obtain ⟨y0, y1, y2⟩ := id x2
    go_wp2_with fail
    refine (K3.out _).mono ?_
    rintro e w3 ⟨A2, c2, rfl, _, hs2, hb3⟩
    rw [E2.out]
    have x3 := x2.below hb3 z2
    have b3 := b2.trans (hb3.mono b2.size)
    have HX := Lib.hid x3
    have HS1 := Lib.hid (hs1.over hb3)
    have HS2 := Lib.hid hs2
    clear y0 y1 y2 hb3 x2 z2 b2 hs1 hs2 x3
    go_wp2
    go_loopw [5, 6] (fun a i wr => ∃ (k m : Nat), k ≤ N ∧ i = .int .i64 (k : Int) ∧ a = .int .i64 ((szR ((prs r).drop (N - k)) : Nat) : Int) ∧ Hid (wr = w3.drewN m)) (fun _ i _ => N - (intOf i).toNat)
    case atStart =>
      refine ⟨0, 0, Nat.zero_le _, rfl, ?_, Lib.hid rfl⟩
      rw [List.drop_eq_nil_of_le (by rw [prs_len HS.out, ← HN.out]; omega)]
      rfl
    case round =>
      obtain ⟨k, m, hk, rfl, rfl, HW⟩ := hrel
      obtain ⟨y0, y1, y2⟩ : Bx wr w.heap.size r := by rw [HW.out]; exact ⟨HX.out.c0, HX.out.c1, HX.out.c2⟩
      rw [HNR.out] at y0
      by_cases hlt : k < N
      · have t1 : decide (k < N) = true := decide_eq_true hlt
        have t1' : decide ((k : Int) < (N : Int)) = true := decide_eq_true (by omega)
        obtain ⟨ba, oa, rfl, _, hca⟩ := HS1.out (by rw [E1.out]; omega)
        obtain ⟨bb, ob, rfl, _, hcb⟩ := HS2.out (by rw [E2.out]; omega)
        have hkn : k < r.n.toNat := by rw [← HN.out]; exact hlt
        have v1 := hca k (by rw [E1.out]; exact hlt)
        have v2 := hcb k (by rw [E2.out]; exact hlt)
        rw [code_byte H0.out.1 hkn, ← HN.out] at v1
        rw [code_byte H0.out.2.1 hkn, ← HN.out] at v2
        have v3 : wr.cell? ⟨ba, oa + k, none⟩ = some (.int .u8 (byJ r.lo (N - 1 - k))) := by rw [HW.out]; exact v1
        have v4 : wr.cell? ⟨bb, ob + k, none⟩ = some (.int .u8 (byJ r.hi (N - 1 - k))) := by rw [HW.out]; exact v2
        obtain ⟨j, hj⟩ : ∃ j, j = N - 1 - k := ⟨_, rfl⟩
        rw [← hj] at v3 v4
        have hj1 : N - k = j + 1 := by omega
        have hjn : j < r.n.toNat := by rw [← HN.out]; omega
        have hst := szR_drop (prs_at H0.out.1 H0.out.2.1 hjn)
        have hle := HB.out.1 HS.out j hjn
        have b4 := byJ_bnd r.lo j
        have b5 := byJ_bnd r.hi j
        have hsm := szR_small HS.out (j := j + 1) (by omega) (by rw [← HN.out]; omega)
        rw [hj1]
        generalize hA : szR ((prs r).drop (j + 1)) = a at *
        generalize hX : byJ r.lo j = x at *
        generalize hY : byJ r.hi j = y at *
        have wx : IntKind.i64.wrap x = x := by rw [IntKind.wrap_i64]; omega
        have wy : IntKind.i64.wrap y = y := by rw [IntKind.wrap_i64]; omega
        have hP0 : (0 : Int) ≤ (a : Int) * (y - x + 1) := Int.mul_nonneg (by omega) (by omega)
        have hP1 : (a : Int) * (y - x + 1) ≤ 16777216 * 256 := Int.mul_le_mul (by omega) (by omega) (by omega) (by omega)
        have hE : ((szR ((prs r).drop j) : Nat) : Int) = (a : Int) * (y - x + 1) := by
          rw [hst, Int.natCast_mul, Int.mul_comm]
          congr 1
          simp only
          omega
        have HE := Lib.hid hE
        have EJ := Lib.hid hj
        clear hca hcb v1 v2 hkn hj hst hE hA hX hY hj1
        go_wp2_with fail
        go_quiet (fail)
        go_wp2
        refine ⟨⟨k + 1, m + nq, by omega, by go_num, ?_, Lib.hid (by rw [HW.out]; exact World.drewN_drewN _ _ _)⟩, by simp [intOf]; omega⟩
        rw [show N - (k + 1) = j by have := EJ.out; omega, HE.out]
      · have t1 : decide (k < N) = false := decide_eq_false hlt
        have t1' : decide ((k : Int) < (N : Int)) = false := decide_eq_false (by omega)
        have ek : N - k = 0 := by omega
        rw [ek, List.drop_zero]
        go_wp2
        go_ret
        exact ⟨rfl, by rw [HW.out]; exact below_drewN b3 _⟩
end Go.Proofs.Ytnojapffmcnbaaa
