/-
  tok.needsDigits and tok.showStr: a Str's bytes, written.
-/
import Derived.Test.YtjlecollphgmcaaDoorTokStr
import Derived.Test.YtjlecollphgmcaaDoorLexWrite
namespace Go.Proofs.YtjlecollphgmcaaDoor
open Go.RowKit

theorem eqb {x : UInt8} (c : UInt8) : ((x.toNat : Int) == (c.toNat : Int)) = (x == c) := by
  by_cases h : x = c
  · subst h; simp
  · have h1 : (x == c) = false := by rw [beq_eq_false_iff_ne]; exact h
    rw [h1, beq_eq_false_iff_ne]
    intro e
    exact h (eq_of_toNat (by omega))
set_option maxHeartbeats 1000000 in
theorem sneed_any (x : UInt8) (w : World) :
    Calls Tryd.prog 43 #[.int .u8 (x.toNat : Int)] w fun e w' => e = .returned (.bool (sneed x)) ∧ w = w' := by
  have hx1 := x.toNat_lt
  have e1 : ((x.toNat : Int) == 40) = (x == 40) := eqb 40
  have e2 : ((x.toNat : Int) == 41) = (x == 41) := eqb 41
  have e3 : ((x.toNat : Int) == 92) = (x == 92) := eqb 92
  have e4 : decide ((x.toNat : Int) < 32) = decide (x.toNat < 32) := by by_cases h : x.toNat < 32 <;> simp [h] <;> omega
  have e5 : decide ((126 : Int) < (x.toNat : Int)) = decide (126 < x.toNat) := by by_cases h : 126 < x.toNat <;> simp [h] <;> omega
  unfold sneed
  generalize (x == 40) = b1 at *
  generalize (x == 41) = b2 at *
  generalize (x == 92) = b3 at *
  generalize decide (x.toNat < 32) = b4 at *
  generalize decide (126 < x.toNat) = b5 at *
  cases b1
  · cases b2
    · cases b3
      · cases b4
        · go_enter Tryd.func43, Tryd.ntmps43
          go_wp2
          go_ret
          exact ⟨by simp, rfl⟩
        · go_enter Tryd.func43, Tryd.ntmps43
          go_wp2
          go_ret
          exact ⟨by simp, rfl⟩
      · go_enter Tryd.func43, Tryd.ntmps43
        go_wp2
        go_ret
        exact ⟨by simp, rfl⟩
    · go_enter Tryd.func43, Tryd.ntmps43
      go_wp2
      go_ret
      exact ⟨by simp, rfl⟩
  · go_enter Tryd.func43, Tryd.ntmps43
    go_wp2
    go_ret
    exact ⟨by simp, rfl⟩

theorem u8_mask3 (n : Int) (h0 : 0 ≤ n) (h1 : n < 256) : bits .and .u8 n 7 = n % 8 := by
  have h : ∀ k : Fin 256, bits .and .u8 ((k.val : Nat) : Int) 7 = ((k.val : Nat) : Int) % 8 := by decide +kernel
  have := h ⟨n.toNat, by omega⟩
  simp only at this
  rwa [show ((n.toNat : Nat) : Int) = n by omega] at this
theorem q_step {l out : List UInt8} {k : Nat} {x : UInt8} (hlt : k < l.length) (hx : x = l[k]?.getD 0) (h : out ++ qL (l.drop k) = 40 :: qL l) : (out ++ sb x) ++ qL (l.drop (k + 1)) = 40 :: qL l := by
  rw [drop_at hlt hx, qL_cons] at h
  rw [List.append_assoc]; exact h
theorem own_bytes {w : World} {base n : Nat} {e : TypeId} {v : Value} {out o : List UInt8} (h : w.ownsRow base e 1 v n (bvs out ++ bvs o)) (hn : n = out.length + o.length) : w.ownsRow base e 1 v (out ++ o).length (bvs (out ++ o)) := by rw [bvs_append, List.length_append, ← hn]; exact h

theorem conv_own {w : World} {base n : Nat} {v : Value} {out : List UInt8} {x : UInt8} (h : w.ownsRow base 5 1 v n (bvs out ++ bvs [x])) (hn : n = out.length + 1) : (convert 35 9 v).run Tryd.prog w = .ok (.string (str (out ++ [x]))) w := by
  obtain ⟨c, _, _, A, rfl, hsl⟩ := Sl.of_own (own_byte h hn)
  exact conv8 hsl c

set_option maxRecDepth 100000 in
set_option maxHeartbeats 4000000 in
theorem showStr_any (l : List UInt8) (w : World) (hl : l.length ≤ 65536) :
    Calls Tryd.prog 27 #[.string (str l)] w fun e w' => e = .returned (.string (str (40 :: (qL l ++ [41])))) ∧ Below w.heap.size w w' := by
  obtain ⟨i0, hi, hz0, hz1, hz2⟩ := info_parts info8
  obtain ⟨cap, C, w2, hcv, hrow, hget, hb2, hsz2, hcap⟩ := run_bytes_row (P := Tryd.prog) (w.alloc (.cells #[.int .u8 40] 5)) 9 35 5 l Tryd.underlying9 Tryd.underlying35 Tryd.underlying5
  have hown1 : (w.alloc (.cells #[.int .u8 40] 5)).ownsRow w.heap.size 5 1 (.slice (some ⟨w.heap.size, 0, none⟩) 1 1) 1 (bvs [40]) := World.ownsRow_lit w #[.int .u8 40] 1 (Nat.le_refl _) (by unfold maxLen; omega) rfl
  have hb1 : Below w.heap.size w (w.alloc (.cells #[.int .u8 40] 5)) := (Below.refl _ _).alloc (Nat.le_refl _) _
  have hown2 : w2.ownsRow w.heap.size 5 1 (.slice (some ⟨w.heap.size, 0, none⟩) 1 1) [40].length (bvs [40]) := own_below hown1 hb2 (Nat.le_refl _)
  have hbw : Below w.heap.size w w2 := hb1.trans (hb2.mono hb1.size)
  have hSs : (w.alloc (.cells #[.int .u8 40] 5)).heap.size = w.heap.size + 1 := by simp
  rw [hSs] at hcv hrow hb2 hsz2
  obtain ⟨S, hS⟩ : ∃ S, S = w.heap.size + 1 := ⟨_, rfl⟩
  rw [← hS] at hcv hrow hb2 hsz2
  have HG := Lib.hid hget
  have HR := Lib.hid hrow
  clear hget hrow hb2 hown1 hb1 hS hSs
  go_enter Tryd.func27, Tryd.ntmps27
  go_wp2
  clear hcv
  generalize (Value.slice (some ⟨w.heap.size, 0, none⟩) 1 1) = v1 at *
  go_loopw [3, 10] (fun v i wr => ∃ (k : Nat) (out : List UInt8), k ≤ l.length ∧ out.length ≤ 1 + 4 * k ∧ i = .int .i64 k ∧ Hid (out ++ qL (l.drop k) = 40 :: qL l) ∧ Hid (wr.heap[S]? = some (.cells C 5 (C.size, C.size + 1))) ∧ wr.ownsRow w.heap.size 5 1 v out.length (bvs out) ∧ Below w.heap.size w wr) (fun _ i _ => l.length - (intOf i).toNat)
  case atStart => exact ⟨0, [40], Nat.zero_le _, by simp, rfl, Lib.hid (by simp), HR, hown2, hbw⟩
  case round =>
    obtain ⟨k, out, hk, hout, rfl, HE, HS, hown, hbel⟩ := hrel
    have hsz := hbel.size
    by_cases hlt : k < l.length
    · obtain ⟨x, hx⟩ : ∃ x, x = l[k]?.getD 0 := ⟨_, rfl⟩
      have hcl : wr.cell? ⟨S, k, none⟩ = some (.int .u8 (x.toNat : Int)) := by rw [cell_of_row _ _ k C 5 _ HS.out, hx]; exact HG.out k hlt
      have hS : S < wr.heap.size := (Array.getElem?_eq_some_iff.1 HS.out).1
      have hx1 := x.toNat_lt
      have HST := Lib.hid (q_step hlt hx HE.out)
      have hN : ∀ w, Calls Tryd.prog 43 #[.int .u8 (x.toNat : Int)] w fun e w' => e = .returned (.bool (sneed x)) ∧ w = w' := fun w => sneed_any x w
      have hne := own_ne_row hown HS.out
      clear hx
      cases hn : sneed x with
      | false =>
        have hwb : sb x = [x] := by simp [sb, hn]
        rw [hwb] at HST
        rw [hn] at hN
        have HN := Lib.hid hN
        clear hN hwb hn
        go_wp2_with (first | (go_at_call 43; refine (HN.out _).mono ?_; rintro e w' ⟨rfl, rfl⟩) | (at_builtin; refine wpList_append_lies _ rfl _ _ _ rfl w.heap.size 5 i0 (.int .u8 0) 1 1 Tryd.underlying35 hi hz0 hz1 hz2 rfl (by omega) u3 _ _ rfl (hown.alloc _) ⟨wr.heap.size, 0, none⟩ 1 1 (bvs [x]) rfl rfl (World.news_of_block (heap_alloc_new wr _)) (bvs_one _) (by omega) (by unfold maxLen; omega) (by omega) (by simp; omega) _ rfl ?_; intro g cap w3 hown3 hgrow hat hgl))
        go_roundw
        case rel =>
          refine ⟨k + 1, out ++ [x], by omega, by simp; omega, by go_num, HST, ?_, own_byte hown3 rfl, (hbel.alloc hsz _).grown hgrow (by simp; omega) (fun q hq => (hown.lt q hq).1)⟩
          exact (hgrow.block S (by simp; omega) hne).trans ((Below.heap_alloc _ _ _ hS).trans HS.out)
        case measure => simp [intOf]; omega
      | true =>
        have hwb : sb x = [92, UInt8.ofNat (48 + x.toNat / 64), UInt8.ofNat (48 + x.toNat / 8 % 8), UInt8.ofNat (48 + x.toNat % 8)] := by simp [sb, hn]
        rw [hwb] at HST
        rw [hn] at hN
        have HN := Lib.hid hN
        have m1 : bits .and .u8 ((x.toNat : Int) / 8) 7 = (x.toNat : Int) / 8 % 8 := u8_mask3 _ (by omega) (by omega)
        have m2 : bits .and .u8 (x.toNat : Int) 7 = (x.toNat : Int) % 8 := u8_mask3 _ (by omega) (by omega)
        have v1 : (48 : Int) + (x.toNat : Int) / 64 = ((UInt8.ofNat (48 + x.toNat / 64)).toNat : Int) := by simp; omega
        have v2 : (48 : Int) + (x.toNat : Int) / 8 % 8 = ((UInt8.ofNat (48 + x.toNat / 8 % 8)).toNat : Int) := by simp; omega
        have v3 : (48 : Int) + (x.toNat : Int) % 8 = ((UInt8.ofNat (48 + x.toNat % 8)).toNat : Int) := by simp; omega
        generalize UInt8.ofNat (48 + x.toNat / 64) = y1 at *
        generalize UInt8.ofNat (48 + x.toNat / 8 % 8) = y2 at *
        generalize UInt8.ofNat (48 + x.toNat % 8) = y3 at *
        clear hN hwb hn
        go_wp2_with (first | (go_at_call 43; refine (HN.out _).mono ?_; rintro e w' ⟨rfl, rfl⟩) | (at_builtin; refine wpList_append_lies _ rfl _ _ _ rfl w.heap.size 5 i0 (.int .u8 0) 1 1 Tryd.underlying35 hi hz0 hz1 hz2 rfl (by omega) u3 _ _ rfl (hown.alloc _) ⟨wr.heap.size, 0, none⟩ 4 4 (bvs [92, y1, y2, y3]) rfl rfl (World.news_of_block (heap_alloc_new wr _)) (bvs_one _) (by omega) (by unfold maxLen; omega) (by omega) (by simp; omega) _ rfl ?_; intro g cap w3 hown3 hgrow hat hgl))
        go_roundw
        case rel =>
          refine ⟨k + 1, out ++ [92, y1, y2, y3], by omega, by simp; omega, by go_num, HST, ?_, own_bytes hown3 rfl, (hbel.alloc hsz _).grown hgrow (by simp; omega) (fun q hq => (hown.lt q hq).1)⟩
          exact (hgrow.block S (by simp; omega) hne).trans ((Below.heap_alloc _ _ _ hS).trans HS.out)
        case measure => simp [intOf]; omega
    · have he : out = 40 :: qL l := by
        have := HE.out
        rw [List.drop_eq_nil_of_le (by omega)] at this
        simpa [qL] using this
      have HF : Hid ((40 :: (qL l ++ [41]) : List UInt8) = out ++ [41]) := Lib.hid (by rw [he]; rfl)
      clear he
      go_wp2_with (at_builtin; refine wpList_append_lies _ rfl _ _ _ rfl w.heap.size 5 i0 (.int .u8 0) 1 1 Tryd.underlying35 hi hz0 hz1 hz2 rfl (by omega) u3 _ _ rfl (hown.alloc _) ⟨wr.heap.size, 0, none⟩ 1 1 (bvs [41]) rfl rfl (World.news_of_block (heap_alloc_new wr _)) (bvs_one _) (by omega) (by unfold maxLen; omega) (by omega) (by simp; omega) _ rfl ?_; intro g cap' w3 hown3 hgrow hat hgl; have hconv := conv_own hown3 rfl)
      go_ret
      rw [HF.out]
      exact ⟨rfl, (hbel.alloc hsz _).grown hgrow (by simp; omega) (fun q hq => (hown.lt q hq).1)⟩
end Go.Proofs.YtjlecollphgmcaaDoor
