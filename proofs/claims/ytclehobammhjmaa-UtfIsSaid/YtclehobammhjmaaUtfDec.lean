/-
  utf.Dec16: units as values.
-/
import Derived.Test.YtclehobammhjmaaUtfEnc
namespace Go.Proofs.Ytclehobammhjmaa
open Go.RowKit

theorem dec16_atPair {l out : List Int} {k : Nat} {x y : Int} (h : k + 1 < l.length) (hx : x = l[k]?.getD 0) (hy : y = l[k + 1]?.getD 0) (h1 : hiB x = true) (h2 : loB y = true) (he : out ++ dec16 (l.drop k) = dec16 l) : (out ++ [65536 + (x - 55296) * 1024 + y - 56320]) ++ dec16 (l.drop (k + 2)) = dec16 l := by
  rw [drop_here l k 0 (by omega), drop_here l (k + 1) 0 h, ← hx, ← hy, dec16_pair h1 h2] at he
  rw [List.append_assoc]; exact he
theorem dec16_atLone {l out : List Int} {k : Nat} {x z : Int} (h : k < l.length) (hx : x = l[k]?.getD 0) (h1 : hiB x = false ∨ l.length ≤ k + 1 ∨ loB (l[k + 1]?.getD 0) = false) (hz : one16 x = z) (he : out ++ dec16 (l.drop k) = dec16 l) : (out ++ [z]) ++ dec16 (l.drop (k + 1)) = dec16 l := by
  have hd : dec16 (l.drop k) = z :: dec16 (l.drop (k + 1)) := by
    rw [drop_here l k 0 h, ← hx, ← hz]
    rcases h1 with h1 | h1 | h1
    · exact dec16_lone h1
    · rw [List.drop_eq_nil_of_le h1]; rfl
    · by_cases h2 : k + 1 < l.length
      · rw [drop_here l (k + 1) 0 h2]; exact dec16_apart h1
      · rw [List.drop_eq_nil_of_le (by omega)]; rfl
  rw [hd] at he
  rw [List.append_assoc]; exact he
theorem high_unit {x : Int} (h : hiB x = true) : unitB x = true ∧ goodB x = false ∧ one16 x = 65533 := by
  rw [hiB_iff] at h
  have h2 : goodB x = false := by rw [goodB_not]; omega
  exact ⟨by rw [unitB_iff]; omega, h2, one16_no2 h2⟩
theorem one16_small {x : Int} (h : x ≤ 65535) : one16 x = sc x := by
  unfold one16 sc
  cases hg : goodB x with
  | false => simp
  | true =>
    have := (goodB_iff x).1 hg
    have h2 : unitB x = true := by rw [unitB_iff]; omega
    rw [h2]; rfl
theorem one16_big {x : Int} (h : ¬ x ≤ 65535) : one16 x = 65533 := one16_no1 (by rw [unitB_not]; omega)

set_option maxHeartbeats 2000000 in
theorem Dec16_any (A : Option Addr) (c : Nat) (l : List Int) (w : World) (hA : Si w w.heap.size A l) (hl : l.length ≤ 65536) :
    Calls Try.prog 17 #[.slice A l.length c] w (RetSi w (dec16 l)) := by
  obtain ⟨i0, hi, hz0, hz1, hz2⟩ := info_parts info64
  go_enter Try.func17, Try.ntmps17
  go_wp2_with (at_make; refine wpList_make_own _ rfl _ _ _ rfl w.heap.size 3 i0 (.int .i64 0) 1 Try.underlying22 hi hz0 hz1 .i64 .i64 _ l.length rfl rfl (by omega) (by rw [hz2]; omega) (by unfold maxLen; omega) (Nat.le_refl _) ?_; intro w1 hown1 hgrow1)
  have hb1 : Below w.heap.size w w1 := (Below.refl _ _).grown hgrow1 (Nat.le_refl _) (by simp)
  clear hgrow1
  generalize (Value.slice (some ⟨w.heap.size, 0, none⟩) 0 l.length) = v1 at *
  go_loopw [3, 4] (fun v i wr => ∃ (k : Nat) (out : List Int), k ≤ l.length ∧ i = .int .i64 k ∧ out.length ≤ k ∧ Hid (out ++ dec16 (l.drop k) = dec16 l) ∧ wr.ownsRow w.heap.size 3 1 v out.length (ivs out) ∧ Below w.heap.size w wr) (fun _ i _ => l.length - (intOf i).toNat)
  case atStart => exact ⟨0, [], Nat.zero_le _, rfl, by simp, by rfl, by simpa [ivs] using hown1, hb1⟩
  case round =>
    obtain ⟨k, out, hk, rfl, hout, HE, hown, hbel⟩ := hrel
    by_cases hlt : k < l.length
    · obtain ⟨b, o, rfl, hbl, hc⟩ := hA (by omega)
      obtain ⟨x, hx⟩ : ∃ x, x = l[k]?.getD 0 := ⟨_, rfl⟩
      have hcell : wr.cell? ⟨b, o + k, none⟩ = some (.int .i64 x) := by rw [hx]; exact (hbel.cell (p := ⟨b, o + k, none⟩) hbl).trans (hc k hlt)
      have HX := Lib.hid hx
      have HC := Lib.hid hc
      clear hc hx
      have hsz := hbel.size
      cases hh : hiB x with
      | true =>
        obtain ⟨hu, hg, hone⟩ := high_unit hh
        have HO := Lib.hid hone
        have hxb := (hiB_iff x).1 hh
        have x0 := hxb.1
        have x1 := hxb.2
        clear hone hxb
        by_cases h2 : k + 1 < l.length
        · obtain ⟨y, hy⟩ : ∃ y, y = l[k + 1]?.getD 0 := ⟨_, rfl⟩
          have hcell2 : wr.cell? ⟨b, o + (k + 1), none⟩ = some (.int .i64 y) := by rw [hy]; exact (hbel.cell (p := ⟨b, o + (k + 1), none⟩) hbl).trans (HC.out (k + 1) h2)
          have HY := Lib.hid hy
          clear hy
          have h3 : (k : Int) + 1 < (l.length : Int) := by omega
          cases hl2 : loB y with
          | true =>
            have hyb := (loB_iff y).1 hl2
            have y0 := hyb.1
            have y1 := hyb.2
            clear hyb
            go_wp2_with (first | (go_at_call 27; refine (isHigh_any _ _).mono ?_; rintro e w' ⟨rfl, rfl⟩) | (go_at_call 28; refine (isLow_any _ _).mono ?_; rintro e w' ⟨rfl, rfl⟩) | (go_at_call 31; refine (isUnit_any _ _).mono ?_; rintro e w' ⟨rfl, rfl⟩) | (go_at_call 10; refine (Good_any _ _).mono ?_; rintro e w' ⟨rfl, rfl⟩) | (at_builtin; refine wpList_append_lies _ rfl _ _ _ rfl w.heap.size 3 i0 (.int .i64 0) 1 8 Try.underlying22 hi hz0 hz1 hz2 rfl (by omega) u3 _ _ rfl (hown.alloc _) ⟨wr.heap.size, 0, none⟩ 1 1 (ivs [65536 + (x - 55296) * 1024 + y - 56320]) rfl rfl (World.news_of_block (heap_alloc_new wr _)) (ivs_one _) (by omega) (by unfold maxLen; omega) (by omega) (by simp; omega) _ rfl ?_; intro g cap w1 hown1 hgrow hat hgl))
            go_roundw
            case rel =>
              have h1 := dec16_atPair h2 HX.out HY.out hh hl2 HE.out
              exact ⟨k + 2, out ++ [65536 + (x - 55296) * 1024 + y - 56320], by omega, by go_num, by simp; omega, h1, own_ints hown1 (by simp), (hbel.alloc hsz _).grown hgrow (by simp; omega) (fun q hq => (hown.lt q hq).1)⟩
            case measure => simp [intOf]; omega
          | false =>
            go_wp2_with (first | (go_at_call 27; refine (isHigh_any _ _).mono ?_; rintro e w' ⟨rfl, rfl⟩) | (go_at_call 28; refine (isLow_any _ _).mono ?_; rintro e w' ⟨rfl, rfl⟩) | (go_at_call 31; refine (isUnit_any _ _).mono ?_; rintro e w' ⟨rfl, rfl⟩) | (go_at_call 10; refine (Good_any _ _).mono ?_; rintro e w' ⟨rfl, rfl⟩) | (at_builtin; refine wpList_append_lies _ rfl _ _ _ rfl w.heap.size 3 i0 (.int .i64 0) 1 8 Try.underlying22 hi hz0 hz1 hz2 rfl (by omega) u3 _ _ rfl (hown.alloc _) ⟨wr.heap.size, 0, none⟩ 1 1 (ivs [65533]) rfl rfl (World.news_of_block (heap_alloc_new wr _)) (ivs_one _) (by omega) (by unfold maxLen; omega) (by omega) (by simp; omega) _ rfl ?_; intro g cap w1 hown1 hgrow hat hgl))
            go_roundw
            case rel =>
              have h1 := dec16_atLone hlt HX.out (.inr (.inr (by rw [← HY.out]; exact hl2))) (HO.out) HE.out
              exact ⟨k + 1, out ++ [65533], by omega, by go_num, by simp; omega, h1, own_ints hown1 (by simp), (hbel.alloc hsz _).grown hgrow (by simp; omega) (fun q hq => (hown.lt q hq).1)⟩
            case measure => simp [intOf]; omega
        · have h3 : ¬ (k : Int) + 1 < (l.length : Int) := by omega
          go_wp2_with (first | (go_at_call 27; refine (isHigh_any _ _).mono ?_; rintro e w' ⟨rfl, rfl⟩) | (go_at_call 28; refine (isLow_any _ _).mono ?_; rintro e w' ⟨rfl, rfl⟩) | (go_at_call 31; refine (isUnit_any _ _).mono ?_; rintro e w' ⟨rfl, rfl⟩) | (go_at_call 10; refine (Good_any _ _).mono ?_; rintro e w' ⟨rfl, rfl⟩) | (at_builtin; refine wpList_append_lies _ rfl _ _ _ rfl w.heap.size 3 i0 (.int .i64 0) 1 8 Try.underlying22 hi hz0 hz1 hz2 rfl (by omega) u3 _ _ rfl (hown.alloc _) ⟨wr.heap.size, 0, none⟩ 1 1 (ivs [65533]) rfl rfl (World.news_of_block (heap_alloc_new wr _)) (ivs_one _) (by omega) (by unfold maxLen; omega) (by omega) (by simp; omega) _ rfl ?_; intro g cap w1 hown1 hgrow hat hgl))
          go_roundw
          case rel =>
            have h1 := dec16_atLone hlt HX.out (.inr (.inl (by omega))) (HO.out) HE.out
            exact ⟨k + 1, out ++ [65533], by omega, by go_num, by simp; omega, h1, own_ints hown1 (by simp), (hbel.alloc hsz _).grown hgrow (by simp; omega) (fun q hq => (hown.lt q hq).1)⟩
          case measure => simp [intOf]; omega
      | false =>
        cases hu : unitB x with
        | true =>
          cases hg : goodB x with
          | true =>
            go_wp2_with (first | (go_at_call 27; refine (isHigh_any _ _).mono ?_; rintro e w' ⟨rfl, rfl⟩) | (go_at_call 28; refine (isLow_any _ _).mono ?_; rintro e w' ⟨rfl, rfl⟩) | (go_at_call 31; refine (isUnit_any _ _).mono ?_; rintro e w' ⟨rfl, rfl⟩) | (go_at_call 10; refine (Good_any _ _).mono ?_; rintro e w' ⟨rfl, rfl⟩) | (at_builtin; refine wpList_append_lies _ rfl _ _ _ rfl w.heap.size 3 i0 (.int .i64 0) 1 8 Try.underlying22 hi hz0 hz1 hz2 rfl (by omega) u3 _ _ rfl (hown.alloc _) ⟨wr.heap.size, 0, none⟩ 1 1 (ivs [x]) rfl rfl (World.news_of_block (heap_alloc_new wr _)) (ivs_one _) (by omega) (by unfold maxLen; omega) (by omega) (by simp; omega) _ rfl ?_; intro g cap w1 hown1 hgrow hat hgl))
            go_roundw
            case rel =>
              have h1 := dec16_atLone hlt HX.out (.inl hh) (one16_yes hu hg) HE.out
              exact ⟨k + 1, out ++ [x], by omega, by go_num, by simp; omega, h1, own_ints hown1 (by simp), (hbel.alloc hsz _).grown hgrow (by simp; omega) (fun q hq => (hown.lt q hq).1)⟩
            case measure => simp [intOf]; omega
          | false =>
            go_wp2_with (first | (go_at_call 27; refine (isHigh_any _ _).mono ?_; rintro e w' ⟨rfl, rfl⟩) | (go_at_call 28; refine (isLow_any _ _).mono ?_; rintro e w' ⟨rfl, rfl⟩) | (go_at_call 31; refine (isUnit_any _ _).mono ?_; rintro e w' ⟨rfl, rfl⟩) | (go_at_call 10; refine (Good_any _ _).mono ?_; rintro e w' ⟨rfl, rfl⟩) | (at_builtin; refine wpList_append_lies _ rfl _ _ _ rfl w.heap.size 3 i0 (.int .i64 0) 1 8 Try.underlying22 hi hz0 hz1 hz2 rfl (by omega) u3 _ _ rfl (hown.alloc _) ⟨wr.heap.size, 0, none⟩ 1 1 (ivs [65533]) rfl rfl (World.news_of_block (heap_alloc_new wr _)) (ivs_one _) (by omega) (by unfold maxLen; omega) (by omega) (by simp; omega) _ rfl ?_; intro g cap w1 hown1 hgrow hat hgl))
            go_roundw
            case rel =>
              have h1 := dec16_atLone hlt HX.out (.inl hh) (one16_no2 hg) HE.out
              exact ⟨k + 1, out ++ [65533], by omega, by go_num, by simp; omega, h1, own_ints hown1 (by simp), (hbel.alloc hsz _).grown hgrow (by simp; omega) (fun q hq => (hown.lt q hq).1)⟩
            case measure => simp [intOf]; omega
        | false =>
          go_wp2_with (first | (go_at_call 27; refine (isHigh_any _ _).mono ?_; rintro e w' ⟨rfl, rfl⟩) | (go_at_call 28; refine (isLow_any _ _).mono ?_; rintro e w' ⟨rfl, rfl⟩) | (go_at_call 31; refine (isUnit_any _ _).mono ?_; rintro e w' ⟨rfl, rfl⟩) | (go_at_call 10; refine (Good_any _ _).mono ?_; rintro e w' ⟨rfl, rfl⟩) | (at_builtin; refine wpList_append_lies _ rfl _ _ _ rfl w.heap.size 3 i0 (.int .i64 0) 1 8 Try.underlying22 hi hz0 hz1 hz2 rfl (by omega) u3 _ _ rfl (hown.alloc _) ⟨wr.heap.size, 0, none⟩ 1 1 (ivs [65533]) rfl rfl (World.news_of_block (heap_alloc_new wr _)) (ivs_one _) (by omega) (by unfold maxLen; omega) (by omega) (by simp; omega) _ rfl ?_; intro g cap w1 hown1 hgrow hat hgl))
          go_roundw
          case rel =>
            have h1 := dec16_atLone hlt HX.out (.inl hh) (one16_no1 hu) HE.out
            exact ⟨k + 1, out ++ [65533], by omega, by go_num, by simp; omega, h1, own_ints hown1 (by simp), (hbel.alloc hsz _).grown hgrow (by simp; omega) (fun q hq => (hown.lt q hq).1)⟩
          case measure => simp [intOf]; omega
    · have he : out = dec16 l := by
        have := HE.out
        rw [List.drop_eq_nil_of_le (by omega)] at this
        simpa [dec16] using this
      subst he
      obtain ⟨c', _, hc', A', hv, hsl⟩ := Si.of_own hown
      subst hv
      go_wp2
      go_ret
      exact ⟨A', c', rfl, hc', hsl, hbel⟩
end Go.Proofs.Ytclehobammhjmaa
