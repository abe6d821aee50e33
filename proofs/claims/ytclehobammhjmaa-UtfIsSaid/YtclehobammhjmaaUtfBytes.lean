/-
  utf.Bytes and the document's own: units as bytes.
-/
import Derived.Test.YtclehobammhjmaaUtfEnc
namespace Go.Proofs.Ytclehobammhjmaa
open Go.RowKit

theorem bvs_by2 {x : Int} (h : unitB x = true) : bvs (by2 x) = [.int .u8 (x / 256), .int .u8 (x % 256)] := by
  have hb := (unitB_iff x).1 h
  have h1 : (x / 256).toNat < 256 := by omega
  have h2 : (x % 256).toNat < 256 := by omega
  simp only [bvs, by2, unitOr, h, if_true, List.map_cons, List.map_nil, UInt8.toNat_ofNat_of_lt' h1, UInt8.toNat_ofNat_of_lt' h2]
  rw [Int.toNat_of_nonneg (by omega), Int.toNat_of_nonneg (by omega)]
theorem bvs_by2_no {x : Int} (h : unitB x = false) : bvs (by2 x) = [.int .u8 255, .int .u8 253] := by
  simp only [bvs, by2, unitOr, h]
  rfl
theorem bytes16_at {l : List Int} {out : List UInt8} {k : Nat} {x : Int} (h : k < l.length) (hx : x = l[k]?.getD 0) (he : out ++ bytes16 (l.drop k) = bytes16 l) : (out ++ by2 x) ++ bytes16 (l.drop (k + 1)) = bytes16 l := by
  rw [drop_here l k 0 h, bytes16_cons, ← hx] at he
  rw [List.append_assoc]; exact he

set_option maxHeartbeats 1000000 in
theorem Bytes_any (A : Option Addr) (c : Nat) (l : List Int) (w : World) (hA : Si w w.heap.size A l) (hl : l.length ≤ 65536) :
    Calls Try.prog 19 #[.slice A l.length c] w (RetSl w (bytes16 l)) := by
  obtain ⟨i0, hi, hz0, hz1, hz2⟩ := info_parts info8
  go_enter Try.func19, Try.ntmps19
  go_wp2_with (at_make; refine wpList_make_own _ rfl _ _ _ rfl w.heap.size 5 i0 (.int .u8 0) 1 Try.underlying23 hi hz0 hz1 .i64 .i64 _ (2 * l.length) rfl rfl (by omega) (by rw [hz2]; omega) (by unfold maxLen; omega) (Nat.le_refl _) ?_; intro w1 hown1 hgrow1)
  have hb1 : Below w.heap.size w w1 := (Below.refl _ _).grown hgrow1 (Nat.le_refl _) (by simp)
  clear hgrow1
  generalize (Value.slice (some ⟨w.heap.size, 0, none⟩) 0 (2 * l.length)) = v1 at *
  go_loopw [3, 12] (fun v i wr => ∃ (k : Nat) (out : List UInt8), k ≤ l.length ∧ i = .int .i64 k ∧ out.length ≤ 2 * k ∧ Hid (out ++ bytes16 (l.drop k) = bytes16 l) ∧ wr.ownsRow w.heap.size 5 1 v out.length (bvs out) ∧ Below w.heap.size w wr) (fun _ i _ => l.length - (intOf i).toNat)
  case atStart => exact ⟨0, [], Nat.zero_le _, rfl, by simp, by rfl, by simpa [bvs] using hown1, hb1⟩
  case round =>
    obtain ⟨k, out, hk, rfl, hout, HE, hown, hbel⟩ := hrel
    by_cases hlt : k < l.length
    · obtain ⟨b, o, rfl, hbl, hc⟩ := hA (by omega)
      obtain ⟨x, hx⟩ : ∃ x, x = l[k]?.getD 0 := ⟨_, rfl⟩
      have hcell : wr.cell? ⟨b, o + k, none⟩ = some (.int .i64 x) := by rw [hx]; exact (hbel.cell (p := ⟨b, o + k, none⟩) hbl).trans (hc k hlt)
      have HX := Lib.hid hx
      clear hc hx
      have hsz := hbel.size
      cases hu : unitB x with
      | true =>
        have hub := (unitB_iff x).1 hu
        have x0 := hub.1
        have x1 := hub.2
        clear hub
        go_wp2_with (first | (go_at_call 31; refine (isUnit_any _ _).mono ?_; rintro e w' ⟨rfl, rfl⟩) | (at_builtin; refine wpList_append_lies _ rfl _ _ _ rfl w.heap.size 5 i0 (.int .u8 0) 1 1 Try.underlying23 hi hz0 hz1 hz2 rfl (by omega) u3 _ _ rfl (hown.alloc _) ⟨wr.heap.size, 0, none⟩ 2 2 [.int .u8 (x / 256), .int .u8 (x % 256)] rfl rfl (World.news_of_block (heap_alloc_new wr _)) (by intro u hu; simp at hu; rcases hu with rfl | rfl <;> rfl) (by omega) (by unfold maxLen; omega) (by omega) (by simp; omega) _ rfl ?_; intro g cap w1 hown1 hgrow hat hgl))
        go_roundw
        case rel =>
          rw [← bvs_by2 hu] at hown1
          exact ⟨k + 1, out ++ by2 x, by omega, by go_num, by simp [by2]; omega, bytes16_at hlt HX.out HE.out, own_bytes hown1 (by simp [by2]), (hbel.alloc hsz _).grown hgrow (by simp; omega) (fun q hq => (hown.lt q hq).1)⟩
        case measure => simp [intOf]; omega
      | false =>
        go_wp2_with (first | (go_at_call 31; refine (isUnit_any _ _).mono ?_; rintro e w' ⟨rfl, rfl⟩) | (at_builtin; refine wpList_append_lies _ rfl _ _ _ rfl w.heap.size 5 i0 (.int .u8 0) 1 1 Try.underlying23 hi hz0 hz1 hz2 rfl (by omega) u3 _ _ rfl (hown.alloc _) ⟨wr.heap.size, 0, none⟩ 2 2 [.int .u8 255, .int .u8 253] rfl rfl (World.news_of_block (heap_alloc_new wr _)) (by intro u hu; simp at hu; rcases hu with rfl | rfl <;> rfl) (by omega) (by unfold maxLen; omega) (by omega) (by simp; omega) _ rfl ?_; intro g cap w1 hown1 hgrow hat hgl))
        go_roundw
        case rel =>
          rw [← bvs_by2_no hu] at hown1
          exact ⟨k + 1, out ++ by2 x, by omega, by go_num, by simp [by2]; omega, bytes16_at hlt HX.out HE.out, own_bytes hown1 (by simp [by2]), (hbel.alloc hsz _).grown hgrow (by simp; omega) (fun q hq => (hown.lt q hq).1)⟩
        case measure => simp [intOf]; omega
    · have he : out = bytes16 l := by
        have := HE.out
        rw [List.drop_eq_nil_of_le (by omega)] at this
        simpa [bytes16] using this
      subst he
      obtain ⟨c', _, hc', A', hv, hsl⟩ := Sl.of_own hown
      subst hv
      go_wp2
      go_ret
      exact ⟨A', c', rfl, hc', hsl, hbel⟩

set_option maxHeartbeats 1000000 in
theorem rBytes_any (A : Option Addr) (c : Nat) (l : List Int) (w : World) (hA : Si w w.heap.size A l) (hl : l.length ≤ 65536) :
    Calls Try.prog 20 #[.slice A l.length c] w (RetSl w (bytes16 l)) := by
  obtain ⟨i0, hi, hz0, hz1, hz2⟩ := info_parts info8
  go_enter Try.func20, Try.ntmps20
  go_wp2
  go_loopw [3, 4] (fun v i wr => ∃ (k : Nat) (out : List UInt8), k ≤ l.length ∧ i = .int .i64 k ∧ out.length ≤ 2 * k ∧ Hid (out ++ bytes16 (l.drop k) = bytes16 l) ∧ wr.ownsRow w.heap.size 5 1 v out.length (bvs out) ∧ Below w.heap.size w wr) (fun _ i _ => l.length - (intOf i).toNat)
  case atStart => exact ⟨0, [], Nat.zero_le _, rfl, by simp, by rfl, by simpa [bvs] using World.ownsRow_nil _ _ _ _, Below.refl _ _⟩
  case round =>
    obtain ⟨k, out, hk, rfl, hout, HE, hown, hbel⟩ := hrel
    by_cases hlt : k < l.length
    · obtain ⟨b, o, rfl, hbl, hc⟩ := hA (by omega)
      obtain ⟨x, hx⟩ : ∃ x, x = l[k]?.getD 0 := ⟨_, rfl⟩
      have hcell : wr.cell? ⟨b, o + k, none⟩ = some (.int .i64 x) := by rw [hx]; exact (hbel.cell (p := ⟨b, o + k, none⟩) hbl).trans (hc k hlt)
      have HX := Lib.hid hx
      clear hc hx
      have hsz := hbel.size
      cases hu : unitB x with
      | true =>
        have hub := (unitB_iff x).1 hu
        have x0 := hub.1
        have x1 := hub.2
        clear hub
        go_wp2_with (first  | (at_builtin; refine wpList_append_lies _ rfl _ _ _ rfl w.heap.size 5 i0 (.int .u8 0) 1 1 Try.underlying23 hi hz0 hz1 hz2 rfl (by omega) u3 _ _ rfl (hown.alloc _) ⟨wr.heap.size, 0, none⟩ 2 2 [.int .u8 (x / 256), .int .u8 (x % 256)] rfl rfl (World.news_of_block (heap_alloc_new wr _)) (by intro u hu; simp at hu; rcases hu with rfl | rfl <;> rfl) (by omega) (by unfold maxLen; omega) (by omega) (by simp; omega) _ rfl ?_; intro g cap w1 hown1 hgrow hat hgl))
        go_roundw
        case rel =>
          rw [← bvs_by2 hu] at hown1
          exact ⟨k + 1, out ++ by2 x, by omega, by go_num, by simp [by2]; omega, bytes16_at hlt HX.out HE.out, own_bytes hown1 (by simp [by2]), (hbel.alloc hsz _).grown hgrow (by simp; omega) (fun q hq => (hown.lt q hq).1)⟩
        case measure => simp [intOf]; omega
      | false =>
        rcases (show x < 0 ∨ (0 ≤ x ∧ 65535 < x) by have := (unitB_not x).1 hu; omega) with h3 | ⟨h3, h4⟩
        · go_wp2_with (first  | (at_builtin; refine wpList_append_lies _ rfl _ _ _ rfl w.heap.size 5 i0 (.int .u8 0) 1 1 Try.underlying23 hi hz0 hz1 hz2 rfl (by omega) u3 _ _ rfl (hown.alloc _) ⟨wr.heap.size, 0, none⟩ 2 2 [.int .u8 255, .int .u8 253] rfl rfl (World.news_of_block (heap_alloc_new wr _)) (by intro u hu; simp at hu; rcases hu with rfl | rfl <;> rfl) (by omega) (by unfold maxLen; omega) (by omega) (by simp; omega) _ rfl ?_; intro g cap w1 hown1 hgrow hat hgl))
          go_roundw
          case rel =>
            rw [← bvs_by2_no hu] at hown1
            exact ⟨k + 1, out ++ by2 x, by omega, by go_num, by simp [by2]; omega, bytes16_at hlt HX.out HE.out, own_bytes hown1 (by simp [by2]), (hbel.alloc hsz _).grown hgrow (by simp; omega) (fun q hq => (hown.lt q hq).1)⟩
          case measure => simp [intOf]; omega
        · go_wp2_with (first  | (at_builtin; refine wpList_append_lies _ rfl _ _ _ rfl w.heap.size 5 i0 (.int .u8 0) 1 1 Try.underlying23 hi hz0 hz1 hz2 rfl (by omega) u3 _ _ rfl (hown.alloc _) ⟨wr.heap.size, 0, none⟩ 2 2 [.int .u8 255, .int .u8 253] rfl rfl (World.news_of_block (heap_alloc_new wr _)) (by intro u hu; simp at hu; rcases hu with rfl | rfl <;> rfl) (by omega) (by unfold maxLen; omega) (by omega) (by simp; omega) _ rfl ?_; intro g cap w1 hown1 hgrow hat hgl))
          go_roundw
          case rel =>
            rw [← bvs_by2_no hu] at hown1
            exact ⟨k + 1, out ++ by2 x, by omega, by go_num, by simp [by2]; omega, bytes16_at hlt HX.out HE.out, own_bytes hown1 (by simp [by2]), (hbel.alloc hsz _).grown hgrow (by simp; omega) (fun q hq => (hown.lt q hq).1)⟩
          case measure => simp [intOf]; omega
    · have he : out = bytes16 l := by
        have := HE.out
        rw [List.drop_eq_nil_of_le (by omega)] at this
        simpa [bytes16] using this
      subst he
      obtain ⟨c', _, hc', A', hv, hsl⟩ := Sl.of_own hown
      subst hv
      go_wp2
      go_ret
      exact ⟨A', c', rfl, hc', hsl, hbel⟩

end Go.Proofs.Ytclehobammhjmaa
