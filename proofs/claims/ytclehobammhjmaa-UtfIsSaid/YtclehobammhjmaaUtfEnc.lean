/-
  utf.Enc16 and the document's own: values as units.
-/
import Derived.Test.YtclehobammhjmaaUtfSmall
import Derived.Deep.AppendLies
namespace Go.Proofs.Ytclehobammhjmaa
open Go.RowKit

theorem info8 : (Try.prog.info? 5).map (fun i => (i.zero, i.size, i.bytes)) = some (some (.int .u8 0), 1, 1) := by kernel_rfl
theorem info64 : (Try.prog.info? 3).map (fun i => (i.zero, i.size, i.bytes)) = some (some (.int .i64 0), 1, 8) := by kernel_rfl
theorem drop_here {α : Type} (l : List α) (k : Nat) (d : α) (h : k < l.length) : l.drop k = l[k]?.getD d :: l.drop (k + 1) := by
  rw [List.drop_eq_getElem_cons h, List.getElem?_eq_getElem h]; rfl
theorem own_ints {w : World} {B : Nat} {e : TypeId} {v : Value} {n : Nat} {a b : List Int} (h : w.ownsRow B e 1 v n (ivs a ++ ivs b)) (hn : n = (a ++ b).length) : w.ownsRow B e 1 v (a ++ b).length (ivs (a ++ b)) := by
  rw [ivs_append, ← hn]; exact h
theorem own_bytes {w : World} {B : Nat} {e : TypeId} {v : Value} {n : Nat} {a b : List UInt8} (h : w.ownsRow B e 1 v n (bvs a ++ bvs b)) (hn : n = (a ++ b).length) : w.ownsRow B e 1 v (a ++ b).length (bvs (a ++ b)) := by
  rw [bvs_append, ← hn]; exact h
theorem encU_low {x y : Int} (hy : y = sc x) (h : y < 65536) : encU x = [y] := by unfold encU; rw [← hy, if_pos h]
theorem encU_high {x y : Int} (hy : y = sc x) (h : ¬ y < 65536) : encU x = [55296 + (y - 65536) / 1024, 56320 + (y - 65536) % 1024] := by unfold encU; rw [← hy, if_neg h]
theorem enc16_at {l out : List Int} {k : Nat} {x : Int} (h : k < l.length) (hx : x = l[k]?.getD 0) (he : out ++ enc16 (l.drop k) = enc16 l) : (out ++ encU x) ++ enc16 (l.drop (k + 1)) = enc16 l := by
  rw [drop_here l k 0 h, enc16_cons, ← hx] at he
  rw [List.append_assoc]; exact he

set_option maxHeartbeats 1000000 in
theorem Enc16_any (A : Option Addr) (c : Nat) (l : List Int) (w : World) (hA : Si w w.heap.size A l) (hl : l.length ≤ 65536) :
    Calls Try.prog 15 #[.slice A l.length c] w (RetSi w (enc16 l)) := by
  obtain ⟨i0, hi, hz0, hz1, hz2⟩ := info_parts info64
  go_enter Try.func15, Try.ntmps15
  go_wp2_with (at_make; refine wpList_make_own _ rfl _ _ _ rfl w.heap.size 3 i0 (.int .i64 0) 1 Try.underlying22 hi hz0 hz1 .i64 .i64 _ l.length rfl rfl (by omega) (by rw [hz2]; omega) (by unfold maxLen; omega) (Nat.le_refl _) ?_; intro w1 hown1 hgrow1)
  have hb1 : Below w.heap.size w w1 := (Below.refl _ _).grown hgrow1 (Nat.le_refl _) (by simp)
  clear hgrow1
  generalize (Value.slice (some ⟨w.heap.size, 0, none⟩) 0 l.length) = v1 at *
  go_loopw [3, 12] (fun v i wr => ∃ (k : Nat) (out : List Int), k ≤ l.length ∧ i = .int .i64 k ∧ out.length ≤ 2 * k ∧ Hid (out ++ enc16 (l.drop k) = enc16 l) ∧ wr.ownsRow w.heap.size 3 1 v out.length (ivs out) ∧ Below w.heap.size w wr) (fun _ i _ => l.length - (intOf i).toNat)
  case atStart => exact ⟨0, [], Nat.zero_le _, rfl, by simp, by rfl, by simpa [ivs] using hown1, hb1⟩
  case round =>
    obtain ⟨k, out, hk, rfl, hout, HE, hown, hbel⟩ := hrel
    by_cases hlt : k < l.length
    · obtain ⟨b, o, rfl, hbl, hc⟩ := hA (by omega)
      obtain ⟨x, hx⟩ : ∃ x, x = l[k]?.getD 0 := ⟨_, rfl⟩
      have hcell : wr.cell? ⟨b, o + k, none⟩ = some (.int .i64 x) := by rw [hx]; exact (hbel.cell (p := ⟨b, o + k, none⟩) hbl).trans (hc k hlt)
      have HX := Lib.hid hx
      obtain ⟨y, hy⟩ : ∃ y, y = sc x := ⟨_, rfl⟩
      have hS : ∀ w, Calls Try.prog 29 #[.int .i64 x] w fun e w' => e = .returned (.int .i32 y) ∧ w = w' := fun w => by rw [hy]; exact scalar_any x w
      have hyb := sc_bounds x
      rw [← hy] at hyb
      have y0 := hyb.1
      have y1 := hyb.2.1
      have HY := Lib.hid hy
      have HS := Lib.hid hS
      clear hc hx hy hS hyb
      have hsz := hbel.size
      by_cases hlow : y < 65536
      · have hlow' : y ≤ 65535 := by omega
        go_wp2_with (first | (go_at_call 29; refine (HS.out _).mono ?_; rintro e w' ⟨rfl, rfl⟩) | (at_builtin; refine wpList_append_lies _ rfl _ _ _ rfl w.heap.size 3 i0 (.int .i64 0) 1 8 Try.underlying22 hi hz0 hz1 hz2 rfl (by omega) u3 _ _ rfl (hown.alloc _) ⟨wr.heap.size, 0, none⟩ 1 1 (ivs [y]) rfl rfl (World.news_of_block (heap_alloc_new wr _)) (ivs_one _) (by omega) (by unfold maxLen; omega) (by omega) (by simp; omega) _ rfl ?_; intro g cap w1 hown1 hgrow hat hgl))
        go_roundw
        case rel =>
          have e := encU_low HY.out hlow
          have h1 := enc16_at hlt HX.out HE.out
          rw [e] at h1
          exact ⟨k + 1, out ++ [y], by omega, by go_num, by simp; omega, h1, own_ints hown1 (by simp), (hbel.alloc hsz _).grown hgrow (by simp; omega) (fun q hq => (hown.lt q hq).1)⟩
        case measure => simp [intOf]; omega
      · have hlow' : ¬ y ≤ 65535 := by omega
        have d0 : 0 ≤ y - 65536 := by omega
        go_wp2_with (first | (go_at_call 29; refine (HS.out _).mono ?_; rintro e w' ⟨rfl, rfl⟩) | (at_builtin; refine wpList_append_lies _ rfl _ _ _ rfl w.heap.size 3 i0 (.int .i64 0) 1 8 Try.underlying22 hi hz0 hz1 hz2 rfl (by omega) u3 _ _ rfl (hown.alloc _) ⟨wr.heap.size, 0, none⟩ 2 2 (ivs [55296 + (y - 65536) / 1024, 56320 + (y - 65536) % 1024]) rfl rfl (World.news_of_block (heap_alloc_new wr _)) (ivs_one _) (by omega) (by unfold maxLen; omega) (by omega) (by simp; omega) _ rfl ?_; intro g cap w1 hown1 hgrow hat hgl))
        go_roundw
        case rel =>
          have e := encU_high HY.out (by omega)
          have h1 := enc16_at hlt HX.out HE.out
          rw [e] at h1
          exact ⟨k + 1, out ++ [55296 + (y - 65536) / 1024, 56320 + (y - 65536) % 1024], by omega, by go_num, by simp; omega, h1, own_ints hown1 (by simp), (hbel.alloc hsz _).grown hgrow (by simp; omega) (fun q hq => (hown.lt q hq).1)⟩
        case measure => simp [intOf]; omega
    · have he : out = enc16 l := by
        have := HE.out
        rw [List.drop_eq_nil_of_le (by omega)] at this
        simpa [enc16] using this
      subst he
      obtain ⟨c', _, hc', A', hv, hsl⟩ := Si.of_own hown
      subst hv
      go_wp2
      go_ret
      exact ⟨A', c', rfl, hc', hsl, hbel⟩

set_option maxHeartbeats 1000000 in
theorem rEnc16_any (A : Option Addr) (c : Nat) (l : List Int) (w : World) (hA : Si w w.heap.size A l) (hl : l.length ≤ 65536) :
    Calls Try.prog 16 #[.slice A l.length c] w (RetSi w (enc16 l)) := by
  obtain ⟨i0, hi, hz0, hz1, hz2⟩ := info_parts info64
  go_enter Try.func16, Try.ntmps16
  go_wp2
  go_loopw [3, 4] (fun v i wr => ∃ (k : Nat) (out : List Int), k ≤ l.length ∧ i = .int .i64 k ∧ out.length ≤ 2 * k ∧ Hid (out ++ enc16 (l.drop k) = enc16 l) ∧ wr.ownsRow w.heap.size 3 1 v out.length (ivs out) ∧ Below w.heap.size w wr) (fun _ i _ => l.length - (intOf i).toNat)
  case atStart => exact ⟨0, [], Nat.zero_le _, rfl, by simp, by rfl, by simpa [ivs] using World.ownsRow_nil _ _ _ _, Below.refl _ _⟩
  case round =>
    obtain ⟨k, out, hk, rfl, hout, HE, hown, hbel⟩ := hrel
    by_cases hlt : k < l.length
    · obtain ⟨b, o, rfl, hbl, hc⟩ := hA (by omega)
      obtain ⟨x, hx⟩ : ∃ x, x = l[k]?.getD 0 := ⟨_, rfl⟩
      have hcell : wr.cell? ⟨b, o + k, none⟩ = some (.int .i64 x) := by rw [hx]; exact (hbel.cell (p := ⟨b, o + k, none⟩) hbl).trans (hc k hlt)
      have HX := Lib.hid hx
      obtain ⟨y, hy⟩ : ∃ y, y = sc x := ⟨_, rfl⟩
      have hS : ∀ w, Calls Try.prog 30 #[.int .i64 x] w fun e w' => e = .returned (.int .i64 y) ∧ w = w' := fun w => by rw [hy]; exact rgood_any x w
      have hyb := sc_bounds x
      rw [← hy] at hyb
      have y0 := hyb.1
      have y1 := hyb.2.1
      have HY := Lib.hid hy
      have HS := Lib.hid hS
      clear hc hx hy hS hyb
      have hsz := hbel.size
      by_cases hlow : y < 65536
      · go_wp2_with (first | (go_at_call 30; refine (HS.out _).mono ?_; rintro e w' ⟨rfl, rfl⟩) | (at_builtin; refine wpList_append_lies _ rfl _ _ _ rfl w.heap.size 3 i0 (.int .i64 0) 1 8 Try.underlying22 hi hz0 hz1 hz2 rfl (by omega) u3 _ _ rfl (hown.alloc _) ⟨wr.heap.size, 0, none⟩ 1 1 (ivs [y]) rfl rfl (World.news_of_block (heap_alloc_new wr _)) (ivs_one _) (by omega) (by unfold maxLen; omega) (by omega) (by simp; omega) _ rfl ?_; intro g cap w1 hown1 hgrow hat hgl))
        go_roundw
        case rel =>
          have e := encU_low HY.out hlow
          have h1 := enc16_at hlt HX.out HE.out
          rw [e] at h1
          exact ⟨k + 1, out ++ [y], by omega, by go_num, by simp; omega, h1, own_ints hown1 (by simp), (hbel.alloc hsz _).grown hgrow (by simp; omega) (fun q hq => (hown.lt q hq).1)⟩
        case measure => simp [intOf]; omega
      · have d0 : 0 ≤ y - 65536 := by omega
        go_wp2_with (first | (go_at_call 30; refine (HS.out _).mono ?_; rintro e w' ⟨rfl, rfl⟩) | (at_builtin; refine wpList_append_lies _ rfl _ _ _ rfl w.heap.size 3 i0 (.int .i64 0) 1 8 Try.underlying22 hi hz0 hz1 hz2 rfl (by omega) u3 _ _ rfl (hown.alloc _) ⟨wr.heap.size, 0, none⟩ 2 2 (ivs [55296 + (y - 65536) / 1024, 56320 + (y - 65536) % 1024]) rfl rfl (World.news_of_block (heap_alloc_new wr _)) (ivs_one _) (by omega) (by unfold maxLen; omega) (by omega) (by simp; omega) _ rfl ?_; intro g cap w1 hown1 hgrow hat hgl))
        go_roundw
        case rel =>
          have e := encU_high HY.out (by omega)
          have h1 := enc16_at hlt HX.out HE.out
          rw [e] at h1
          exact ⟨k + 1, out ++ [55296 + (y - 65536) / 1024, 56320 + (y - 65536) % 1024], by omega, by go_num, by simp; omega, h1, own_ints hown1 (by simp), (hbel.alloc hsz _).grown hgrow (by simp; omega) (fun q hq => (hown.lt q hq).1)⟩
        case measure => simp [intOf]; omega
    · have he : out = enc16 l := by
        have := HE.out
        rw [List.drop_eq_nil_of_le (by omega)] at this
        simpa [enc16] using this
      subst he
      obtain ⟨c', _, hc', A', hv, hsl⟩ := Si.of_own hown
      subst hv
      go_wp2
      go_ret
      exact ⟨A', c', rfl, hc', hsl, hbel⟩
end Go.Proofs.Ytclehobammhjmaa
