/-
  utf.Text and the document's own: values in UTF-8.
-/
import Derived.Test.YtclehobammhjmaaUtfApp
namespace Go.Proofs.Ytclehobammhjmaa
open Go.RowKit

theorem ret_new {w : World} {t : TypeId} (l : List UInt8) (cs : List Value) (hcs : bvs l = cs) (n : Nat) (hn : n = l.length) :
    RetSl w l (.returned (.slice (some ⟨w.heap.size, 0, none⟩) n n)) (w.alloc (.cells cs.toArray t)) := by
  subst hcs hn
  refine ⟨some ⟨w.heap.size, 0, none⟩, l.length, rfl, Nat.le_refl _, fun _ => ⟨w.heap.size, 0, rfl, by simp, fun j hj => ?_⟩, (Below.refl _ _).alloc (Nat.le_refl _) _⟩
  have := World.news_of_block (heap_alloc_new w (.cells (bvs l).toArray t)) j _ (bvs_get l j hj)
  rwa [addr_add] at this

set_option maxHeartbeats 1000000 in
theorem rform_1 (r : Int) (w : World) (h0 : 0 ≤ r) (h1 : r < 128) : Calls Try.prog 35 #[.int .i64 r] w (RetSl w (formV r)) := by
  go_enter Try.func35, Try.ntmps35
  go_wp2
  go_ret
  exact ret_new _ _ (bvs_form1 h0 h1) _ (by rw [← bvs_length, bvs_form1 h0 h1]; rfl)
set_option maxHeartbeats 1000000 in
theorem rform_2 (r : Int) (w : World) (h0 : 128 ≤ r) (h1 : r ≤ 2047) : Calls Try.prog 35 #[.int .i64 r] w (RetSl w (formV r)) := by
  go_enter Try.func35, Try.ntmps35
  go_wp2
  go_ret
  exact ret_new _ _ (bvs_form2 h0 h1) _ (by rw [← bvs_length, bvs_form2 h0 h1]; rfl)
set_option maxHeartbeats 1000000 in
theorem rform_3 (r : Int) (w : World) (h0 : 2048 ≤ r) (h1 : r ≤ 65535) : Calls Try.prog 35 #[.int .i64 r] w (RetSl w (formV r)) := by
  go_enter Try.func35, Try.ntmps35
  go_wp2
  go_ret
  exact ret_new _ _ (bvs_form3 h0 h1) _ (by rw [← bvs_length, bvs_form3 h0 h1]; rfl)
set_option maxHeartbeats 1000000 in
theorem rform_4 (r : Int) (w : World) (h0 : 65536 ≤ r) (h1 : r ≤ 1114111) : Calls Try.prog 35 #[.int .i64 r] w (RetSl w (formV r)) := by
  go_enter Try.func35, Try.ntmps35
  go_wp2
  go_ret
  exact ret_new _ _ (bvs_form4 h0 h1) _ (by rw [← bvs_length, bvs_form4 h0 h1]; rfl)
theorem rform_any (r : Int) (w : World) (h0 : 0 ≤ r) (h1 : r ≤ 1114111) : Calls Try.prog 35 #[.int .i64 r] w (RetSl w (formV r)) := by
  by_cases c1 : r < 128
  · exact rform_1 r w h0 c1
  by_cases c2 : r ≤ 2047
  · exact rform_2 r w (by omega) c2
  by_cases c3 : r ≤ 65535
  · exact rform_3 r w (by omega) c3
  · exact rform_4 r w (by omega) h1
theorem text_at {l : List Int} {out : List UInt8} {k : Nat} {x y : Int} (h : k < l.length) (hx : x = l[k]?.getD 0) (hy : y = sc x) (he : out ++ textL (l.drop k) = textL l) : (out ++ formV y) ++ textL (l.drop (k + 1)) = textL l := by
  rw [drop_here l k 0 h, textL_cons, ← hx] at he
  rw [List.append_assoc, hy]; exact he

/-- A row of the call's own, over a call that leaves all that was there. -/
theorem own_below {w w' : World} {B : Nat} {e : TypeId} {size : Nat} {v : Value} {n : Nat} {xs : List Value} (h : w.ownsRow B e size v n xs) (hb : Below w.heap.size w w') : w'.ownsRow B e size v n xs := by
  refine ⟨h.1, ?_⟩
  rcases h.2 with hn | ⟨g, cap, cur, rfl, h1, hg, rest⟩
  · exact .inl hn
  · refine .inr ⟨g, cap, cur, rfl, h1, ?_, rest⟩
    rw [hb.block g (Array.getElem?_eq_some_iff.1 hg).1]
    exact hg

set_option maxHeartbeats 1000000 in
theorem Text_any (A : Option Addr) (c : Nat) (l : List Int) (w : World) (hA : Si w w.heap.size A l) (hl : l.length ≤ 65536) :
    Calls Try.prog 21 #[.slice A l.length c] w fun e w' => e = .returned (.string (str (textL l))) ∧ Below w.heap.size w w' := by
  obtain ⟨i0, hi, hz0, hz1, hz2⟩ := info_parts info8
  go_enter Try.func21, Try.ntmps21
  go_wp2_with (at_make; refine wpList_make_own _ rfl _ _ _ rfl w.heap.size 5 i0 (.int .u8 0) 1 Try.underlying23 hi hz0 hz1 .i64 .i64 _ l.length rfl rfl (by omega) (by rw [hz2]; omega) (by unfold maxLen; omega) (Nat.le_refl _) ?_; intro w1 hown1 hgrow1)
  have hb1 : Below w.heap.size w w1 := (Below.refl _ _).grown hgrow1 (Nat.le_refl _) (by simp)
  clear hgrow1
  generalize (Value.slice (some ⟨w.heap.size, 0, none⟩) 0 l.length) = v1 at *
  go_loopw [3, 11] (fun v i wr => ∃ (k : Nat) (out : List UInt8), k ≤ l.length ∧ i = .int .i64 k ∧ out.length ≤ 4 * k ∧ Hid (out ++ textL (l.drop k) = textL l) ∧ wr.ownsRow w.heap.size 5 1 v out.length (bvs out) ∧ Below w.heap.size w wr) (fun _ i _ => l.length - (intOf i).toNat)
  case atStart => exact ⟨0, [], Nat.zero_le _, rfl, by simp, by rfl, by simpa [bvs] using hown1, hb1⟩
  case round =>
    obtain ⟨k, out, hk, rfl, hout, HE, hown, hbel⟩ := hrel
    by_cases hlt : k < l.length
    · obtain ⟨b, o, rfl, hbl, hc⟩ := hA (by omega)
      obtain ⟨x, hx⟩ : ∃ x, x = l[k]?.getD 0 := ⟨_, rfl⟩
      have hcell : wr.cell? ⟨b, o + k, none⟩ = some (.int .i64 x) := by rw [hx]; exact (hbel.cell (p := ⟨b, o + k, none⟩) hbl).trans (hc k hlt)
      have HX := Lib.hid hx
      have hsz := hbel.size
      obtain ⟨y, hy⟩ : ∃ y, y = sc x := ⟨_, rfl⟩
      have hg : goodB y = true := by rw [hy]; exact sc_good x
      have hyb := (goodB_iff y).1 hg
      have y0 := hyb.1
      have y1 := hyb.2.1
      have fl := formV_length y
      have HY := Lib.hid hy
      have hS : ∀ w, Calls Try.prog 29 #[.int .i64 x] w fun e w' => e = .returned (.int .i32 y) ∧ w = w' := fun w => by rw [hy]; exact scalar_any x w
      have hP := AppendRune_any w.heap.size u3 out.length (bvs out) y hg wr hown (by omega) hsz
      have HS := Lib.hid hS
      have HP := Lib.hid hP
      have HG := Lib.hid hg
      clear hc hx hy hS hyb hP hg
      go_wp2_with (first | (go_at_call 29; refine (HS.out _).mono ?_; rintro e w' ⟨rfl, rfl⟩) | (go_at_call 34; refine HP.out.mono ?_; rintro e w1 ⟨v', rfl, hown1, hb1⟩))
      go_roundw
      case rel => exact ⟨k + 1, out ++ formV y, by omega, by go_num, by simp; omega, text_at hlt HX.out HY.out HE.out, own_bytes hown1 (by simp), hbel.trans hb1⟩
      case measure => simp [intOf]; omega
    · have he : out = textL l := by
        have := HE.out
        rw [List.drop_eq_nil_of_le (by omega)] at this
        simpa [textL] using this
      subst he
      obtain ⟨c', _, hc', A', hv, hsl⟩ := Sl.of_own hown
      subst hv
      have hconv := run_str (P := Try.prog) hsl c' 23 9 5 Try.underlying23 Try.underlying5 Try.underlying9
      go_wp2
      go_ret
      exact ⟨rfl, hbel⟩

set_option maxHeartbeats 1000000 in
theorem rText_any (A : Option Addr) (c : Nat) (l : List Int) (w : World) (hA : Si w w.heap.size A l) (hl : l.length ≤ 65536) :
    Calls Try.prog 22 #[.slice A l.length c] w fun e w' => e = .returned (.string (str (textL l))) ∧ Below w.heap.size w w' := by
  obtain ⟨i0, hi, hz0, hz1, hz2⟩ := info_parts info8
  go_enter Try.func22, Try.ntmps22
  go_wp2
  go_loopw [3, 4] (fun v i wr => ∃ (k : Nat) (out : List UInt8), k ≤ l.length ∧ i = .int .i64 k ∧ out.length ≤ 4 * k ∧ Hid (out ++ textL (l.drop k) = textL l) ∧ wr.ownsRow w.heap.size 5 1 v out.length (bvs out) ∧ Below w.heap.size w wr) (fun _ i _ => l.length - (intOf i).toNat)
  case atStart => exact ⟨0, [], Nat.zero_le _, rfl, by simp, by rfl, by simpa [bvs] using World.ownsRow_nil _ _ _ _, Below.refl _ _⟩
  case round =>
    obtain ⟨k, out, hk, rfl, hout, HE, hown, hbel⟩ := hrel
    by_cases hlt : k < l.length
    · obtain ⟨b, o, rfl, hbl, hc⟩ := hA (by omega)
      obtain ⟨x, hx⟩ : ∃ x, x = l[k]?.getD 0 := ⟨_, rfl⟩
      have hcell : wr.cell? ⟨b, o + k, none⟩ = some (.int .i64 x) := by rw [hx]; exact (hbel.cell (p := ⟨b, o + k, none⟩) hbl).trans (hc k hlt)
      have HX := Lib.hid hx
      have hsz := hbel.size
      obtain ⟨y, hy⟩ : ∃ y, y = sc x := ⟨_, rfl⟩
      have hg : goodB y = true := by rw [hy]; exact sc_good x
      have hyb := (goodB_iff y).1 hg
      have y0 := hyb.1
      have y1 := hyb.2.1
      have fl := formV_length y
      have HY := Lib.hid hy
      have hS : ∀ w, Calls Try.prog 30 #[.int .i64 x] w fun e w' => e = .returned (.int .i64 y) ∧ w = w' := fun w => by rw [hy]; exact rgood_any x w
      have hP : ∀ w, Calls Try.prog 35 #[.int .i64 y] w (RetSl w (formV y)) := fun w => rform_any y w y0 y1
      have HS := Lib.hid hS
      have HP := Lib.hid hP
      clear hc hx hy hS hyb hP hg
      obtain ⟨fy, hfy⟩ : ∃ fy, fy = formV y := ⟨_, rfl⟩
      have HF := Lib.hid hfy
      rw [← hfy] at HP fl
      clear hfy
      go_wp2_with (first | (go_at_call 30; refine (HS.out _).mono ?_; rintro e w' ⟨rfl, rfl⟩))
      refine (HP.out _).mono ?_
      rintro e w1 ⟨A1, c1, rfl, hc1, hsl1, hb1⟩
      have hown' : w1.ownsRow w.heap.size 5 1 u3 out.length (bvs out) := own_below hown hb1
      obtain ⟨a1, rfl, hcs⟩ := hsl1.cells (by omega)
      have hbel1 := hbel.trans (hb1.mono hsz)
      have hsz1 := hbel1.size
      have HCS := Lib.hid hcs
      clear hcs hsl1
      go_wp2_with (at_builtin; refine wpList_append_lies _ rfl _ _ _ rfl w.heap.size 5 i0 (.int .u8 0) 1 1 Try.underlying23 hi hz0 hz1 hz2 rfl (by omega) u3 _ _ rfl hown' a1 fy.length c1 (bvs fy) rfl (by rw [bvs_length]; omega) HCS.out (bvs_one _) (by omega) (by unfold maxLen; omega) (by omega) (by omega) _ rfl ?_; intro g cap w2 hown1 hgrow hat hgl)
      go_roundw
      case rel =>
        have h1 := text_at hlt HX.out HY.out HE.out
        rw [← HF.out] at h1
        exact ⟨k + 1, out ++ fy, by omega, by go_num, by simp; omega, h1, own_bytes hown1 (by simp), hbel1.grown hgrow hsz1 (fun q hq => (hown.lt q hq).1)⟩
      case measure => simp [intOf]; omega
    · have he : out = textL l := by
        have := HE.out
        rw [List.drop_eq_nil_of_le (by omega)] at this
        simpa [textL] using this
      subst he
      obtain ⟨c', _, hc', A', hv, hsl⟩ := Sl.of_own hown
      subst hv
      have hconv := run_str (P := Try.prog) hsl c' 23 9 5 Try.underlying23 Try.underlying5 Try.underlying9
      go_wp2
      go_ret
      exact ⟨rfl, hbel⟩

end Go.Proofs.Ytclehobammhjmaa
