/-
  The walk of the statement UtfBack.
-/
import Derived.Test.YtclehobammhjmaaUtfAwake
import Derived.Test.YtclehobammhjmaaRefRunes
namespace Go.Proofs.Ytclehobammhjmaa
open Go.RowKit

theorem map_at {l out : List Int} {k : Nat} {x y : Int} (h : k < l.length) (hx : x = l[k]?.getD 0) (hy : sc x = y) (he : out ++ (l.drop k).map sc = l.map sc) : (out ++ [y]) ++ (l.drop (k + 1)).map sc = l.map sc := by
  rw [drop_here l k 0 h, List.map_cons, ← hx, hy] at he
  rw [List.append_assoc]; exact he

set_option maxHeartbeats 1000000 in
theorem uback_long (A : Option Addr) (c : Nat) (l : List Int) (w : World) (hm : l.length ≤ maxLen) (h : 300 < l.length) :
    Calls Try.prog 4 #[.slice A l.length c] w fun e w' => e = .returned (.bool true) ∧ Below w.heap.size w w' := by
  unfold maxLen at hm
  go_enter Try.func4, Try.ntmps4
  go_wp2_with fail
  refine (awake_any _).mono ?_
  rintro e w1 ⟨rfl, hb1⟩
  go_wp2
  go_ret
  exact ⟨rfl, hb1⟩

set_option maxRecDepth 100000 in
set_option maxHeartbeats 4000000 in
theorem uback_short (A : Option Addr) (c : Nat) (l : List Int) (w : World) (hA : Si w w.heap.size A l) (h : l.length ≤ 300) :
    Calls Try.prog 4 #[.slice A l.length c] w fun e w' => e = .returned (.bool true) ∧ Below w.heap.size w w' := by
  obtain ⟨i0, hi, hz0, hz1, hz2⟩ := info_parts info64
  go_enter Try.func4, Try.ntmps4
  go_wp2_with fail
  refine (awake_any _).mono ?_
  rintro e w1 ⟨rfl, hb1⟩
  go_wp2
  go_loopw [4, 5] (fun v i wr => ∃ (k : Nat) (out : List Int), k ≤ l.length ∧ i = .int .i64 k ∧ out.length ≤ k ∧ Hid (out ++ (l.drop k).map sc = l.map sc) ∧ wr.ownsRow w.heap.size 3 1 v out.length (ivs out) ∧ Below w.heap.size w wr) (fun _ i _ => l.length - (intOf i).toNat)
  case atStart => exact ⟨0, [], Nat.zero_le _, rfl, by simp, by rfl, by simpa [ivs] using World.ownsRow_nil _ _ _ _, hb1⟩
  case round =>
    obtain ⟨k, out, hk, rfl, hout, HE, hown, hbel⟩ := hrel
    by_cases hlt : k < l.length
    · obtain ⟨b, o, rfl, hbl, hc⟩ := hA (by omega)
      obtain ⟨x, hx⟩ : ∃ x, x = l[k]?.getD 0 := ⟨_, rfl⟩
      have hcell : wr.cell? ⟨b, o + k, none⟩ = some (.int .i64 x) := by rw [hx]; exact (hbel.cell (p := ⟨b, o + k, none⟩) hbl).trans (hc k hlt)
      have HX := Lib.hid hx
      clear hc hx
      have hsz := hbel.size
      cases hg : goodB x with
      | true =>
        go_wp2_with (first | (go_at_call 10; refine (Good_any _ _).mono ?_; rintro e w' ⟨rfl, rfl⟩) | (at_builtin; refine wpList_append_lies _ rfl _ _ _ rfl w.heap.size 3 i0 (.int .i64 0) 1 8 Try.underlying22 hi hz0 hz1 hz2 rfl (by omega) u4 _ _ rfl (hown.alloc _) ⟨wr.heap.size, 0, none⟩ 1 1 (ivs [x]) rfl rfl (World.news_of_block (heap_alloc_new wr _)) (ivs_one _) (by omega) (by unfold maxLen; omega) (by omega) (by simp; omega) _ rfl ?_; intro g cap w1 hown1 hgrow hat hgl))
        go_roundw
        case rel => exact ⟨k + 1, out ++ [x], by omega, by go_num, by simp; omega, map_at hlt HX.out (sc_yes hg) HE.out, own_ints hown1 (by simp), (hbel.alloc hsz _).grown hgrow (by simp; omega) (fun q hq => (hown.lt q hq).1)⟩
        case measure => simp [intOf]; omega
      | false =>
        go_wp2_with (first | (go_at_call 10; refine (Good_any _ _).mono ?_; rintro e w' ⟨rfl, rfl⟩) | (at_builtin; refine wpList_append_lies _ rfl _ _ _ rfl w.heap.size 3 i0 (.int .i64 0) 1 8 Try.underlying22 hi hz0 hz1 hz2 rfl (by omega) u4 _ _ rfl (hown.alloc _) ⟨wr.heap.size, 0, none⟩ 1 1 (ivs [65533]) rfl rfl (World.news_of_block (heap_alloc_new wr _)) (ivs_one _) (by omega) (by unfold maxLen; omega) (by omega) (by simp; omega) _ rfl ?_; intro g cap w1 hown1 hgrow hat hgl))
        go_roundw
        case rel => exact ⟨k + 1, out ++ [65533], by omega, by go_num, by simp; omega, map_at hlt HX.out (sc_no hg) HE.out, own_ints hown1 (by simp), (hbel.alloc hsz _).grown hgrow (by simp; omega) (fun q hq => (hown.lt q hq).1)⟩
        case measure => simp [intOf]; omega
    · have he : out = l.map sc := by
        have := HE.out
        rw [List.drop_eq_nil_of_le (by omega)] at this
        simpa using this
      subst he
      obtain ⟨cm, _, hcm, Am, hv, hsm⟩ := Si.of_own hown
      subst hv
      obtain ⟨m, hmm⟩ : ∃ m, m = l.map sc := ⟨_, rfl⟩
      rw [← hmm] at hsm
      have hml : m.length = l.length := by rw [hmm]; simp
      have hme : m.length ≤ 300 := by omega
      have hel := enc16_length l
      have htl := textL_length l
      have hUB : ∀ A c w, Sl w w.heap.size A (bytes16 (enc16 l)) → Calls Try.prog 12 #[.slice A (bytes16 (enc16 l)).length c] w (RetSiB w (enc16 l) false) := fun A c w hs => by
        have := Units_any A c (bytes16 (enc16 l)) w hs (by rw [bytes16_length]; omega)
        rwa [units_bytes16 (enc16_unit l), show oddB (bytes16 (enc16 l)) = false by simp [oddB, bytes16_length]] at this
      have hDE : ∀ A c w, Si w w.heap.size A (enc16 l) → Calls Try.prog 17 #[.slice A (enc16 l).length c] w (RetSi w m) := fun A c w hs => by
        have := Dec16_any A c (enc16 l) w hs (by omega)
        rwa [dec16_enc16, ← hmm] at this
      have hRT : ∀ w, Calls Try.prog 23 #[.string (str (textL l))] w (RetSi w m) := fun w => by
        have := Runes_any (textL l) w (by omega)
        rwa [runes_text, ← hmm] at this
      have hE : ∀ c w, Si w w.heap.size A l → Calls Try.prog 15 #[.slice A l.length c] w (RetSi w (enc16 l)) := fun c w hs => Enc16_any A c l w hs (by omega)
      have hB : ∀ A c w, Si w w.heap.size A (enc16 l) → Calls Try.prog 19 #[.slice A (enc16 l).length c] w (RetSl w (bytes16 (enc16 l))) := fun A c w hs => Bytes_any A c (enc16 l) w hs (by omega)
      have hT : ∀ c w, Si w w.heap.size A l → Calls Try.prog 21 #[.slice A l.length c] w fun e w' => e = .returned (.string (str (textL l))) ∧ Below w.heap.size w w' := fun c w hs => Text_any A c l w hs (by omega)
      have hul : (enc16 l).length ≤ 600 := by omega
      generalize bytes16 (enc16 l) = bb at *
      generalize enc16 l = u at *
      generalize textL l = tt at *
      have hSl : ∀ (A B : Option Addr) (c c' : Nat) (w : World), Si w w.heap.size A m → Si w w.heap.size B m → Calls Try.prog 14 #[.slice A m.length c, .slice B m.length c'] w fun e w' => e = .returned (.bool true) ∧ Below w.heap.size w w' := fun A B c c' w ha hb => Same_yes A B c c' m w ha hb (by omega)
      have hSu : ∀ (A B : Option Addr) (c c' : Nat) (w : World), Si w w.heap.size A u → Si w w.heap.size B u → Calls Try.prog 14 #[.slice A u.length c, .slice B u.length c'] w fun e w' => e = .returned (.bool true) ∧ Below w.heap.size w w' := fun A B c c' w ha hb => Same_yes A B c c' u w ha hb (by omega)
      have HUB := Lib.hid hUB
      have HDE := Lib.hid hDE
      have HRT := Lib.hid hRT
      have HEE := Lib.hid hE
      have HB := Lib.hid hB
      have HT := Lib.hid hT
      have HSl := Lib.hid hSl
      have HSu := Lib.hid hSu
      have hvl : Value.slice Am (l.map sc).length cm = Value.slice Am m.length cm := by rw [hmm]
      rw [hvl]
      clear hUB hDE hRT hE hB hT hSl hSu hmm hml hel htl hown HE hk hout hvl
      go_wp2_with fail
      refine (HEE.out _ _ (hA.below hbel |>.more hbel.size)).mono ?_
      rintro e w2 ⟨A2, c2, rfl, hc2, hs2, hb2⟩
      have hb2' := hbel.trans (hb2.mono hbel.size)
      go_wp2_with fail
      refine (HB.out _ _ _ hs2).mono ?_
      rintro e w3 ⟨A3, c3, rfl, hc3, hs3, hb3⟩
      have hb3' := hb2'.trans (hb3.mono hb2'.size)
      go_wp2_with fail
      refine (HUB.out _ _ _ hs3).mono ?_
      rintro e w4 ⟨A4, c4, rfl, hc4, hs4, hb4⟩
      have hb4' := hb3'.trans (hb4.mono hb3'.size)
      have hs24 := (hs2.over hb3).over hb4
      have hsm4 := ((hsm.over hb2).over hb3).over hb4
      go_wp2_with fail
      refine (HDE.out _ _ _ hs24).mono ?_
      rintro e w5 ⟨A5, c5, rfl, hc5, hs5, hb5⟩
      have hb5' := hb4'.trans (hb5.mono hb4'.size)
      go_wp2_with fail
      refine (HSl.out _ _ _ _ _ hs5 (hsm4.over hb5)).mono ?_
      rintro e w6 ⟨rfl, hb6⟩
      have hb6' := hb5'.trans (hb6.mono hb5'.size)
      go_wp2_with fail
      refine (HSu.out _ _ _ _ _ ((hs24.over hb5).over hb6) ((hs4.over hb5).over hb6)).mono ?_
      rintro e w7 ⟨rfl, hb7⟩
      have hb7' := hb6'.trans (hb7.mono hb6'.size)
      go_wp2_with fail
      refine (HT.out _ _ (hA.below hb7' |>.more hb7'.size)).mono ?_
      rintro e w8 ⟨rfl, hb8⟩
      have hb8' := hb7'.trans (hb8.mono hb7'.size)
      go_wp2_with fail
      refine (HRT.out _).mono ?_
      rintro e w9 ⟨A9, c9, rfl, hc9, hs9, hb9⟩
      have hb9' := hb8'.trans (hb9.mono hb8'.size)
      go_wp2_with fail
      refine (HSl.out _ _ _ _ _ hs9 (((((hsm4.over hb5).over hb6).over hb7).over hb8).over hb9)).mono ?_
      rintro e w10 ⟨rfl, hb10⟩
      have hb10' := hb9'.trans (hb10.mono hb9'.size)
      go_wp2
      go_ret
      exact ⟨rfl, hb10'⟩
theorem uback_walk (A : Option Addr) (c : Nat) (l : List Int) (w : World) (hA : Si w w.heap.size A l) (hm : l.length ≤ maxLen) :
    Calls Try.prog 4 #[.slice A l.length c] w fun e w' => e = .returned (.bool true) ∧ Below w.heap.size w w' := by
  by_cases h : 300 < l.length
  · exact uback_long A c l w hm h
  · exact uback_short A c l w hA (by omega)
end Go.Proofs.Ytclehobammhjmaa
