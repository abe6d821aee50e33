/-
  The walk of the statement HexTexts.
-/
import Derived.Test.YtcnpegembccbmaaDoorHexAwake
import Derived.Test.YtcnpegembccbmaaDoorHexPure
import Derived.Test.YtcnpegembccbmaaDoorHexRows
import Derived.Test.YtcnpegembccbmaaDoorHexTexts0
import Derived.Deep.RegionHeld
import Derived.Deep.DrawnRows
namespace Go.Proofs.YtcnpegembccbmaaDoor
open Go.RowKit
attribute [local go_sem ↓] Go.wp_at_zero Go.wp_at_succ

set_option maxHeartbeats 1000000 in
theorem texts_no (n m d : Int) (w : World) (ht : Tab w) (hs : saneB n m = false) :
    Calls Tryd.prog 9 #[.agg #[.int .i64 n, .int .i64 m], .int .i64 d] w fun e w' => e = .returned (.bool true) ∧ Below w.heap.size w w' := by
  have ha := ht.code (.cells #[.int .i64 n, .int .i64 m] 33)
  have htx : textL n m = [] := by simp [textL, hs]
  have hcl : codeL n m = [] := by simp [codeL, hs]
  have hT : ∀ w, Calls Tryd.prog 25 #[.agg #[.int .i64 n, .int .i64 m]] w fun e w' => e = .returned (.string (str [])) ∧ Below w.heap.size w w' := fun w => by have := Text_any n m w; rwa [htx] at this
  have hB : ∀ w, Calls Tryd.prog 23 #[.agg #[.int .i64 n, .int .i64 m]] w (RetSl w []) := fun w => by have := Bytes_any n m w; rwa [hcl] at this
  have HT := Lib.hid hT
  have HB := Lib.hid hB
  clear hT hB htx hcl
  have hd : ∀ w, Tab w → ∃ (x : Int) (b : Bool), (b = true → (kz d == 1) = false) ∧ Calls Tryd.prog 11 #[.int .i64 d] w fun e w' => e = .returned (.tuple #[.int .i64 x, .bool b]) ∧ w = w' := fun w ht => by
    by_cases h : 2 ≤ kz d
    · exact ⟨_, true, fun _ => by have : kz d ≠ 1 := by omega
                                  simpa using this, Digit_yes d w ht h⟩
    · exact ⟨_, false, (fun h => by cases h), Digit_no d w ht (by omega)⟩
  have HD := Lib.hid hd
  clear hd
  go_enter Tryd.func9, Tryd.ntmps9
  go_wp2_with fail
  refine (awake_any _ ha).mono ?_
  rintro e w1 ⟨rfl, hb1⟩
  obtain ⟨k0, k1, kz1⟩ := code_cells hb1
  have ht1 := ha.below' hb1
  go_wp2_with fail
  refine (HT.out _).mono ?_
  rintro e w2 ⟨rfl, hb2⟩
  have hb2' := hb1.trans (hb2.mono hb1.size)
  obtain ⟨k0', k1', kz2⟩ := code_cells hb2'
  have ht2 := ht1.below' hb2
  clear k0 k1
  go_wp2_with fail
  obtain ⟨x, b, hb, hdig⟩ := HD.out _ ht2
  refine hdig.mono ?_
  rintro e w2' ⟨rfl, rfl⟩
  have H1 := Lib.hid hb
  clear hb hdig
  cases b
  · go_wp2_with fail
    refine (Sane_any _ _ _).mono ?_
    rintro e w3 ⟨rfl, hb3⟩
    have hb3' := hb2'.trans (hb3.mono hb2'.size)
    obtain ⟨k0, k1, kz3⟩ := code_cells hb3'
    go_wp2_with fail
    refine (HB.out _).mono ?_
    rintro e w4 ⟨A4, c4, rfl, hc4, hsl4, hb4⟩
    go_wp2
    go_ret
    exact ⟨rfl, code_below (hb3'.trans (hb4.mono hb3'.size))⟩
  · have hw := H1.out rfl
    go_wp2_with fail
    refine (White_any _ _ ht2).mono ?_
    rintro e w2' ⟨rfl, rfl⟩
    go_wp2_with fail
    refine (Sane_any _ _ _).mono ?_
    rintro e w3 ⟨rfl, hb3⟩
    have hb3' := hb2'.trans (hb3.mono hb2'.size)
    obtain ⟨k0, k1, kz3⟩ := code_cells hb3'
    go_wp2_with fail
    refine (HB.out _).mono ?_
    rintro e w4 ⟨A4, c4, rfl, hc4, hsl4, hb4⟩
    go_wp2
    go_ret
    exact ⟨rfl, code_below (hb3'.trans (hb4.mono hb3'.size))⟩

theorem text_in (l : List UInt8) : ((60 : UInt8) :: (l ++ [62])).length = l.length + 2 := by simp

set_option maxHeartbeats 2000000 in
theorem texts_yes (n m d : Int) (w : World) (ht : Tab w) (hs : saneB n m = true) :
    Calls Tryd.prog 9 #[.agg #[.int .i64 n, .int .i64 m], .int .i64 d] w fun e w' => e = .returned (.bool true) ∧ Below w.heap.size w w' := by
  have ha := ht.code (.cells #[.int .i64 n, .int .i64 m] 33)
  obtain ⟨y, hy⟩ : ∃ y, y = beL n.toNat m := ⟨_, rfl⟩
  obtain ⟨x, hx⟩ : ∃ x, x = hexL y := ⟨_, rfl⟩
  obtain ⟨t, htt⟩ : ∃ t, t = 60 :: (x ++ [62]) := ⟨_, rfl⟩
  have htx : textL n m = t := by simp [textL, hs, htt, hx, hy]
  have hcl : codeL n m = y := by simp [codeL, hs, hy]
  have hyl : 1 ≤ y.length ∧ y.length ≤ 4 := by rw [hy, beL_length]; have := (saneB_iff n m).1 hs; omega
  have hxl : x.length = 2 * y.length := by rw [hx, hexL_length]
  have htl : t.length = x.length + 2 := by rw [htt, text_in]
  have hT : ∀ w, Calls Tryd.prog 25 #[.agg #[.int .i64 n, .int .i64 m]] w fun e w' => e = .returned (.string (str t)) ∧ Below w.heap.size w w' := fun w => by have := Text_any n m w; rwa [htx] at this
  have hB : ∀ w, Calls Tryd.prog 23 #[.agg #[.int .i64 n, .int .i64 m]] w (RetSl w y) := fun w => by have := Bytes_any n m w; rwa [hcl] at this
  have hU : ∀ w, Tab w → Calls Tryd.prog 13 #[.string (str x)] w (RetBytes w y x.length 0) := fun w ht => by
    have := UnHex_good x w ht (by omega) (by rw [hx]; exact good_hexL y)
    rwa [show pack (nibs x) = y by rw [hx, pack_hexL]] at this
  have hH : ∀ (A : Option Addr) (c : Nat) w, Sl w w.heap.size A y → Calls Tryd.prog 17 #[.slice A y.length c] w fun e w' => e = .returned (.string (str x)) ∧ Below w.heap.size w w' := fun A c w h => by rw [hx]; exact Hex_any A c y w h (by omega)
  have g0 : ∀ h, (str t)[0]'h = 60 := fun h => by rw [get_str, htt]; rfl
  have g1 : ∀ h, (str t)[t.length - 1]'h = 62 := fun h => by rw [get_str, htl, htt]; simp
  have hsub : (str t).extract 1 (t.length - 1) = str x := by
    rw [str_extract, htl, htt]
    simp
  have l1 : 4 ≤ t.length := by omega
  have l2 : t.length ≤ 10 := by omega
  have HT := Lib.hid hT
  have HB := Lib.hid hB
  have HU := Lib.hid hU
  have HH := Lib.hid hH
  have HTL := Lib.hid htl
  have HXL := Lib.hid hxl
  clear hT hB htx hcl hU hH htt hx hy htl hxl
  have hd : ∀ w, Tab w → ∃ (x : Int) (b : Bool), (b = true → (kz d == 1) = false) ∧ Calls Tryd.prog 11 #[.int .i64 d] w fun e w' => e = .returned (.tuple #[.int .i64 x, .bool b]) ∧ w = w' := fun w ht => by
    by_cases h : 2 ≤ kz d
    · exact ⟨_, true, fun _ => by have : kz d ≠ 1 := by omega
                                  simpa using this, Digit_yes d w ht h⟩
    · exact ⟨_, false, (fun h => by cases h), Digit_no d w ht (by omega)⟩
  have HD := Lib.hid hd
  clear hd
  go_enter Tryd.func9, Tryd.ntmps9
  go_wp2_with fail
  refine (awake_any _ ha).mono ?_
  rintro e w1 ⟨rfl, hb1⟩
  obtain ⟨k0, k1, kz1⟩ := code_cells hb1
  have ht1 := ha.below' hb1
  go_wp2_with fail
  refine (HT.out _).mono ?_
  rintro e w2 ⟨rfl, hb2⟩
  have hb2' := hb1.trans (hb2.mono hb1.size)
  obtain ⟨k0', k1', kz2⟩ := code_cells hb2'
  have ht2 := ht1.below' hb2
  clear k0 k1
  go_wp2_with fail
  obtain ⟨x', b, hb, hdig⟩ := HD.out _ ht2
  refine hdig.mono ?_
  rintro e w2' ⟨rfl, rfl⟩
  have H1 := Lib.hid hb
  clear hb hdig
  cases b
  case' true =>
    have hw := H1.out rfl
    go_wp2_with fail
    refine (White_any _ _ ht2).mono ?_
    rintro e w2' ⟨rfl, rfl⟩
  all_goals
    go_wp2_with fail
    refine (Sane_any _ _ _).mono ?_
    rintro e w3 ⟨rfl, hb3⟩
    have hb3' := hb2'.trans (hb3.mono hb2'.size)
    have ht3 := ht2.below' hb3
    go_wp2_with fail
    refine (HU.out _ ht3).mono ?_
    rintro e w4 ⟨A4, c4, rfl, hc4, hsl4, hb4⟩
    have hb4' := hb3'.trans (hb4.mono hb3'.size)
    have ht4 := ht3.below' hb4
    obtain ⟨k0, k1, kz4⟩ := code_cells hb4'
    have cv4 := conv8 hsl4 c4
    have cv4' := conv8 hsl4.drew c4
    have hyy : (y == y) = true := by simp
    have hxx : (x == x) = true := by simp
    clear k0' k1'
    go_wp2_with fail
    have hwr : IntKind.i64.wrap ((t.length : Int) - 1) = (t.length : Int) - 1 := IntWalk.i64_in _ (by omega)
    have hsi : ∀ wx, (Instr.slice 9 (.string (str t)) (some (.int .i64 1)) (some (.int .i64 ((t.length : Int) - 1))) none).run Tryd.prog wx = .ok (.string (str x)) wx := fun wx => by
      rw [run_slice_string wx 9 (str t) .i64 .i64 1 ((t.length : Int) - 1) Tryd.underlying9 (by omega) (by omega) (by rw [str_size]; omega), show ((t.length : Int) - 1).toNat = t.length - 1 by omega]
      exact congrArg (fun z => Result.ok (Value.string z) wx) hsub
    go_region_held (fun w' => w'.cell? ⟨w.heap.size, 0, none⟩ = some (.int .i64 n) ∧ w'.cell? ⟨w.heap.size, 1, none⟩ = some (.int .i64 m) ∧ (convert 22 9 (.slice A4 y.length c4)).run Tryd.prog w' = .ok (.string (str y)) w')
      (first | exact ⟨k0, k1, cv4'⟩ | exact ⟨k05, k15, cv45⟩ | exact ⟨k06, k16, cv46⟩)
      (first
        | (go_at_call 23; refine (HB.out _).mono ?_; rintro e w5 ⟨A5, c5, rfl, hc5, hsl5, hb5⟩; have cv5 := conv8 hsl5 c5; have hsl45 := hsl4.drew.over hb5; have cv45 := conv8 hsl45 c4; have hb5' := hb4'.drew.trans (hb5.mono hb4'.size); obtain ⟨k05, k15, kz5⟩ := code_cells hb5')
        | (go_at_call 17; refine (HH.out _ _ _ hsl45).mono ?_; rintro e w6 ⟨rfl, hb6⟩; have cv46 := conv8 (hsl45.over hb6) c4; have hb6' := hb5'.trans (hb6.mono hb5'.size); obtain ⟨k06, k16, kz6⟩ := code_cells hb6'))
    go_wp2
    go_ret
    exact ⟨rfl, code_below hb6'⟩

theorem texts_walk (n m d : Int) (w : World) (ht : Tab w) :
    Calls Tryd.prog 9 #[.agg #[.int .i64 n, .int .i64 m], .int .i64 d] w fun e w' => e = .returned (.bool true) ∧ Below w.heap.size w w' := by
  cases hs : saneB n m
  · exact texts_no n m d w ht hs
  · exact texts_yes n m d w ht hs
end Go.Proofs.YtcnpegembccbmaaDoor
