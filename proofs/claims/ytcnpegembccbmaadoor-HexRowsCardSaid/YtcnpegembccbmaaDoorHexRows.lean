/-
  The walk of the statement HexRows.
-/
import Derived.Test.YtcnpegembccbmaaDoorHexAwake
import Derived.Test.YtcnpegembccbmaaDoorHexPure
namespace Go.Proofs.YtcnpegembccbmaaDoor
open Go.RowKit

set_option maxHeartbeats 1000000 in
theorem rows_long (A : Option Addr) (c : Nat) (a l : List UInt8) (w : World) (ht : Tab w) (hm : a.length ≤ maxLen) (hm' : l.length ≤ maxLen) (h : 200 < a.length ∨ 300 < l.length) :
    Calls Tryd.prog 8 #[.slice A a.length c, .string (str l)] w fun e w' => e = .returned (.bool true) ∧ Below w.heap.size w w' := by
  unfold maxLen at hm hm'
  by_cases h1 : 200 < a.length
  · have d1 : decide ((200 : Int) < (a.length : Int)) = true := by simp; omega
    go_enter Tryd.func8, Tryd.ntmps8
    go_wp2_with fail
    refine (awake_any _ ht).mono ?_
    rintro e w1 ⟨rfl, hb1⟩
    go_wp2
    go_ret
    exact ⟨rfl, hb1⟩
  · have d1 : decide ((200 : Int) < (a.length : Int)) = false := by simp; omega
    have d2 : decide ((300 : Int) < (l.length : Int)) = true := by simp; omega
    go_enter Tryd.func8, Tryd.ntmps8
    go_wp2_with fail
    refine (awake_any _ ht).mono ?_
    rintro e w1 ⟨rfl, hb1⟩
    go_wp2
    go_ret
    exact ⟨rfl, hb1⟩

theorem str_zero (l : List UInt8) : str l ++ ByteArray.mk #[48] = str (l ++ [48]) := str_append l [48]

set_option maxHeartbeats 1000000 in
theorem rows_bad (A : Option Addr) (c : Nat) (a l : List UInt8) (w : World) (ht : Tab w) (hA : Sl w w.heap.size A a) (h1 : a.length ≤ 200) (h2 : l.length ≤ 300) (hg : bad l < l.length) :
    Calls Tryd.prog 8 #[.slice A a.length c, .string (str l)] w fun e w' => e = .returned (.bool true) ∧ Below w.heap.size w w' := by
  have d1 : decide ((200 : Int) < (a.length : Int)) = false := by simp; omega
  have d2 : decide ((300 : Int) < (l.length : Int)) = false := by simp; omega
  have hxl := hexL_length a
  have hba := bad_append (good_hexL a) l
  have hU : ∀ w, Tab w → Calls Tryd.prog 13 #[.string (str l)] w (RetBytes w [] (bad l) 1) := fun w ht => UnHex_bad l w ht (by omega) hg
  have hV : ∀ w, Tab w → Calls Tryd.prog 13 #[.string (str (hexL a ++ l))] w (RetBytes w [] ((bad l : Int) + 2 * (a.length : Int)) 1) := fun w ht => by
    have := UnHex_bad (hexL a ++ l) w ht (by rw [List.length_append]; omega) (by rw [List.length_append]; omega)
    rw [hba, hxl] at this
    rwa [show ((2 * a.length + bad l : Nat) : Int) = (bad l : Int) + 2 * (a.length : Int) by omega] at this
  have hX : (hexL a).length + l.length ≤ 9223372036854775807 := by omega
  have h48 := str_zero l
  obtain ⟨k, hk⟩ : ∃ k, k = bad l := ⟨_, rfl⟩
  rw [← hk] at hg hU hV
  have HU := Lib.hid hU
  have HV := Lib.hid hV
  clear hxl hba hk hU hV
  go_enter Tryd.func8, Tryd.ntmps8
  go_wp2_with fail
  refine (awake_any _ ht).mono ?_
  rintro e w1 ⟨rfl, hb1⟩
  have ht1 := ht.below' hb1
  go_wp2_with fail
  refine (HU.out _ ht1).mono ?_
  rintro e w2 ⟨A2, c2, rfl, hc2, hsl2, hb2⟩
  have ht2 := ht1.below' hb2
  have hb2' := hb1.trans (hb2.mono hb1.size)
  go_wp2_with fail
  refine (Hex_any A c a _ (hA.over hb2') (by omega)).mono ?_
  rintro e w3 ⟨rfl, hb3⟩
  have ht3 := ht2.below' hb3
  have hb3' := hb2'.trans (hb3.mono hb2'.size)
  go_wp2_with fail
  refine (HV.out _ ht3).mono ?_
  rintro e w4 ⟨A4, c4, rfl, hc4, hsl4, hb4⟩
  have ht4 := ht3.below' hb4
  have hb4' := hb3'.trans (hb4.mono hb3'.size)
  go_wp2_with fail
  refine (UnHex_any (l ++ [48]) _ ht4 (by simp; omega)).mono ?_
  rintro e w5 ⟨A5, c5, rfl, hc5, hsl5, hb5⟩
  have hb5' := hb4'.trans (hb5.mono hb4'.size)
  generalize unN (l ++ [48]) = n5
  generalize unE (l ++ [48]) = e5
  go_wp2
  go_ret
  exact ⟨rfl, hb5'⟩

/-- string(b), at this program. -/
theorem conv8 {w : World} {B : Nat} {A : Option Addr} {l : List UInt8} (h : Sl w B A l) (c : Nat) : (convert 22 9 (.slice A l.length c)).run Tryd.prog w = .ok (.string (str l)) w :=
  run_str (P := Tryd.prog) h c 22 9 5 Tryd.underlying22 Tryd.underlying5 Tryd.underlying9

set_option maxHeartbeats 2000000 in
theorem rows_good (A : Option Addr) (c : Nat) (a l : List UInt8) (w : World) (ht : Tab w) (hA : Sl w w.heap.size A a) (h1 : a.length ≤ 200) (h2 : l.length ≤ 300) (hg : Good l) :
    Calls Tryd.prog 8 #[.slice A a.length c, .string (str l)] w fun e w' => e = .returned (.bool true) ∧ Below w.heap.size w w' := by
  have d1 : decide ((200 : Int) < (a.length : Int)) = false := by simp; omega
  have d2 : decide ((300 : Int) < (l.length : Int)) = false := by simp; omega
  have hxl := hexL_length a
  have hpl := pack_length (nibs l)
  have hnl := nibs_length l
  obtain ⟨x, hx⟩ : ∃ x, x = pack (nibs l) := ⟨_, rfl⟩
  obtain ⟨y, hy⟩ : ∃ y, y = a ++ x := ⟨_, rfl⟩
  obtain ⟨z, hz⟩ : ∃ z, z = pack (nibs (l ++ [48])) := ⟨_, rfl⟩
  have hz' := pack_zero l
  rw [← hx, ← hz] at hz'
  have hxlen : x.length ≤ 300 := by rw [hx]; omega
  have hU : ∀ w, Tab w → Calls Tryd.prog 13 #[.string (str l)] w (RetBytes w x l.length 0) := fun w ht => by rw [hx]; exact UnHex_good l w ht (by omega) hg
  have hV : ∀ w, Tab w → Calls Tryd.prog 13 #[.string (str (hexL a ++ l))] w (RetBytes w y ((hexL a ++ l).length : Int) 0) := fun w ht => by
    have := UnHex_good (hexL a ++ l) w ht (by rw [List.length_append]; omega) (good_append (good_hexL a) hg)
    rwa [pack_hexL_append, ← hx, ← hy] at this
  have hW : ∀ w, Tab w → Calls Tryd.prog 13 #[.string (str (l ++ [48]))] w (RetBytes w z ((l ++ [48]).length : Int) 0) := fun w ht => by
    rw [hz]; exact UnHex_good (l ++ [48]) w ht (by simp; omega) (good_append hg good_zero)
  have hX : (hexL a).length + l.length ≤ 9223372036854775807 := by omega
  have h48 := str_zero l
  have hyb : (y == a ++ x) = true := by rw [hy]; simp
  have hzb : z = x ∨ x.length < z.length := hz'
  have HU := Lib.hid hU
  have HV := Lib.hid hV
  have HW := Lib.hid hW
  clear hxl hpl hnl hx hy hz hz' hU hV hW
  have hsum : a.length + x.length ≤ 9223372036854775807 := by omega
  have HZ := Lib.hid hzb
  clear hzb
  go_enter Tryd.func8, Tryd.ntmps8
  go_wp2_with fail
  refine (awake_any _ ht).mono ?_
  rintro e w1 ⟨rfl, hb1⟩
  have ht1 := ht.below' hb1
  go_wp2_with fail
  refine (HU.out _ ht1).mono ?_
  rintro e w2 ⟨A2, c2, rfl, hc2, hsl2, hb2⟩
  have ht2 := ht1.below' hb2
  have hb2' := hb1.trans (hb2.mono hb1.size)
  go_wp2_with fail
  refine (Hex_any A c a _ (hA.over hb2') (by omega)).mono ?_
  rintro e w3 ⟨rfl, hb3⟩
  have ht3 := ht2.below' hb3
  have hb3' := hb2'.trans (hb3.mono hb2'.size)
  go_wp2_with fail
  refine (HV.out _ ht3).mono ?_
  rintro e w4 ⟨A4, c4, rfl, hc4, hsl4, hb4⟩
  have ht4 := ht3.below' hb4
  have hb4' := hb3'.trans (hb4.mono hb3'.size)
  go_wp2_with fail
  refine (HW.out _ ht4).mono ?_
  rintro e w5 ⟨A5, c5, rfl, hc5, hsl5, hb5⟩
  have hb5' := hb4'.trans (hb5.mono hb4'.size)
  have cy := conv8 (hsl4.over hb5) c4
  have ca := conv8 (hA.over hb5') c
  have cx := conv8 (((hsl2.over hb3).over hb4).over hb5) c2
  have cz := conv8 hsl5 c5
  rcases HZ.out with hzx | hzx
  · subst hzx
    have d3 : decide ((z.length : Int) ≤ (z.length : Int)) = true := by simp
    have d4 : decide ((z.length : Int) < (z.length : Int)) = false := by simp
    have d5 : (z == z) = true := by simp
    go_wp2
    go_ret
    exact ⟨rfl, hb5'⟩
  · have d3 : decide ((x.length : Int) ≤ (z.length : Int)) = true := by simp; omega
    have d4 : decide ((x.length : Int) < (z.length : Int)) = true := by simp; omega
    go_wp2
    go_ret
    exact ⟨rfl, hb5'⟩

theorem rows_walk (A : Option Addr) (c : Nat) (a l : List UInt8) (w : World) (ht : Tab w) (hA : Sl w w.heap.size A a) (hm : a.length ≤ maxLen) (hm' : l.length ≤ maxLen) :
    Calls Tryd.prog 8 #[.slice A a.length c, .string (str l)] w fun e w' => e = .returned (.bool true) ∧ Below w.heap.size w w' := by
  by_cases h : 200 < a.length ∨ 300 < l.length
  · exact rows_long A c a l w ht hm hm' h
  · by_cases hg : bad l < l.length
    · exact rows_bad A c a l w ht hA (by omega) (by omega) hg
    · exact rows_good A c a l w ht hA (by omega) (by omega) (good_of_bad (by have := bad_le l; omega))
end Go.Proofs.YtcnpegembccbmaaDoor
