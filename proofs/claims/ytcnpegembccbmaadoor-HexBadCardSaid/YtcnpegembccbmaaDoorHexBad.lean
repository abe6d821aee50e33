/-
  The walk of the statement HexBad.
-/
import Derived.Test.YtcnpegembccbmaaDoorHexAwake
namespace Go.Proofs.YtcnpegembccbmaaDoor
open Go.RowKit

set_option maxHeartbeats 1000000 in
theorem bad_long (l : List UInt8) (w : World) (ht : Tab w) (hm : l.length ≤ maxLen) (h : 1000 < l.length) :
    Calls Tryd.prog 7 #[.string (str l)] w fun e w' => e = .returned (.bool true) ∧ Below w.heap.size w w' := by
  unfold maxLen at hm
  go_enter Tryd.func7, Tryd.ntmps7
  go_wp2_with fail
  refine (awake_any _ ht).mono ?_
  rintro e w1 ⟨rfl, hb1⟩
  go_wp2
  go_ret
  exact ⟨rfl, hb1⟩

set_option maxHeartbeats 1000000 in
theorem bad_good (l : List UInt8) (w : World) (ht : Tab w) (h : l.length ≤ 1000) (hg : Good l) :
    Calls Tryd.prog 7 #[.string (str l)] w fun e w' => e = .returned (.bool true) ∧ Below w.heap.size w w' := by
  have hp := pack_length (nibs l)
  have hn := nibs_length l
  have hle : (pack (nibs l)).length ≤ (l.length + 1) / 2 := by omega
  clear hp hn
  go_enter Tryd.func7, Tryd.ntmps7
  go_wp2_with fail
  refine (awake_any _ ht).mono ?_
  rintro e w1 ⟨rfl, hb1⟩
  go_wp2_with fail
  refine (UnHex_good l _ (ht.below' hb1) (by omega) hg).mono ?_
  rintro e w2 ⟨A, c, rfl, hc, hsl, hb2⟩
  generalize (pack (nibs l)).length = m at *
  have hd : decide ((m : Int) ≤ ((l.length : Int) + 1) / 2) = true := by simp; omega
  go_wp2
  go_ret
  exact ⟨rfl, hb1.trans (hb2.mono hb1.size)⟩

set_option maxHeartbeats 1000000 in
theorem bad_bad (l : List UInt8) (w : World) (ht : Tab w) (h : l.length ≤ 1000) (hg : bad l < l.length) :
    Calls Tryd.prog 7 #[.string (str l)] w fun e w' => e = .returned (.bool true) ∧ Below w.heap.size w w' := by
  obtain ⟨hgd, hk0⟩ := bad_lt hg
  have hU : ∀ w, Tab w → Calls Tryd.prog 13 #[.string (str l)] w (RetBytes w [] (bad l) 1) := fun w ht => UnHex_bad l w ht (by omega) hg
  obtain ⟨k, hk⟩ : ∃ k, k = bad l := ⟨_, rfl⟩
  rw [← hk] at hgd hk0 hg hU
  clear hk
  have hV : ∀ w, Tab w → Calls Tryd.prog 13 #[.string (str (l.take k))] w (RetBytes w (pack (nibs (l.take k))) k 0) := fun w ht => by
    have := UnHex_good (l.take k) w ht (by simp; omega) hgd
    rwa [show (l.take k).length = k by simp; omega] at this
  obtain ⟨x, hx⟩ : ∃ x, x = l[k]?.getD 0 := ⟨_, rfl⟩
  have hgs : ∀ h, (str l)[k]'h = x := fun h => (get_str l k h).trans hx.symm
  have hx1 := x.toNat_lt
  rw [← hx] at hk0
  have hz0 : kz (x.toNat : Int) = 0 := hk0
  have hw : (kz (x.toNat : Int) == 1) = false := by rw [hz0]; rfl
  have hk2 : kz (x.toNat : Int) < 2 := by omega
  have HU := Lib.hid hU
  have HV := Lib.hid hV
  clear hx hk0 hz0 hgd hU hV
  go_enter Tryd.func7, Tryd.ntmps7
  go_wp2_with fail
  refine (awake_any _ ht).mono ?_
  rintro e w1 ⟨rfl, hb1⟩
  have ht1 := ht.below' hb1
  go_wp2_with fail
  refine (HU.out _ ht1).mono ?_
  rintro e w2 ⟨A, c, rfl, hc, hsl, hb2⟩
  have ht2 := ht1.below' hb2
  go_wp2_with fail
  refine (Digit_no _ _ ht2 hk2).mono ?_
  rintro e w2' ⟨rfl, rfl⟩
  go_wp2_with fail
  refine (HV.out _ ht2).mono ?_
  rintro e w3 ⟨A', c', rfl, hc', hsl', hb3⟩
  have ht3 := ht2.below' hb3
  go_wp2_with fail
  refine (White_any _ _ ht3).mono ?_
  rintro e w3' ⟨rfl, rfl⟩
  go_wp2
  go_ret
  exact ⟨rfl, (hb1.trans (hb2.mono hb1.size)).trans (hb3.mono (by have := hb1.size; have := hb2.size; omega))⟩

theorem bad_walk (l : List UInt8) (w : World) (ht : Tab w) (hm : l.length ≤ maxLen) :
    Calls Tryd.prog 7 #[.string (str l)] w fun e w' => e = .returned (.bool true) ∧ Below w.heap.size w w' := by
  by_cases h : 1000 < l.length
  · exact bad_long l w ht hm h
  · by_cases hg : bad l < l.length
    · exact bad_bad l w ht (by omega) hg
    · exact bad_good l w ht (by omega) (good_of_bad (by have := bad_le l; omega))
end Go.Proofs.YtcnpegembccbmaaDoor
