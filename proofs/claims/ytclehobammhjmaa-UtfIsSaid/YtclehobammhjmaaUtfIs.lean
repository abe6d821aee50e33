/-
  The walk of the statement UtfIs.
-/
import Derived.Test.YtclehobammhjmaaUtfAwake
import Derived.Test.YtclehobammhjmaaRefRunes
import Derived.Test.YtclehobammhjmaaRefDec
import Derived.Deep.RegionHeld
import Derived.Deep.DrawnRows
namespace Go.Proofs.Ytclehobammhjmaa
open Go.RowKit
attribute [local go_sem ↓] Go.wp_at_zero Go.wp_at_succ

set_option maxHeartbeats 1000000 in
theorem uis_long (A B : Option Addr) (c cb : Nat) (l : List Int) (b s : List UInt8) (w : World) (hm : l.length ≤ maxLen) (hm' : b.length ≤ maxLen) (hm'' : s.length ≤ maxLen) (h : 300 < l.length ∨ 600 < b.length ∨ 600 < s.length) :
    Calls Try.prog 3 #[.slice A l.length c, .slice B b.length cb, .string (str s)] w fun e w' => e = .returned (.bool true) ∧ Below w.heap.size w w' := by
  unfold maxLen at hm hm' hm''
  by_cases h1 : 300 < l.length
  · have d1 : decide ((300 : Int) < (l.length : Int)) = true := by simp; omega
    go_enter Try.func3, Try.ntmps3
    go_wp2_with fail
    refine (awake_any _).mono ?_
    rintro e w1 ⟨rfl, hb1⟩
    go_wp2
    go_ret
    exact ⟨rfl, hb1⟩
  have d1 : decide ((300 : Int) < (l.length : Int)) = false := by simp; omega
  by_cases h2 : 600 < b.length
  · have d2 : decide ((600 : Int) < (b.length : Int)) = true := by simp; omega
    go_enter Try.func3, Try.ntmps3
    go_wp2_with fail
    refine (awake_any _).mono ?_
    rintro e w1 ⟨rfl, hb1⟩
    go_wp2
    go_ret
    exact ⟨rfl, hb1⟩
  · have d2 : decide ((600 : Int) < (b.length : Int)) = false := by simp; omega
    have d3 : decide ((600 : Int) < (s.length : Int)) = true := by simp; omega
    go_enter Try.func3, Try.ntmps3
    go_wp2_with fail
    refine (awake_any _).mono ?_
    rintro e w1 ⟨rfl, hb1⟩
    go_wp2
    go_ret
    exact ⟨rfl, hb1⟩

set_option maxRecDepth 100000 in
set_option maxHeartbeats 8000000 in
theorem uis_short (A B : Option Addr) (c cb : Nat) (l : List Int) (b s : List UInt8) (w : World) (hA : Si w w.heap.size A l) (hB : Sl w w.heap.size B b) (h1 : l.length ≤ 300) (h2 : b.length ≤ 600) (h3 : s.length ≤ 600) :
    Calls Try.prog 3 #[.slice A l.length c, .slice B b.length cb, .string (str s)] w fun e w' => e = .returned (.bool true) ∧ Below w.heap.size w w' := by
  have d1 : decide ((300 : Int) < (l.length : Int)) = false := by simp; omega
  have d2 : decide ((600 : Int) < (b.length : Int)) = false := by simp; omega
  have d3 : decide ((600 : Int) < (s.length : Int)) = false := by simp; omega
  have hU : ∀ w', Below w.heap.size w w' → Calls Try.prog 12 #[.slice B b.length cb] w' (RetSiB w' (units b) (oddB b)) := fun w' h => Units_any B cb b w' ((hB.below h).more h.size) (by omega)
  have hrU : ∀ w', Below w.heap.size w w' → Calls Try.prog 13 #[.slice B b.length cb] w' (RetSiB w' (units b) (oddB b)) := fun w' h => rUnits_any B cb b w' ((hB.below h).more h.size) (by omega)
  have hE : ∀ w', Below w.heap.size w w' → Calls Try.prog 15 #[.slice A l.length c] w' (RetSi w' (enc16 l)) := fun w' h => Enc16_any A c l w' ((hA.below h).more h.size) (by omega)
  have hrE : ∀ w', Below w.heap.size w w' → Calls Try.prog 16 #[.slice A l.length c] w' (RetSi w' (enc16 l)) := fun w' h => rEnc16_any A c l w' ((hA.below h).more h.size) (by omega)
  have hD : ∀ w', Below w.heap.size w w' → Calls Try.prog 17 #[.slice A l.length c] w' (RetSi w' (dec16 l)) := fun w' h => Dec16_any A c l w' ((hA.below h).more h.size) (by omega)
  have hrD : ∀ w', Below w.heap.size w w' → Calls Try.prog 18 #[.slice A l.length c] w' (RetSi w' (dec16 l)) := fun w' h => rDec16_any A c l w' ((hA.below h).more h.size) (by omega)
  have hY : ∀ w', Below w.heap.size w w' → Calls Try.prog 19 #[.slice A l.length c] w' (RetSl w' (bytes16 l)) := fun w' h => Bytes_any A c l w' ((hA.below h).more h.size) (by omega)
  have hrY : ∀ w', Below w.heap.size w w' → Calls Try.prog 20 #[.slice A l.length c] w' (RetSl w' (bytes16 l)) := fun w' h => rBytes_any A c l w' ((hA.below h).more h.size) (by omega)
  have hT : ∀ w', Below w.heap.size w w' → Calls Try.prog 21 #[.slice A l.length c] w' fun e w'' => e = .returned (.string (str (textL l))) ∧ Below w'.heap.size w' w'' := fun w' h => Text_any A c l w' ((hA.below h).more h.size) (by omega)
  have hrT : ∀ w', Below w.heap.size w w' → Calls Try.prog 22 #[.slice A l.length c] w' fun e w'' => e = .returned (.string (str (textL l))) ∧ Below w'.heap.size w' w'' := fun w' h => rText_any A c l w' ((hA.below h).more h.size) (by omega)
  have hR : ∀ w', Calls Try.prog 23 #[.string (str s)] w' (RetSi w' (runes s)) := fun w' => Runes_any s w' (by omega)
  have hrR : ∀ w', Calls Try.prog 24 #[.string (str s)] w' (RetSi w' (runes s)) := fun w' => rRunes_any s w' (by omega)
  have hW : ∀ w', Calls Try.prog 25 #[.string (str s)] w' fun e w'' => e = .returned (.bool (whole s)) ∧ Below w'.heap.size w' w'' := fun w' => Whole_any s w'
  have hrW : ∀ w', Calls Try.prog 26 #[.string (str s)] w' fun e w'' => e = .returned (.bool (whole s)) ∧ Below w'.heap.size w' w'' := fun w' => rWhole_any s w' (by omega)
  have le1 := enc16_length l
  have le2 := dec16_length l
  have le3 : (units b).length ≤ 600 := by rw [units_length]; omega
  have le4 := runes_length s
  generalize enc16 l = ee at *
  generalize dec16 l = dd at *
  generalize bytes16 l = yy at *
  generalize textL l = tt at *
  generalize units b = uu at *
  generalize oddB b = oo at *
  generalize runes s = rr at *
  generalize whole s = ww at *
  have hSe : ∀ (X Y : Option Addr) (cx cy : Nat) (w' : World), Si w' w'.heap.size X ee → Si w' w'.heap.size Y ee → Calls Try.prog 14 #[.slice X ee.length cx, .slice Y ee.length cy] w' fun e w'' => e = .returned (.bool true) ∧ Below w'.heap.size w' w'' := fun X Y cx cy w' hx hy => Same_yes X Y cx cy ee w' hx hy (by omega)
  have hSd : ∀ (X Y : Option Addr) (cx cy : Nat) (w' : World), Si w' w'.heap.size X dd → Si w' w'.heap.size Y dd → Calls Try.prog 14 #[.slice X dd.length cx, .slice Y dd.length cy] w' fun e w'' => e = .returned (.bool true) ∧ Below w'.heap.size w' w'' := fun X Y cx cy w' hx hy => Same_yes X Y cx cy dd w' hx hy (by omega)
  have hSu : ∀ (X Y : Option Addr) (cx cy : Nat) (w' : World), Si w' w'.heap.size X uu → Si w' w'.heap.size Y uu → Calls Try.prog 14 #[.slice X uu.length cx, .slice Y uu.length cy] w' fun e w'' => e = .returned (.bool true) ∧ Below w'.heap.size w' w'' := fun X Y cx cy w' hx hy => Same_yes X Y cx cy uu w' hx hy (by omega)
  have hSr : ∀ (X Y : Option Addr) (cx cy : Nat) (w' : World), Si w' w'.heap.size X rr → Si w' w'.heap.size Y rr → Calls Try.prog 14 #[.slice X rr.length cx, .slice Y rr.length cy] w' fun e w'' => e = .returned (.bool true) ∧ Below w'.heap.size w' w'' := fun X Y cx cy w' hx hy => Same_yes X Y cx cy rr w' hx hy (by omega)
  have HU := Lib.hid hU
  have HrU := Lib.hid hrU
  have HE := Lib.hid hE
  have HrE := Lib.hid hrE
  have HD := Lib.hid hD
  have HrD := Lib.hid hrD
  have HY := Lib.hid hY
  have HrY := Lib.hid hrY
  have HT := Lib.hid hT
  have HrT := Lib.hid hrT
  have HR := Lib.hid hR
  have HrR := Lib.hid hrR
  have HW := Lib.hid hW
  have HrW := Lib.hid hrW
  have HSe := Lib.hid hSe
  have HSd := Lib.hid hSd
  have HSu := Lib.hid hSu
  have HSr := Lib.hid hSr
  clear hU hrU hE hrE hD hrD hY hrY hT hrT hR hrR hW hrW hSe hSd hSu hSr le1 le2 le3 le4 hB
  go_enter Try.func3, Try.ntmps3
  go_wp2_with fail
  refine (awake_any _).mono ?_
  rintro e w1 ⟨rfl, hb1⟩
  go_wp2
  go_loopw [8] (fun i wr => ∃ k : Nat, k ≤ l.length ∧ i = .int .i64 k ∧ Below w.heap.size w wr) (fun i _ => l.length - (intOf i).toNat)
  case atStart => exact ⟨0, Nat.zero_le _, rfl, hb1⟩
  case round =>
    obtain ⟨k, hk, rfl, hbel⟩ := hrel
    by_cases hlt : k < l.length
    · obtain ⟨b', o', rfl, hbl, hc⟩ := hA (by omega)
      obtain ⟨x, hx⟩ : ∃ x, x = l[k]?.getD 0 := ⟨_, rfl⟩
      have hcell : wr.cell? ⟨b', o' + k, none⟩ = some (.int .i64 x) := by rw [hx]; exact (hbel.cell (p := ⟨b', o' + k, none⟩) hbl).trans (hc k hlt)
      have k0 : (0 : Int) ≤ (k : Int) := by omega
      have k1 : (k : Int) < (l.length : Int) := by omega
      have hG : ∀ w, Calls Try.prog 10 #[.int .i64 x] w fun e w' => e = .returned (.bool (goodB x)) ∧ w' = w := fun w => (Good_any _ w).mono fun _ _ h => ⟨h.1, h.2.symm⟩
      have hrG : ∀ w, Calls Try.prog 11 #[.int .i64 x] w fun e w' => e = .returned (.bool (goodB x)) ∧ w' = w := fun w => (rGood_any _ w).mono fun _ _ h => ⟨h.1, h.2.symm⟩
      generalize goodB x = q at *
      have HG := Lib.hid hG
      have HrG := Lib.hid hrG
      clear hc hx hG hrG
      go_wp2_with fail
      go_quiet (first | (go_at_call 10; exact Calls.quiet_of_same (HG.out _)) | (go_at_call 11; exact Calls.quiet_of_same (HrG.out _)))
      go_wp2
      go_roundw
      case rel => exact ⟨k + 1, by omega, by go_num, below_drewN hbel _⟩
      case measure => simp [intOf]; omega
    · go_wp2_with fail
      refine (HU.out _ hbel).mono ?_
      rintro e w2 ⟨A2, c2, rfl, hc2, hs2, hb2⟩
      have hb2' := hbel.trans (hb2.mono hbel.size)
      go_wp2_with fail
      refine (HrU.out _ hb2').mono ?_
      rintro e w0 ⟨A3, c3, rfl, hc3, hs3, hb3⟩
      have hb0 := hb2'.trans (hb3.mono hb2'.size)
      have hs2' : Si w0.drew w0.drew.heap.size A2 uu := hs2.over hb3.drew
      have hs3' : Si w0.drew w0.drew.heap.size A3 uu := hs3
      have hb0' : Below w.heap.size w w0.drew := hb0.drew
      have hz0 := hb0.size
      clear hs2 hs3 hb2 hb3 hb2' hb0 hb1 hbel hlt hk hc2 hc3 hA HU HrU
      go_wp2_with fail
      go_region_held (fun _ => True) (trivial)
        (first
          | (go_at_call 15; (with_reducible refine (HE.out _ hb0').mono ?_); rintro e v1 ⟨B1, k1, rfl, hc1, hs1, hb1x⟩; have hb1y := hb0'.trans (hb1x.mono hb0'.size))
          | (go_at_call 16; (with_reducible refine (HrE.out _ hb1y).mono ?_); rintro e v2 ⟨B2, k2, rfl, hc2, hs2, hb2x⟩; have hb2y := hb1y.trans (hb2x.mono hb1y.size))
          | (go_at_call 14; (with_reducible refine (HSe.out _ _ _ _ _ (hs1.over hb2x) hs2).mono ?_); rintro e v3 ⟨rfl, hb3x⟩; have hb3y := hb2y.trans (hb3x.mono hb2y.size))
          | (go_at_call 17; (with_reducible refine (HD.out _ hb3y).mono ?_); rintro e v4 ⟨B4, k4, rfl, hc4, hs4, hb4x⟩; have hb4y := hb3y.trans (hb4x.mono hb3y.size))
          | (go_at_call 18; (with_reducible refine (HrD.out _ hb4y).mono ?_); rintro e v5 ⟨B5, k5, rfl, hc5, hs5, hb5x⟩; have hb5y := hb4y.trans (hb5x.mono hb4y.size))
          | (go_at_call 14; (with_reducible refine (HSd.out _ _ _ _ _ (hs4.over hb5x) hs5).mono ?_); rintro e v6 ⟨rfl, hb6x⟩; have hb6y := hb5y.trans (hb6x.mono hb5y.size))
          | (go_at_call 19; (with_reducible refine (HY.out _ hb6y).mono ?_); rintro e v7 ⟨B7, k7, rfl, hc7, hs7, hb7x⟩; have hb7y := hb6y.trans (hb7x.mono hb6y.size); have cv1 := conv8 hs7 k7)
          | (go_at_call 20; (with_reducible refine (HrY.out _ hb7y).mono ?_); rintro e v8 ⟨B8, k8, rfl, hc8, hs8, hb8x⟩; have hb8y := hb7y.trans (hb8x.mono hb7y.size); have cv2 := conv8 (hs7.over hb8x) k7; have cv3 := conv8 hs8 k8)
          | (go_at_call 14; (with_reducible refine (HSu.out _ _ _ _ _ ((((((((hs2'.over hb1x).over hb2x).over hb3x).over hb4x).over hb5x).over hb6x).over hb7x).over hb8x) ((((((((hs3'.over hb1x).over hb2x).over hb3x).over hb4x).over hb5x).over hb6x).over hb7x).over hb8x)).mono ?_); rintro e v9 ⟨rfl, hb9x⟩; have hb9y := hb8y.trans (hb9x.mono hb8y.size))
          | (go_at_call 21; (with_reducible refine (HT.out _ hb9y).mono ?_); rintro e v10 ⟨rfl, hb10x⟩; have hb10y := hb9y.trans (hb10x.mono hb9y.size))
          | (go_at_call 22; (with_reducible refine (HrT.out _ hb10y).mono ?_); rintro e v11 ⟨rfl, hb11x⟩; have hb11y := hb10y.trans (hb11x.mono hb10y.size))
          | (go_at_call 23; (with_reducible refine (HR.out _).mono ?_); rintro e v12 ⟨B12, k12, rfl, hc12, hs12, hb12x⟩; have hb12y := hb11y.trans (hb12x.mono hb11y.size))
          | (go_at_call 24; (with_reducible refine (HrR.out _).mono ?_); rintro e v13 ⟨B13, k13, rfl, hc13, hs13, hb13x⟩; have hb13y := hb12y.trans (hb13x.mono hb12y.size))
          | (go_at_call 14; (with_reducible refine (HSr.out _ _ _ _ _ (hs12.over hb13x) hs13).mono ?_); rintro e v14 ⟨rfl, hb14x⟩; have hb14y := hb13y.trans (hb14x.mono hb13y.size))
          | (go_at_call 25; (with_reducible refine (HW.out _).mono ?_); rintro e v15 ⟨rfl, hb15x⟩; have hb15y := hb14y.trans (hb15x.mono hb14y.size))
          | (go_at_call 26; (with_reducible refine (HrW.out _).mono ?_); rintro e v16 ⟨rfl, hb16x⟩; have hb16y := hb15y.trans (hb16x.mono hb15y.size)))
      all_goals
        go_wp2
        go_ret
        exact ⟨rfl, hb16y⟩
theorem uis_walk (A B : Option Addr) (c cb : Nat) (l : List Int) (b s : List UInt8) (w : World) (hA : Si w w.heap.size A l) (hB : Sl w w.heap.size B b) (hm : l.length ≤ maxLen) (hm' : b.length ≤ maxLen) (hm'' : s.length ≤ maxLen) :
    Calls Try.prog 3 #[.slice A l.length c, .slice B b.length cb, .string (str s)] w fun e w' => e = .returned (.bool true) ∧ Below w.heap.size w w' := by
  by_cases h : 300 < l.length ∨ 600 < b.length ∨ 600 < s.length
  · exact uis_long A B c cb l b s w hm hm' hm'' h
  · exact uis_short A B c cb l b s w hA hB (by omega) (by omega) (by omega)
end Go.Proofs.Ytclehobammhjmaa
