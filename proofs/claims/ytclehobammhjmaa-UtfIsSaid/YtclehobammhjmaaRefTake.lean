/-
  The document's own reader of one form (Take).
-/
import Derived.Test.YtclehobammhjmaaUtfText
import Derived.Test.YtclehobammhjmaaUtfRunes
import Derived.Deep.RegionHeld
import Derived.Deep.DrawnRows
import Derived.Deep.CutRange
import Derived.Deep.QuietTactic
import Derived.BigQuiet
namespace Go.Proofs.Ytclehobammhjmaa
open Go.RowKit
attribute [local go_sem ↓] Go.wp_at_zero Go.wp_at_succ

theorem get_str (l : List UInt8) : ∀ (n : Nat) (h : n < (str l).size), (str l)[n]'h = l[n]?.getD 0 := fun n h => by
  have hn : n < l.length := by rwa [str_size] at h
  rw [List.getElem?_eq_getElem hn]
  rfl
theorem conv8 {w : World} {B : Nat} {A : Option Addr} {l : List UInt8} (h : Sl w B A l) (c : Nat) : (convert 23 9 (.slice A l.length c)).run Try.prog w = .ok (.string (str l)) w :=
  run_str (P := Try.prog) h c 23 9 5 Try.underlying23 Try.underlying5 Try.underlying9
theorem hit_no1 {l : List UInt8} {n : Nat} {E : Int} (ha : acc l n = E) (h : goodB E = false) : hit l n = false := by simp [hit, ha, h]
theorem hit_no2 {l : List UInt8} {n : Nat} {E : Int} {f t : List UInt8} (ha : acc l n = E) (hf : f = formV E) (ht : t = l.take n) (h : (f == t) = false) : hit l n = false := by
  simp only [hit, ha, ← hf, ← ht, h, Bool.and_false]
theorem hit_yes {l : List UInt8} {n : Nat} {E : Int} {f t : List UInt8} (ha : acc l n = E) (hg : goodB E = true) (hf : f = formV E) (ht : t = l.take n) (h : (f == t) = true) : hit l n = true := by
  simp only [hit, ha, hg, ← hf, ← ht, h, Bool.and_self]
theorem tk_hit {l : List UInt8} {n : Nat} {E : Int} (hn : n ≤ l.length) (ha : acc l n = E) (h0 : 0 ≤ E) (h : hit l n = true) : tkR l = E ∧ tkN l = n := by
  have hd := hit_dec hn h
  have hb : dec l ≠ (65533, 1) := fun e => by rw [hit_none hn e] at h; cases h
  unfold tkR tkN
  rw [if_neg hb, if_neg hb, hd, ha]
  exact ⟨Int.toNat_of_nonneg h0, rfl⟩
theorem tk_none {l : List UInt8} {k : Nat} (h : l ≠ []) (hk : 4 ≤ k ∨ l.length ≤ k) (hno : ∀ j, 1 ≤ j → j ≤ k → hit l j = false) : tkR l = 0 ∧ tkN l = 0 := by
  have hd : dec l = (65533, 1) := by
    rcases Decidable.em (dec l = (65533, 1)) with hd | hd
    · exact hd
    · have h1 := dec_ok h
      have h2 := dec_le4 l
      have h3 := dec_hit h hd
      rw [hno _ h1.1 (by omega)] at h3
      cases h3
  unfold tkR tkN
  rw [if_pos hd, if_pos hd]
  exact ⟨rfl, rfl⟩
theorem no_more {l : List UInt8} {k : Nat} (hno : ∀ j, 1 ≤ j → j ≤ k → hit l j = false) (h : hit l (k + 1) = false) : ∀ j, 1 ≤ j → j ≤ k + 1 → hit l j = false := fun j h1 h2 => by
  rcases Nat.lt_or_ge k j with hj | hj
  · obtain rfl : j = k + 1 := by omega
    exact h
  · exact hno j h1 hj
theorem acc_1 {l : List UInt8} {x : UInt8} (hx : x = l[0]?.getD 0) : acc l 1 = lead (x.toNat : Int) := by rw [hx]; rfl

set_option maxHeartbeats 4000000 in
theorem rTake_any (l : List UInt8) (w : World) (hne : l ≠ []) (hl : l.length ≤ 65536) :
    Calls Try.prog 36 #[.string (str l)] w fun e w' => e = .returned (.tuple #[.int .i64 (tkR l), .int .i64 (tkN l)]) ∧ Below w.heap.size w w' := by
  go_enter Try.func36, Try.ntmps36
  go_wp2
  go_loopw [4, 5] (fun r n wr => ∃ k : Nat, k ≤ 4 ∧ k ≤ l.length ∧ n = .int .i64 ((k : Int) + 1) ∧ r = .int .i64 (acc l k) ∧ Hid (∀ j, 1 ≤ j → j ≤ k → hit l j = false) ∧ Below w.heap.size w wr) (fun _ n _ => 6 - (intOf n).toNat)
  case atStart => exact ⟨0, by omega, by omega, rfl, rfl, fun j h1 h2 => by omega, Below.refl _ _⟩
  case round =>
    obtain ⟨k, hk4, hkl, rfl, rfl, HN, hbel⟩ := hrel
    by_cases hlt : k < 4 ∧ k < l.length
    · obtain ⟨hlt4, hlt⟩ := hlt
      obtain ⟨x, hx⟩ : ∃ x, x = l[k]?.getD 0 := ⟨_, rfl⟩
      have hgs : ∀ h, (str l)[k]'h = x := fun h => (get_str l k h).trans hx.symm
      have hx1 := x.toNat_lt
      have HX := Lib.hid hx
      clear hx
      obtain ⟨t, ht⟩ : ∃ t, t = l.take (k + 1) := ⟨_, rfl⟩
      have hsl : ∀ wx, (Instr.slice 9 (.string (str l)) none (some (.int .i64 ((k : Int) + 1))) none).run Try.prog wx = .ok (.string (str t)) wx := fun wx => by
        rw [run_slice_string_to_if wx 9 (str l) .i64 ((k : Int) + 1) Try.underlying9, ht]
        have e : ((k : Int) + 1).toNat = k + 1 := by omega
        have h0 : (0 : Int) ≤ (k : Int) + 1 := by omega
        have h1 : (k : Int) + 1 ≤ (l.length : Int) := by omega
        simp [str_size, str_extract, e, h0, h1]
      have HT := Lib.hid ht
      clear ht
      have g1 : (k : Int) + 1 ≤ 4 := by omega
      have g2 : (k : Int) + 1 ≤ (l.length : Int) := by omega
      have hsz := hbel.size
      obtain ⟨y, hy⟩ : ∃ y, y = acc l (k + 1) := ⟨_, rfl⟩
      by_cases hk0 : k = 0
      · have hA1 : y = lead (x.toNat : Int) := by
          rw [hy, hk0]
          exact acc_1 (by have := HX.out; rw [hk0] at this; exact this)
        have HA1 := Lib.hid hA1
        have HY := Lib.hid hy
        have g3 : ((k : Int) + 1 == 1) = true := by rw [hk0]; decide
        have g4 : ((k : Int) == 0) = true := by rw [hk0]; decide
        have H0 := Lib.hid hk0
        clear hA1 hy hk0
        go_upto_if 23 with (fail)
        go_cut [4] from 7 to 54 (fun r wc => r = .int .i64 y ∧ wc = wr)
        case first =>
          by_cases c1 : 240 ≤ x.toNat
          · have c1' : (240 : Int) ≤ (x.toNat : Int) := by omega
            have hv : y = (x.toNat : Int) - 240 := by rw [HA1.out, lead, if_pos c1']
            have HV := Lib.hid hv
            clear hv
            go_wp2
            go_meet
            case rel => exact ⟨by rw [HV.out], rfl⟩
          by_cases c2 : 224 ≤ x.toNat
          · have c1' : ¬ (240 : Int) ≤ (x.toNat : Int) := by omega
            have c2' : (224 : Int) ≤ (x.toNat : Int) := by omega
            have hv : y = (x.toNat : Int) - 224 := by rw [HA1.out, lead, if_neg c1', if_pos c2']
            have HV := Lib.hid hv
            clear hv
            go_wp2
            go_meet
            case rel => exact ⟨by rw [HV.out], rfl⟩
          by_cases c3 : 192 ≤ x.toNat
          · have c1' : ¬ (240 : Int) ≤ (x.toNat : Int) := by omega
            have c2' : ¬ (224 : Int) ≤ (x.toNat : Int) := by omega
            have c3' : (192 : Int) ≤ (x.toNat : Int) := by omega
            have hv : y = (x.toNat : Int) - 192 := by rw [HA1.out, lead, if_neg c1', if_neg c2', if_pos c3']
            have HV := Lib.hid hv
            clear hv
            go_wp2
            go_meet
            case rel => exact ⟨by rw [HV.out], rfl⟩
          · have c1' : ¬ (240 : Int) ≤ (x.toNat : Int) := by omega
            have c2' : ¬ (224 : Int) ≤ (x.toNat : Int) := by omega
            have c3' : ¬ (192 : Int) ≤ (x.toNat : Int) := by omega
            have hv : y = (x.toNat : Int) := by rw [HA1.out, lead, if_neg c1', if_neg c2', if_neg c3']
            have HV := Lib.hid hv
            clear hv
            go_wp2
            go_meet
            case rel => exact ⟨by rw [HV.out], rfl⟩
        case rest =>
          obtain ⟨rfl, rfl⟩ := hcut
          cases hg : goodB y with
          | false =>
            have hG : ∀ w, Calls Try.prog 11 #[.int .i64 y] w fun e w' => e = .returned (.bool false) ∧ w' = w := fun w => by rw [← hg]; exact (rGood_any _ w).mono fun _ _ h => ⟨h.1, h.2.symm⟩
            have HG := Lib.hid hG
            clear hG
            go_wp2_with fail
            go_quiet ((go_at_call 11; exact Calls.quiet_of_same (HG.out _)))
            go_wp2
            go_roundw
            case rel => exact ⟨k + 1, by omega, by omega, by go_num, by rw [HY.out], no_more HN.out (hit_no1 HY.out.symm hg), below_drewN hbel _⟩
            case measure => simp [intOf]; omega
          | true =>
            have hG : ∀ w, Calls Try.prog 11 #[.int .i64 y] w fun e w' => e = .returned (.bool true) ∧ w = w' := fun w => by rw [← hg]; exact rGood_any _ w
            have HG := Lib.hid hG
            clear hG
            obtain ⟨f, hf⟩ : ∃ f, f = formV y := ⟨_, rfl⟩
            have hgb := (goodB_iff _).1 hg
            have hFm : ∀ w, Calls Try.prog 35 #[.int .i64 y] w (RetSl w f) := fun w => by rw [hf]; exact rform_any _ w (by omega) (by omega)
            have HFm := Lib.hid hFm
            have HF := Lib.hid hf
            have HGB := Lib.hid hgb
            have HGG := Lib.hid hg
            clear hf hFm hgb hg
            cases hq : (f == t) with
            | true =>
              go_wp2_with fail
              go_region_held (fun _ => True) (trivial)
                (first | (go_at_call 11; refine (HG.out _).mono ?_; rintro e w' ⟨rfl, rfl⟩) | (go_at_call 35; refine (HFm.out _).mono ?_; rintro e w1 ⟨A1, c1, rfl, hc1, hsl1, hb1⟩; have cv1 := conv8 hsl1 c1))
              go_wp2
              go_ret2
              obtain ⟨e1, e2⟩ := tk_hit (n := k + 1) (by omega) HY.out.symm (by have := HGB.out; omega) (hit_yes HY.out.symm HGG.out HF.out HT.out hq)
              rw [e1, e2]
              exact ⟨by go_num, hbel.drew.trans (hb1.mono hbel.size)⟩
            | false =>
              go_wp2_with fail
              go_region_held (fun _ => True) (trivial)
                (first | (go_at_call 11; refine (HG.out _).mono ?_; rintro e w' ⟨rfl, rfl⟩) | (go_at_call 35; refine (HFm.out _).mono ?_; rintro e w1 ⟨A1, c1, rfl, hc1, hsl1, hb1⟩; have cv1 := conv8 hsl1 c1))
              go_wp2
              go_roundw
              case rel => exact ⟨k + 1, by omega, by omega, by go_num, by rw [HY.out], no_more HN.out (hit_no2 HY.out.symm HF.out HT.out hq), hbel.drew.trans (hb1.mono hbel.size)⟩
              case measure => simp [intOf]; omega
      · have hm : 0 ≤ acc l k ∧ acc l k < 786432 := by
          have hab := acc_bounds l
          rcases (show k = 1 ∨ k = 2 ∨ k = 3 by omega) with rfl | rfl | rfl
          · exact ⟨by omega, by omega⟩
          · exact ⟨by omega, by omega⟩
          · exact ⟨by omega, by omega⟩
        have hA2 : y = acc l k * 64 + (x.toNat : Int) % 64 := by
          obtain ⟨k', rfl⟩ : ∃ k', k = k' + 1 := ⟨k - 1, by omega⟩
          rw [hy, HX.out]
          exact acc_next l k'
        have HY := Lib.hid hy
        have HA2 := Lib.hid hA2
        clear hA2 hy
        generalize acc l k = m at *
        obtain ⟨m0, m1⟩ := hm
        have g3 : ((k : Int) + 1 == 1) = false := by rw [beq_eq_false_iff_ne]; omega
        have g4 : ((k : Int) == 0) = false := by rw [beq_eq_false_iff_ne]; omega
        go_upto_if 23 with (fail)
        go_cut [4] from 7 to 54 (fun r wc => r = .int .i64 y ∧ wc = wr)
        case first =>
          go_wp2
          go_meet
          case rel => exact ⟨by rw [HA2.out], rfl⟩
        case rest =>
          obtain ⟨rfl, rfl⟩ := hcut
          cases hg : goodB y with
          | false =>
            have hG : ∀ w, Calls Try.prog 11 #[.int .i64 y] w fun e w' => e = .returned (.bool false) ∧ w' = w := fun w => by rw [← hg]; exact (rGood_any _ w).mono fun _ _ h => ⟨h.1, h.2.symm⟩
            have HG := Lib.hid hG
            clear hG
            go_wp2_with fail
            go_quiet ((go_at_call 11; exact Calls.quiet_of_same (HG.out _)))
            go_wp2
            go_roundw
            case rel => exact ⟨k + 1, by omega, by omega, by go_num, by rw [HY.out], no_more HN.out (hit_no1 HY.out.symm hg), below_drewN hbel _⟩
            case measure => simp [intOf]; omega
          | true =>
            have hG : ∀ w, Calls Try.prog 11 #[.int .i64 y] w fun e w' => e = .returned (.bool true) ∧ w = w' := fun w => by rw [← hg]; exact rGood_any _ w
            have HG := Lib.hid hG
            clear hG
            obtain ⟨f, hf⟩ : ∃ f, f = formV y := ⟨_, rfl⟩
            have hgb := (goodB_iff _).1 hg
            have hFm : ∀ w, Calls Try.prog 35 #[.int .i64 y] w (RetSl w f) := fun w => by rw [hf]; exact rform_any _ w (by omega) (by omega)
            have HFm := Lib.hid hFm
            have HF := Lib.hid hf
            have HGB := Lib.hid hgb
            have HGG := Lib.hid hg
            clear hf hFm hgb hg
            cases hq : (f == t) with
            | true =>
              go_wp2_with fail
              go_region_held (fun _ => True) (trivial)
                (first | (go_at_call 11; refine (HG.out _).mono ?_; rintro e w' ⟨rfl, rfl⟩) | (go_at_call 35; refine (HFm.out _).mono ?_; rintro e w1 ⟨A1, c1, rfl, hc1, hsl1, hb1⟩; have cv1 := conv8 hsl1 c1))
              go_wp2
              go_ret2
              obtain ⟨e1, e2⟩ := tk_hit (n := k + 1) (by omega) HY.out.symm (by have := HGB.out; omega) (hit_yes HY.out.symm HGG.out HF.out HT.out hq)
              rw [e1, e2]
              exact ⟨by go_num, hbel.drew.trans (hb1.mono hbel.size)⟩
            | false =>
              go_wp2_with fail
              go_region_held (fun _ => True) (trivial)
                (first | (go_at_call 11; refine (HG.out _).mono ?_; rintro e w' ⟨rfl, rfl⟩) | (go_at_call 35; refine (HFm.out _).mono ?_; rintro e w1 ⟨A1, c1, rfl, hc1, hsl1, hb1⟩; have cv1 := conv8 hsl1 c1))
              go_wp2
              go_roundw
              case rel => exact ⟨k + 1, by omega, by omega, by go_num, by rw [HY.out], no_more HN.out (hit_no2 HY.out.symm HF.out HT.out hq), hbel.drew.trans (hb1.mono hbel.size)⟩
              case measure => simp [intOf]; omega
    · obtain ⟨e1, e2⟩ := tk_none hne (by omega) HN.out
      have E1 := Lib.hid e1
      have E2 := Lib.hid e2
      clear e1 e2 HN
      have hab := acc_small l k hk4
      by_cases h4 : k < 4
      · have g1 : (k : Int) + 1 ≤ 4 := by omega
        have g2 : ¬ (k : Int) + 1 ≤ (l.length : Int) := by omega
        go_wp2
        go_ret2
        rw [E1.out, E2.out]
        exact ⟨rfl, hbel⟩
      · have g1 : ¬ (k : Int) + 1 ≤ 4 := by omega
        go_wp2
        go_ret2
        rw [E1.out, E2.out]
        exact ⟨rfl, hbel⟩
end Go.Proofs.Ytclehobammhjmaa
