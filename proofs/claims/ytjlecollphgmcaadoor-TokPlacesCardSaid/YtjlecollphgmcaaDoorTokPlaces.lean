/-
  The walk of the statement TokPlaces: tokens stand one behind the other.
-/
import Derived.Test.YtjlecollphgmcaaDoorTokAwake
import Derived.Test.YtjlecollphgmcaaDoorStrGet
import Derived.BigQuiet
import Derived.Deep.QuietTactic
namespace Go.Proofs.YtjlecollphgmcaaDoor
open Go.RowKit

set_option maxHeartbeats 1000000 in
theorem tokPlaces_long (l : List UInt8) (w : World) (hT : Tb w) (hm : l.length ≤ maxLen) (h : 600 < l.length) :
    Calls Tryd.prog 4 #[.string (str l)] w fun e w' => e = .returned (.bool true) ∧ Below w.heap.size w w' := by
  unfold maxLen at hm
  have d1 : decide ((600 : Int) < (l.length : Int)) = true := by simp; omega
  go_enter Tryd.func4, Tryd.ntmps4
  go_wp2_with fail
  refine (awake_any _ hT).mono ?_
  rintro e w1 ⟨rfl, hb1⟩
  go_wp2
  go_ret
  exact ⟨rfl, hb1⟩

theorem cls_no {x : UInt8} (h : wh x = false) : (cls (x.toNat : Int) == 1) = false := by
  have hk : ¬ kz (x.toNat : Int) = 1 := by
    have : (kb x == 1) = false := h
    rw [beq_eq_false_iff_ne] at this
    exact this
  rw [beq_eq_false_iff_ne]
  unfold cls
  rw [if_neg hk]
  split <;> omega
theorem gd_rng {kind n : Int} {s : List UInt8} (h : Gd kind n s) : 1 ≤ kind ∧ kind ≤ 11 := by
  rcases h with ⟨h, _⟩ | ⟨h, _⟩ | ⟨h, _⟩ | ⟨h, _⟩ | ⟨h, _⟩ | ⟨m, hm, h, _⟩ <;> omega

set_option maxRecDepth 100000 in
set_option maxHeartbeats 4000000 in
theorem tokPlaces_any (l : List UInt8) (w : World) (hT : Tb w) (hm : l.length ≤ maxLen) :
    Calls Tryd.prog 4 #[.string (str l)] w fun e w' => e = .returned (.bool true) ∧ Below w.heap.size w w' := by
  by_cases hlong : 600 < l.length
  · exact tokPlaces_long l w hT hm hlong
  have d1 : decide ((600 : Int) < (l.length : Int)) = false := by simp; omega
  have hl : l.length ≤ 600 := by omega
  have hAll : ∀ w, Tb w → Calls Tryd.prog 9 #[.string (str l)] w fun e w' => RetTk w (all 0 l) e w' := fun w hT => All_any l w hT.tab hT.mks (by omega)
  have hk := all_k _ 0 l (Nat.le_refl _)
  have hch := all_ch l _ 0 (Nat.le_refl _) (Nat.zero_le _)
  rw [List.drop_zero] at hch
  have hcount := hk.count
  have hK := hk.le
  rw [Nat.zero_add] at hK
  have hE : ((all 0 l).e = 0 ∧ (all 0 l).k = l.length) ∨ (((all 0 l).e == 0) = false ∧ ((all 0 l).e == 2) = true ∧ (all 0 l).k = l.length) ∨ (((all 0 l).e == 0) = false ∧ ((all 0 l).e == 2) = false) := by
    by_cases h0 : (all 0 l).e = 0
    · exact .inl ⟨h0, by have := hk.ok h0; omega⟩
    · by_cases h2 : (all 0 l).e = 2
      · exact .inr (.inl ⟨by rw [h2]; decide, by rw [h2]; decide, by have := hk.short h2; omega⟩)
      · exact .inr (.inr ⟨by rw [beq_eq_false_iff_ne]; exact h0, by rw [beq_eq_false_iff_ne]; exact h2⟩)
  unfold RetTk at hAll
  have k0 : decide (((all 0 l).k : Int) < 0) = false := by simp
  have k1 : decide (l.length < (all 0 l).k) = false := by simp; omega
  clear hlong hm hk
  generalize (all 0 l).e = E at *
  generalize (all 0 l).k = K at *
  generalize (all 0 l).l = L at *
  have HA := Lib.hid hAll
  have HCH := Lib.hid hch
  clear hAll hch
  have hE' : (E = 0 ∧ ((K : Int) != (l.length : Int)) = false) ∨ ((E == 0) = false ∧ (E == 2) = true ∧ ((K : Int) != (l.length : Int)) = false) ∨ ((E == 0) = false ∧ (E == 2) = false) := by
    rcases hE with ⟨h, rfl⟩ | ⟨h, h', rfl⟩ | h
    · exact .inl ⟨h, by simp⟩
    · exact .inr (.inl ⟨h, h', by simp⟩)
    · exact .inr (.inr h)
  clear hE
  rcases hE' with ⟨rfl, h3⟩ | ⟨h0, h2, h3⟩ | ⟨h0, h2⟩
  all_goals
    go_enter Tryd.func4, Tryd.ntmps4
    go_wp2_with fail
    refine (awake_any _ hT).mono ?_
    rintro e w1 ⟨rfl, hb1⟩
    have hT1 := hT.below' hb1
    go_wp2_with fail
    refine (HA.out _ hT1).mono ?_
    rintro e w2 ⟨A, c, rfl, hc, hst, hb2⟩
    simp only at hst hc ⊢
    have hT2 := hT1.below' hb2
    have hb2' := hb1.trans (hb2.mono hb1.size)
    clear hb1 hb2 hT1
    go_wp2
    go_loopw [7, 8] (fun v i wr => ∃ (last k : Nat), k ≤ L.length ∧ v = .int .i64 (last : Int) ∧ i = .int .i64 (k : Int) ∧ Hid (Ch l last (L.drop k)) ∧ Below w2.heap.size w2 wr) (fun _ i _ => L.length - (intOf i).toNat)
    case atStart => exact ⟨0, 0, Nat.zero_le _, rfl, rfl, HCH, Below.refl _ _⟩
    case round =>
      obtain ⟨last, k, hkl, rfl, rfl, HC, hbel⟩ := hrel
      have hsz := hbel.size
      have hTr := hT2.below' hbel
      by_cases hlt : k < L.length
      · obtain ⟨b, o, rfl, hbl, hcl⟩ := hst (by omega)
        obtain ⟨c0, c1, c2, c3⟩ := hcl k hlt
        have hC := HC.out
        rw [drop_tg hlt] at hC
        obtain ⟨q, hq1, hq2, hq3, hq4, hq5, hq6⟩ := hC
        have hne : l.drop q ≠ [] := by
          intro e
          have := congrArg List.length e
          rw [List.length_drop] at this
          simp at this
          omega
        have ok := tk_ok hne hq3 hq4
        have hpos := ok.pos
        have hle := ok.le
        rw [List.length_drop] at hle
        have hrng := gd_rng ok.gd
        obtain ⟨x, hx⟩ : ∃ x, x = l[q]?.getD 0 := ⟨_, rfl⟩
        have hgs : ∀ h, (str l)[q]'h = x := fun h => (get_str l q h).trans hx.symm
        have hx1 := x.toNat_lt
        have hdr := drop_at hq2 hx
        have hwx := (sk_zero (x := x) (t := l.drop (q + 1)) (by rw [← hdr]; exact hq3)).2
        have hcn := cls_no hwx
        have hCl : ∀ w, Tab w → Calls Tryd.prog 12 #[.int .i64 (x.toNat : Int)] w fun e w' => e = .returned (.int .i64 (cls (x.toNat : Int))) ∧ w = w' := fun w ht => Class_any _ w ht
        generalize cls (x.toNat : Int) = cx at *
        have hN : ∀ w, Tb w → Calls Tryd.prog 13 #[.string (str l), .int .i64 (q : Int)] w fun e w' => e = .returned (rv q (tk (l.drop q))) ∧ Below w.heap.size w w' := fun w hT => by
          have := Next_any l (q : Int) w hT.tab hT.mks (by omega)
          rw [skN_of (Nat.le_of_lt hq2), hq3, Nat.add_zero] at this
          unfold nxv at this
          rw [if_neg (by omega)] at this
          exact this
        have hT0 : rT q (tk (l.drop q)) = tg L k := by unfold rT; rw [if_pos hq4, hq5]
        have hkk : (tg L k).kind = (tk (l.drop q)).kind := by rw [hq5]; rfl
        have hat : (tg L k).at_ = (q : Int) := by rw [hq5]; rfl
        rw [← hkk] at hrng
        simp only [rv_eq, hT0, hq4, hat] at hN
        have hQe : (q : Int) + ((tk (l.drop q)).k : Int) = ((q + (tk (l.drop q)).k : Nat) : Int) := by omega
        rw [hQe] at hN
        rw [hat] at c1
        have g0 := (hbel.cell (p := ⟨b, o + k * 4, none⟩) hbl).trans c0
        have g1 := (hbel.cell (p := ⟨b, o + k * 4 + 1, none⟩) hbl).trans c1
        have g2 := (hbel.cell (p := ⟨b, o + k * 4 + 2, none⟩) hbl).trans c2
        have g3 := (hbel.cell (p := ⟨b, o + k * 4 + 3, none⟩) hbl).trans c3
        have HC2 := Lib.hid hq6
        have hQ : q < q + (tk (l.drop q)).k := by omega
        have hQ2 : q + (tk (l.drop q)).k ≤ 600 := by omega
        clear hcl c0 c1 c2 c3 HC hq3 hq4 hq5 hq6 hne ok hpos hle hdr hwx hx hT0 hkk hat hQe
        generalize q + (tk (l.drop q)).k = Q at *
        generalize (tg L k).kind = q1 at *
        generalize (tg L k).n = q3 at *
        generalize (tg L k).s = q4 at *
        obtain ⟨r1, r2⟩ := hrng
        have e1 : decide ((k : Int) < (L.length : Int)) = true := by simp; omega
        have e1' : decide (k < L.length) = true := by simp; omega
        have e2 : decide (q < last) = false := by simp; omega
        have e3 : decide (l.length ≤ q) = false := by simp; omega
        have e4 : decide (q1 < 1) = false := by simp; omega
        have e5 : decide ((11 : Int) < q1) = false := by simp; omega
        have e6 : decide (Q ≤ q) = false := by simp; omega
        have HN := Lib.hid hN
        have HCl := Lib.hid hCl
        clear hN hCl
        go_wp2_with (first | (go_at_call 12; refine (HCl.out _ hTr.tab).mono ?_; rintro e w' ⟨rfl, rfl⟩) | (go_at_call 13; refine (HN.out _ hTr).mono ?_; rintro e w4 ⟨rfl, hb4⟩; have g0' := (hb4.cell (p := ⟨b, o + k * 4, none⟩) (by show b < _; omega)).trans g0; have g1' := (hb4.cell (p := ⟨b, o + k * 4 + 1, none⟩) (by show b < _; omega)).trans g1; have g2' := (hb4.cell (p := ⟨b, o + k * 4 + 2, none⟩) (by show b < _; omega)).trans g2; have g3' := (hb4.cell (p := ⟨b, o + k * 4 + 3, none⟩) (by show b < _; omega)).trans g3; have hbs : b < w4.heap.size := (by have := hb4.size; omega); have hb4' := hbel.trans (hb4.mono hsz)))
        go_quiet (fail)
        go_wp2
        go_roundw
        case rel => exact ⟨Q, k + 1, by omega, rfl, by go_num, HC2, below_drewN (hb4'.alloc (by have := hb4'.size; omega) _) _⟩
        case measure => simp [intOf]; omega
      · have e1 : decide ((k : Int) < (L.length : Int)) = false := by simp; omega
        have e1' : decide (k < L.length) = false := by simp; omega
        go_wp2
        go_ret
        exact ⟨rfl, hb2'.trans (hbel.mono hb2'.size)⟩
end Go.Proofs.YtjlecollphgmcaaDoor
