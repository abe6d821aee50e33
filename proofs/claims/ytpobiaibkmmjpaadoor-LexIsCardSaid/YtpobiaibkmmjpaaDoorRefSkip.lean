/-
  The document's own Skip.
-/
import Derived.Test.YtpobiaibkmmjpaaDoorLexClass
import Derived.Test.YtpobiaibkmmjpaaDoorLexSkip
namespace Go.Proofs.YtpobiaibkmmjpaaDoor
open Go.RowKit

theorem cb_one (x : UInt8) : (cb x == 1) = wh x := by
  cases hw : wh x with
  | true =>
    have hk : kz (x.toNat : Int) = 1 := by simpa [wh, kb] using hw
    have hd : ¬ dl (x.toNat : Int) := fun hd => by have := dl_white hd; rw [hk] at this; cases this
    simp [cb, cls, hd, hk]
  | false =>
    have hk : ¬ kz (x.toNat : Int) = 1 := by simpa [wh, kb] using hw
    by_cases hd : dl (x.toNat : Int) <;> simp [cb, cls, hd, hk]
theorem nl_int (x : UInt8) : (((x.toNat : Int) != 10) && ((x.toNat : Int) != 13)) = !nl x := by
  have h1 : ((x.toNat : Int) != 10) = !(x == 10) := by
    cases h : x == 10 with
    | true => rw [beq_iff_eq] at h; subst h; rfl
    | false => rw [beq_eq_false_iff_ne] at h; simp; intro e; exact h (eq_of_toNat (by show x.toNat = 10; omega))
  have h2 : ((x.toNat : Int) != 13) = !(x == 13) := by
    cases h : x == 13 with
    | true => rw [beq_iff_eq] at h; subst h; rfl
    | false => rw [beq_eq_false_iff_ne] at h; simp; intro e; exact h (eq_of_toNat (by show x.toNat = 13; omega))
  rw [h1, h2]
  unfold nl
  cases x == 10 <;> cases x == 13 <;> rfl

set_option maxHeartbeats 2000000 in
theorem rSkip_any (l : List UInt8) (a : Int) (w : World) (hl : l.length ≤ 1073741824) :
    Calls Tryd.prog 18 #[.string (str l), .int .i64 a] w fun e w' => e = .returned (.int .i64 (skN l a : Nat)) ∧ w = w' := by
  have hp := pl_le l.length a
  have hW : ∀ w, Calls Tryd.prog 24 #[.string (str l), .int .i64 a] w fun e w' => e = .returned (.int .i64 (pl l.length a : Nat)) ∧ w = w' := fun w => rplace_any l a w
  have hn : skN l a = pl l.length a + sk false (l.drop (pl l.length a)) := rfl
  generalize skN l a = N at *
  generalize pl l.length a = p at *
  have HW := Lib.hid hW
  have HN := Lib.hid hn
  clear hW hn
  go_enter Tryd.func18, Tryd.ntmps18
  go_wp2_with (go_at_call 24; refine (HW.out _).mono ?_; rintro e w' ⟨rfl, rfl⟩)
  go_loop [5, 6] (fun b i => ∃ (k : Nat) (r : Bool), k ≤ l.length ∧ i = .int .i64 k ∧ b = .bool r ∧ Hid (k + sk r (l.drop k) = N)) (fun _ i => l.length - (intOf i).toNat)
  case atStart => exact ⟨p, false, hp, rfl, rfl, HN.out.symm⟩
  case round =>
    obtain ⟨k, r, hk, rfl, rfl, HE⟩ := hrel
    by_cases hlt : k < l.length
    · obtain ⟨x, hx⟩ : ∃ x, x = l[k]?.getD 0 := ⟨_, rfl⟩
      have hgs : ∀ h, (str l)[k]'h = x := fun h => (get_str l k h).trans hx.symm
      have hx1 := x.toNat_lt
      have hdr := drop_at hlt hx
      cases r with
      | true =>
        have hst : (k + 1) + sk (!nl x) (l.drop (k + 1)) = N := by have := HE.out; rw [hdr, sk_t] at this; omega
        have HS := Lib.hid hst
        have hnl := nl_int x
        have HL := Lib.hid hnl
        clear hx hdr hst hnl
        by_cases h10 : ((x.toNat : Int) != 10) = true
        · go_wp2
          go_round
          case rel => exact ⟨k + 1, !nl x, by omega, by go_num, by have := HL.out; rw [h10, Bool.true_and] at this; first | rw [← this] | rw [this], HS⟩
          case measure => simp [intOf]; omega
        · have h10' : ((x.toNat : Int) != 10) = false := by simpa using h10
          clear h10
          go_wp2
          go_round
          case rel => exact ⟨k + 1, !nl x, by omega, by go_num, by have := HL.out; rw [h10', Bool.false_and] at this; first | rw [← this] | rw [this], HS⟩
          case measure => simp [intOf]; omega
      | false =>
        by_cases h37 : x = 37
        · have t1 : ((x.toNat : Int) == 37) = true := by rw [h37]; rfl
          have hst : (k + 1) + sk true (l.drop (k + 1)) = N := by have := HE.out; rw [hdr, h37, sk_rem] at this; omega
          have HS := Lib.hid hst
          clear hx hdr hst h37
          go_wp2
          go_round
          case rel => exact ⟨k + 1, true, by omega, by go_num, rfl, HS⟩
          case measure => simp [intOf]; omega
        · have t1 := ne37.2 h37
          have hc1 := cb_one x
          have hC : ∀ w, Calls Tryd.prog 16 #[.int .i64 (x.toNat : Int)] w fun e w' => e = .returned (.int .i64 (cb x)) ∧ w = w' := fun w => rClass_any _ w
          have HC := Lib.hid hC
          cases hw : wh x with
          | true =>
            have hst : (k + 1) + sk false (l.drop (k + 1)) = N := by have := HE.out; rw [hdr, sk_wh _ h37 hw] at this; omega
            have HS := Lib.hid hst
            rw [hw] at hc1
            have hc2 : (cb x != 1) = false := by unfold bne; rw [hc1]; rfl
            clear hx hdr hC hst h37 hw hc1
            generalize cb x = cx at *
            go_wp2_with (go_at_call 16; refine (HC.out _).mono ?_; rintro e w' ⟨rfl, rfl⟩)
            go_round
            case rel => exact ⟨k + 1, false, by omega, by go_num, rfl, HS⟩
            case measure => simp [intOf]; omega
          | false =>
            have hkN : k = N := by have := HE.out; rw [hdr, sk_no _ h37 hw] at this; omega
            subst hkN
            rw [hw] at hc1
            have hc2 : (cb x != 1) = true := by unfold bne; rw [hc1]; rfl
            clear hx hdr hC h37 hw hc1
            generalize cb x = cx at *
            go_wp2_with (go_at_call 16; refine (HC.out _).mono ?_; rintro e w' ⟨rfl, rfl⟩)
            go_ret
            exact ⟨rfl, rfl⟩
    · have hkN : N = l.length := by have := HE.out; rw [List.drop_eq_nil_of_le (by omega), sk_nil] at this; omega
      have HNL := Lib.hid hkN
      clear hkN
      go_wp2
      go_ret
      rw [HNL.out]
      exact ⟨rfl, rfl⟩
end Go.Proofs.YtpobiaibkmmjpaaDoor
