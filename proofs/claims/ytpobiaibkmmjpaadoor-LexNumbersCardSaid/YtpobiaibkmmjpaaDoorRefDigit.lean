/-
  The document's own White and Digit: what they answer, for every number.
-/
import Derived.Test.YtpobiaibkmmjpaaDoorHexKind
import Derived.Test.YtpobiaibkmmjpaaDoorHexHex
import Derived.Handy
namespace Go.Proofs.YtpobiaibkmmjpaaDoor
open Go.RowKit

set_option maxHeartbeats 1000000 in
theorem rWhite_any (c : Int) (w : World) :
    Calls Tryd.prog 27 #[.int .i64 c] w fun e w' => e = .returned (.bool (kz c == 1)) ∧ w = w' := by
  by_cases h : c = 0 ∨ c = 9 ∨ c = 10 ∨ c = 12 ∨ c = 13 ∨ c = 32
  · rcases h with rfl | rfl | rfl | rfl | rfl | rfl
    · have e : (kz 0 == 1) = true := by decide
      rw [e]
      clear e
      go_enter Tryd.func27, Tryd.ntmps27
      go_wp2
      go_ret
      exact ⟨rfl, rfl⟩
    · have e : (kz 9 == 1) = true := by decide
      rw [e]
      clear e
      go_enter Tryd.func27, Tryd.ntmps27
      go_wp2
      go_ret
      exact ⟨rfl, rfl⟩
    · have e : (kz 10 == 1) = true := by decide
      rw [e]
      clear e
      go_enter Tryd.func27, Tryd.ntmps27
      go_wp2
      go_ret
      exact ⟨rfl, rfl⟩
    · have e : (kz 12 == 1) = true := by decide
      rw [e]
      clear e
      go_enter Tryd.func27, Tryd.ntmps27
      go_wp2
      go_ret
      exact ⟨rfl, rfl⟩
    · have e : (kz 13 == 1) = true := by decide
      rw [e]
      clear e
      go_enter Tryd.func27, Tryd.ntmps27
      go_wp2
      go_ret
      exact ⟨rfl, rfl⟩
    · have e : (kz 32 == 1) = true := by decide
      rw [e]
      clear e
      go_enter Tryd.func27, Tryd.ntmps27
      go_wp2
      go_ret
      exact ⟨rfl, rfl⟩
  · have e : (kz c == 1) = false := by
      rw [beq_eq_false_iff_ne]
      unfold kz tabAt
      repeat' split
      all_goals omega
    rw [e]
    clear e
    have e0 : (c == 0) = false := by rw [beq_eq_false_iff_ne]; omega
    have e9 : (c == 9) = false := by rw [beq_eq_false_iff_ne]; omega
    have e10 : (c == 10) = false := by rw [beq_eq_false_iff_ne]; omega
    have e12 : (c == 12) = false := by rw [beq_eq_false_iff_ne]; omega
    have e13 : (c == 13) = false := by rw [beq_eq_false_iff_ne]; omega
    have e32 : (c == 32) = false := by rw [beq_eq_false_iff_ne]; omega
    clear h
    go_enter Tryd.func27, Tryd.ntmps27
    go_wp2
    go_ret
    exact ⟨rfl, rfl⟩

theorem hd_toNat (k : Nat) (h : k < 16) : ((hd k).toNat : Int) = if k < 10 then (48 : Int) + k else 55 + k := by
  unfold hd
  split
  · simp; omega
  · simp; omega
/-- A number is the digit k, in capitals or in small letters. -/
def isDig (c : Int) (k : Nat) : Prop := c = ((hd k).toNat : Int) ∨ (9 < k ∧ c = ((hd k).toNat : Int) + 32)
theorem isDig_kz {c : Int} {k : Nat} (hk : k < 16) : isDig c k ↔ kz c = (k : Int) + 2 := by
  unfold isDig
  rw [hd_toNat k hk]
  unfold kz tabAt
  repeat' split
  all_goals omega

set_option maxHeartbeats 1000000 in
theorem rDigit_yes (c : Int) (w : World) (h : 2 ≤ kz c) :
    Calls Tryd.prog 30 #[.int .i64 c] w fun e w' => e = .returned (.tuple #[.int .i64 (kz c - 2), .bool true]) ∧ w = w' := by
  obtain ⟨d, hd'⟩ : ∃ d : Nat, kz c - 2 = (d : Int) := ⟨(kz c - 2).toNat, by omega⟩
  have hd16 : d < 16 := by have := kz_bounds c; omega
  rw [hd']
  have hkz : kz c = (d : Int) + 2 := by omega
  have HK := Lib.hid hkz
  have hcaps := caps
  clear hd' h hkz
  go_enter Tryd.func30, Tryd.ntmps30
  go_wp2
  go_loop [4] (fun i => ∃ k : Nat, k ≤ d ∧ i = .int .i64 k) (fun i => 16 - (intOf i).toNat)
  case atStart => exact ⟨0, Nat.zero_le _, rfl⟩
  case round =>
    obtain ⟨k, hk, rfl⟩ := hrel
    have hb := hd_toNat k (by omega)
    have hb1 : (0 : Int) ≤ ((hd k).toNat : Int) := by omega
    have hb2 : ((hd k).toNat : Int) ≤ 255 := by rw [hb]; split <;> omega
    have HB := Lib.hid hb
    clear hb
    by_cases hkd : k = d
    · subst hkd
      have hdig := (isDig_kz (c := c) (k := k) (by omega)).2 HK.out
      rcases hdig with hc | ⟨h9, hc⟩
      · have t1 : (c == ((hd k).toNat : Int)) = true := by rw [hc]; simp
        clear hc
        go_wp2
        go_ret2
        exact ⟨rfl, rfl⟩
      · have t1 : (c == ((hd k).toNat : Int)) = false := by rw [beq_eq_false_iff_ne]; omega
        have t2 : decide ((9 : Int) < (k : Int)) = true := by simp; omega
        have t3 : (c == ((hd k).toNat : Int) + 32) = true := by rw [hc]; simp
        clear hc
        go_wp2
        go_ret2
        exact ⟨rfl, rfl⟩
    · have hno : ¬ isDig c k := fun hh => hkd (by have := (isDig_kz (by omega)).1 hh; rw [HK.out] at this; omega)
      have hlt : k < d := by omega
      have t1 : (c == ((hd k).toNat : Int)) = false := by rw [beq_eq_false_iff_ne]; exact fun hh => hno (.inl hh)
      by_cases h9 : 9 < k
      · have t2 : decide ((9 : Int) < (k : Int)) = true := by simp; omega
        have t3 : (c == ((hd k).toNat : Int) + 32) = false := by rw [beq_eq_false_iff_ne]; exact fun hh => hno (.inr ⟨h9, hh⟩)
        clear hno hkd
        go_wp2
        go_round
        case rel => exact ⟨k + 1, by omega, by go_num⟩
        case measure => simp [intOf]; omega
      · have t2 : decide ((9 : Int) < (k : Int)) = false := by simp; omega
        clear hno hkd
        go_wp2
        go_round
        case rel => exact ⟨k + 1, by omega, by go_num⟩
        case measure => simp [intOf]; omega

set_option maxHeartbeats 1000000 in
theorem rDigit_no (c : Int) (w : World) (h : kz c < 2) :
    Calls Tryd.prog 30 #[.int .i64 c] w fun e w' => e = .returned (.tuple #[.int .i64 0, .bool false]) ∧ w = w' := by
  have HK := Lib.hid h
  have hcaps := caps
  clear h
  go_enter Tryd.func30, Tryd.ntmps30
  go_wp2
  go_loop [4] (fun i => ∃ k : Nat, k ≤ 16 ∧ i = .int .i64 k) (fun i => 16 - (intOf i).toNat)
  case atStart => exact ⟨0, Nat.zero_le _, rfl⟩
  case round =>
    obtain ⟨k, hk, rfl⟩ := hrel
    by_cases hlt : k < 16
    · have hb := hd_toNat k hlt
      have hb1 : (0 : Int) ≤ ((hd k).toNat : Int) := by omega
      have hb2 : ((hd k).toNat : Int) ≤ 255 := by rw [hb]; split <;> omega
      clear hb
      have hno : ¬ isDig c k := fun hh => by have := (isDig_kz hlt).1 hh; have := HK.out; omega
      have t1 : (c == ((hd k).toNat : Int)) = false := by rw [beq_eq_false_iff_ne]; exact fun hh => hno (.inl hh)
      by_cases h9 : 9 < k
      · have t2 : decide ((9 : Int) < (k : Int)) = true := by simp; omega
        have t3 : (c == ((hd k).toNat : Int) + 32) = false := by rw [beq_eq_false_iff_ne]; exact fun hh => hno (.inr ⟨h9, hh⟩)
        clear hno
        go_wp2
        go_round
        case rel => exact ⟨k + 1, by omega, by go_num⟩
        case measure => simp [intOf]; omega
      · have t2 : decide ((9 : Int) < (k : Int)) = false := by simp; omega
        clear hno
        go_wp2
        go_round
        case rel => exact ⟨k + 1, by omega, by go_num⟩
        case measure => simp [intOf]; omega
    · go_wp2
      go_ret2
      exact ⟨rfl, rfl⟩
end Go.Proofs.YtpobiaibkmmjpaaDoor
