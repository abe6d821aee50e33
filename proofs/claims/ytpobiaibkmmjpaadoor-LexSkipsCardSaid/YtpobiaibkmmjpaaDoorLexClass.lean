/-
  lex.Class and within, and the document's own Class and place: what they answer, for every number.
-/
import Derived.Test.YtpobiaibkmmjpaaDoorLexPure
import Derived.Test.YtpobiaibkmmjpaaDoorRefDigit
namespace Go.Proofs.YtpobiaibkmmjpaaDoor
open Go.RowKit

theorem dl_not {c : Int} (h : ¬ dl c) : (c == 40) = false ∧ (c == 60) = false ∧ (c == 91) = false ∧ (c == 123) = false ∧ (c == 41) = false ∧ (c == 62) = false ∧ (c == 93) = false ∧ (c == 125) = false ∧ (c == 47) = false ∧ (c == 37) = false := by
  unfold dl at h
  simp only [beq_eq_false_iff_ne]
  omega

set_option maxHeartbeats 2000000 in
theorem Class_any (c : Int) (w : World) (ht : Tab w) :
    Calls Tryd.prog 15 #[.int .i64 c] w fun e w' => e = .returned (.int .i64 (cls c)) ∧ w = w' := by
  by_cases h : dl c
  · have e : cls c = 2 := if_pos h
    rw [e]
    clear e
    rcases h with rfl | rfl | rfl | rfl | rfl | rfl | rfl | rfl | rfl | rfl
    all_goals
      go_enter Tryd.func15, Tryd.ntmps15
      go_wp2
      go_ret
      exact ⟨rfl, rfl⟩
  · obtain ⟨t1, t2, t3, t4, t5, t6, t7, t8, t9, t10⟩ := dl_not h
    by_cases hk : kz c = 1
    · have e : cls c = 1 := by unfold cls; rw [if_neg h, if_pos hk]
      have hw : (kz c == 1) = true := by simp [hk]
      rw [e]
      clear e h hk
      go_enter Tryd.func15, Tryd.ntmps15
      go_wp2_with (go_at_call 26; refine (White_any _ _ ht).mono ?_; rintro e w' ⟨rfl, rfl⟩)
      go_ret
      exact ⟨rfl, rfl⟩
    · have e : cls c = 0 := by unfold cls; rw [if_neg h, if_neg hk]
      have hw : (kz c == 1) = false := by simp [hk]
      rw [e]
      clear e h hk
      go_enter Tryd.func15, Tryd.ntmps15
      go_wp2_with (go_at_call 26; refine (White_any _ _ ht).mono ?_; rintro e w' ⟨rfl, rfl⟩)
      go_ret
      exact ⟨rfl, rfl⟩

set_option maxHeartbeats 400000 in
theorem within_any (l : List UInt8) (a : Int) (w : World) :
    Calls Tryd.prog 23 #[.string (str l), .int .i64 a] w fun e w' => e = .returned (.int .i64 (pl l.length a : Nat)) ∧ w = w' := by
  go_enter Tryd.func23, Tryd.ntmps23
  go_wp2
  all_goals
    go_ret
    refine ⟨congrArg (fun n : Int => Ending.returned (.int .i64 n)) ?_, rfl⟩
    unfold pl
    omega

set_option maxHeartbeats 400000 in
theorem rplace_any (l : List UInt8) (a : Int) (w : World) :
    Calls Tryd.prog 24 #[.string (str l), .int .i64 a] w fun e w' => e = .returned (.int .i64 (pl l.length a : Nat)) ∧ w = w' := by
  go_enter Tryd.func24, Tryd.ntmps24
  go_wp2
  all_goals
    go_ret
    refine ⟨congrArg (fun n : Int => Ending.returned (.int .i64 n)) ?_, rfl⟩
    unfold pl
    omega

/-- The delimiters, as the document's own text has them. -/
def dls : List UInt8 := [40, 41, 60, 62, 91, 93, 123, 125, 47, 37]
theorem dls_get : ∀ n : Fin 10, (ByteArray.mk #[40, 41, 60, 62, 91, 93, 123, 125, 47, 37])[n.val]'n.isLt = dls[n.val]?.getD 0 := by decide
theorem dls_at (n : Nat) (h : n < (ByteArray.mk #[40, 41, 60, 62, 91, 93, 123, 125, 47, 37]).size) : (ByteArray.mk #[40, 41, 60, 62, 91, 93, 123, 125, 47, 37])[n]'h = dls[n]?.getD 0 := dls_get ⟨n, h⟩
theorem dls_dl : ∀ n : Fin 10, dl ((dls[n.val]?.getD 0).toNat : Int) := by decide
theorem dl_dls {c : Int} (h : dl c) : ∃ d : Nat, d < 10 ∧ c = ((dls[d]?.getD 0).toNat : Int) := by
  rcases h with rfl | rfl | rfl | rfl | rfl | rfl | rfl | rfl | rfl | rfl
  · exact ⟨0, by decide, by decide⟩
  · exact ⟨2, by decide, by decide⟩
  · exact ⟨4, by decide, by decide⟩
  · exact ⟨6, by decide, by decide⟩
  · exact ⟨1, by decide, by decide⟩
  · exact ⟨3, by decide, by decide⟩
  · exact ⟨5, by decide, by decide⟩
  · exact ⟨7, by decide, by decide⟩
  · exact ⟨8, by decide, by decide⟩
  · exact ⟨9, by decide, by decide⟩
theorem dl_white {c : Int} (h : dl c) : (kz c == 1) = false := by
  rcases h with rfl | rfl | rfl | rfl | rfl | rfl | rfl | rfl | rfl | rfl <;> decide

set_option maxHeartbeats 1000000 in
theorem rClass_any (c : Int) (w : World) :
    Calls Tryd.prog 16 #[.int .i64 c] w fun e w' => e = .returned (.int .i64 (cls c)) ∧ w = w' := by
  cases hw : (kz c == 1) with
  | true =>
    have h : ¬ dl c := fun h => by rw [dl_white h] at hw; cases hw
    have e : cls c = 1 := by unfold cls; rw [if_neg h, if_pos (by simpa using hw)]
    rw [e]
    clear e h
    go_enter Tryd.func16, Tryd.ntmps16
    go_wp2_with (go_at_call 27; refine (rWhite_any _ _).mono ?_; rintro e w' ⟨rfl, rfl⟩)
    go_ret
    exact ⟨rfl, rfl⟩
  | false =>
    have hk : ¬ kz c = 1 := by simpa using hw
    have hcls : cls c = if dl c then 2 else 0 := by unfold cls; rw [if_neg hk]
    have HC := Lib.hid hcls
    have hat := dls_at
    clear hk hcls
    go_enter Tryd.func16, Tryd.ntmps16
    go_wp2_with (go_at_call 27; refine (rWhite_any _ _).mono ?_; rintro e w' ⟨rfl, rfl⟩)
    go_loop [4] (fun i => ∃ k : Nat, k ≤ 10 ∧ i = .int .i64 k ∧ Hid (∀ j, j < k → c ≠ ((dls[j]?.getD 0).toNat : Int))) (fun i => 16 - (intOf i).toNat)
    case atStart => exact ⟨0, Nat.zero_le _, rfl, fun j hj => absurd hj (Nat.not_lt_zero _)⟩
    case round =>
      obtain ⟨k, hk, rfl, HN⟩ := hrel
      by_cases hlt : k < 10
      · obtain ⟨y, hy⟩ : ∃ y, y = dls[k]?.getD 0 := ⟨_, rfl⟩
        have hat' : ∀ h, (ByteArray.mk #[40, 41, 60, 62, 91, 93, 123, 125, 47, 37])[k]'h = y := fun h => (hat k h).trans hy.symm
        have hy1 := y.toNat_lt
        have HY := Lib.hid hy
        clear hat hy
        by_cases hc : ((y.toNat : Int) == c) = true
        · go_wp2
          go_ret
          have hcy : c = ((dls[k]?.getD 0).toNat : Int) := by rw [← HY.out]; exact (beq_iff_eq.1 hc).symm
          have hd : dl c := by rw [hcy]; exact dls_dl ⟨k, hlt⟩
          rw [HC.out, if_pos hd]
          exact ⟨rfl, rfl⟩
        · have hc' : ((y.toNat : Int) == c) = false := by simpa using hc
          clear hc
          go_wp2
          go_round
          case rel =>
            refine ⟨k + 1, by omega, by go_num, fun j hj => ?_⟩
            by_cases e : j = k
            · subst e; rw [← HY.out]; intro e; rw [e] at hc'; simp at hc'
            · exact HN.out j (by omega)
          case measure => simp [intOf]; omega
      · obtain rfl : k = 10 := by omega
        go_wp2
        go_ret
        have hd : ¬ dl c := fun h => by
          obtain ⟨d, h1, h2⟩ := dl_dls h
          exact HN.out d h1 h2
        rw [HC.out, if_neg hd]
        exact ⟨rfl, rfl⟩
end Go.Proofs.YtpobiaibkmmjpaaDoor
