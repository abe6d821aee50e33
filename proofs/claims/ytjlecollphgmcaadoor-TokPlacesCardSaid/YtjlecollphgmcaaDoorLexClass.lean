/-
  lex.Class and within: what they answer, for every number.
-/
import Derived.Test.YtjlecollphgmcaaDoorLexPure
namespace Go.Proofs.YtjlecollphgmcaaDoor
open Go.RowKit

theorem dl_not {c : Int} (h : ¬ dl c) : (c == 40) = false ∧ (c == 60) = false ∧ (c == 91) = false ∧ (c == 123) = false ∧ (c == 41) = false ∧ (c == 62) = false ∧ (c == 93) = false ∧ (c == 125) = false ∧ (c == 47) = false ∧ (c == 37) = false := by
  unfold dl at h
  simp only [beq_eq_false_iff_ne]
  omega

set_option maxHeartbeats 2000000 in
theorem Class_any (c : Int) (w : World) (ht : Tab w) :
    Calls Tryd.prog 12 #[.int .i64 c] w fun e w' => e = .returned (.int .i64 (cls c)) ∧ w = w' := by
  by_cases h : dl c
  · have e : cls c = 2 := if_pos h
    rw [e]
    clear e
    rcases h with rfl | rfl | rfl | rfl | rfl | rfl | rfl | rfl | rfl | rfl
    all_goals
      go_enter Tryd.func12, Tryd.ntmps12
      go_wp2
      go_ret
      exact ⟨rfl, rfl⟩
  · obtain ⟨t1, t2, t3, t4, t5, t6, t7, t8, t9, t10⟩ := dl_not h
    by_cases hk : kz c = 1
    · have e : cls c = 1 := by unfold cls; rw [if_neg h, if_pos hk]
      have hw : (kz c == 1) = true := by simp [hk]
      rw [e]
      clear e h hk
      go_enter Tryd.func12, Tryd.ntmps12
      go_wp2_with (go_at_call 16; refine (White_any _ _ ht).mono ?_; rintro e w' ⟨rfl, rfl⟩)
      go_ret
      exact ⟨rfl, rfl⟩
    · have e : cls c = 0 := by unfold cls; rw [if_neg h, if_neg hk]
      have hw : (kz c == 1) = false := by simp [hk]
      rw [e]
      clear e h hk
      go_enter Tryd.func12, Tryd.ntmps12
      go_wp2_with (go_at_call 16; refine (White_any _ _ ht).mono ?_; rintro e w' ⟨rfl, rfl⟩)
      go_ret
      exact ⟨rfl, rfl⟩

set_option maxHeartbeats 400000 in
theorem within_any (l : List UInt8) (a : Int) (w : World) :
    Calls Tryd.prog 32 #[.string (str l), .int .i64 a] w fun e w' => e = .returned (.int .i64 (pl l.length a : Nat)) ∧ w = w' := by
  go_enter Tryd.func32, Tryd.ntmps32
  go_wp2
  all_goals
    go_ret
    refine ⟨congrArg (fun n : Int => Ending.returned (.int .i64 n)) ?_, rfl⟩
    unfold pl
    omega
end Go.Proofs.YtjlecollphgmcaaDoor
