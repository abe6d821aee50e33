/-
  strings.CutPrefix and TrimPrefix: a text without what it begins with.
-/
import Derived.Test.YtpobiaibkmmjpaaDoorStrHas
import Derived.Test.YtpobiaibkmmjpaaDoorStrGet
namespace Go.Proofs.YtpobiaibkmmjpaaDoor
open Go.RowKit

def cutL (l p : List UInt8) : List UInt8 := if preB l p then l.drop p.length else l
theorem pre_le {l p : List UInt8} (h : preB l p = true) : p.length ≤ l.length := by simp [preB] at h; exact h.1
set_option maxHeartbeats 1000000 in
theorem liteCut_any (l p : List UInt8) (w : World) : Calls Tryd.prog 42 #[.string (str l), .string (str p)] w fun e w' => e = .returned (.tuple #[.string (str (cutL l p)), .bool (preB l p)]) ∧ w = w' := by
  have hp := liteHasPrefix_any l p w
  cases hb : preB l p with
  | true =>
    have e : cutL l p = l.drop p.length := by simp [cutL, hb]
    have hs := run_from (P := Tryd.prog) l p.length (pre_le hb) 9 Tryd.underlying9
    rw [hb] at hp
    rw [e]
    generalize l.drop p.length = d at *
    clear e
    go_enter Tryd.func42, Tryd.ntmps42
    go_wp2_with (go_at_call 48; refine hp.mono ?_; rintro e w' ⟨rfl, rfl⟩)
    go_ret2
    exact ⟨rfl, rfl⟩
  | false =>
    have e : cutL l p = l := by simp [cutL, hb]
    rw [hb] at hp
    rw [e]
    clear e
    go_enter Tryd.func42, Tryd.ntmps42
    go_wp2_with (go_at_call 48; refine hp.mono ?_; rintro e w' ⟨rfl, rfl⟩)
    go_ret2
    exact ⟨rfl, rfl⟩
set_option maxHeartbeats 1000000 in
theorem liteTrim_any (l p : List UInt8) (w : World) : Calls Tryd.prog 43 #[.string (str l), .string (str p)] w fun e w' => e = .returned (.string (str (cutL l p))) ∧ w = w' := by
  have hp := liteHasPrefix_any l p w
  cases hb : preB l p with
  | true =>
    have e : cutL l p = l.drop p.length := by simp [cutL, hb]
    have hs := run_from (P := Tryd.prog) l p.length (pre_le hb) 9 Tryd.underlying9
    rw [hb] at hp
    rw [e]
    generalize l.drop p.length = d at *
    clear e
    go_enter Tryd.func43, Tryd.ntmps43
    go_wp2_with (go_at_call 48; refine hp.mono ?_; rintro e w' ⟨rfl, rfl⟩)
    go_ret
    exact ⟨rfl, rfl⟩
  | false =>
    have e : cutL l p = l := by simp [cutL, hb]
    rw [hb] at hp
    rw [e]
    clear e
    go_enter Tryd.func43, Tryd.ntmps43
    go_wp2_with (go_at_call 48; refine hp.mono ?_; rintro e w' ⟨rfl, rfl⟩)
    go_ret
    exact ⟨rfl, rfl⟩
set_option maxHeartbeats 1000000 in
theorem CutPrefix_any (l p : List UInt8) (w : World) : Calls Tryd.prog 34 #[.string (str l), .string (str p)] w fun e w' => e = .returned (.tuple #[.string (str (cutL l p)), .bool (preB l p)]) ∧ w = w' := by
  go_enter Tryd.func34, Tryd.ntmps34
  go_wp2_with (go_at_call 42; refine (liteCut_any l p _).mono ?_; rintro e w' ⟨rfl, rfl⟩)
  go_ret2
  exact ⟨rfl, rfl⟩
set_option maxHeartbeats 1000000 in
theorem TrimPrefix_any (l p : List UInt8) (w : World) : Calls Tryd.prog 35 #[.string (str l), .string (str p)] w fun e w' => e = .returned (.string (str (cutL l p))) ∧ w = w' := by
  go_enter Tryd.func35, Tryd.ntmps35
  go_wp2_with (go_at_call 43; refine (liteTrim_any l p _).mono ?_; rintro e w' ⟨rfl, rfl⟩)
  go_ret
  exact ⟨rfl, rfl⟩
end Go.Proofs.YtpobiaibkmmjpaaDoor
