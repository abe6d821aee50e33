/-
  strings.CutPrefix and TrimPrefix: a text without what it begins with.
-/
import Derived.Test.YtjlecollphgmcaaDoorStrHas
import Derived.Test.YtjlecollphgmcaaDoorStrGet
namespace Go.Proofs.YtjlecollphgmcaaDoor
open Go.RowKit

def cutL (l p : List UInt8) : List UInt8 := if preB l p then l.drop p.length else l
theorem pre_le {l p : List UInt8} (h : preB l p = true) : p.length ≤ l.length := by simp [preB] at h; exact h.1
set_option maxHeartbeats 1000000 in
theorem liteCut_any (l p : List UInt8) (w : World) : Calls Tryd.prog 72 #[.string (str l), .string (str p)] w fun e w' => e = .returned (.tuple #[.string (str (cutL l p)), .bool (preB l p)]) ∧ w = w' := by
  have hp := liteHasPrefix_any l p w
  cases hb : preB l p with
  | true =>
    have e : cutL l p = l.drop p.length := by simp [cutL, hb]
    have hs := run_from (P := Tryd.prog) l p.length (pre_le hb) 9 Tryd.underlying9
    rw [hb] at hp
    rw [e]
    generalize l.drop p.length = d at *
    clear e
    go_enter Tryd.func72, Tryd.ntmps72
    go_wp2_with (go_at_call 50; refine hp.mono ?_; rintro e w' ⟨rfl, rfl⟩)
    go_ret2
    exact ⟨rfl, rfl⟩
  | false =>
    have e : cutL l p = l := by simp [cutL, hb]
    rw [hb] at hp
    rw [e]
    clear e
    go_enter Tryd.func72, Tryd.ntmps72
    go_wp2_with (go_at_call 50; refine hp.mono ?_; rintro e w' ⟨rfl, rfl⟩)
    go_ret2
    exact ⟨rfl, rfl⟩
set_option maxHeartbeats 1000000 in
theorem liteTrim_any (l p : List UInt8) (w : World) : Calls Tryd.prog 73 #[.string (str l), .string (str p)] w fun e w' => e = .returned (.string (str (cutL l p))) ∧ w = w' := by
  have hp := liteHasPrefix_any l p w
  cases hb : preB l p with
  | true =>
    have e : cutL l p = l.drop p.length := by simp [cutL, hb]
    have hs := run_from (P := Tryd.prog) l p.length (pre_le hb) 9 Tryd.underlying9
    rw [hb] at hp
    rw [e]
    generalize l.drop p.length = d at *
    clear e
    go_enter Tryd.func73, Tryd.ntmps73
    go_wp2_with (go_at_call 50; refine hp.mono ?_; rintro e w' ⟨rfl, rfl⟩)
    go_ret
    exact ⟨rfl, rfl⟩
  | false =>
    have e : cutL l p = l := by simp [cutL, hb]
    rw [hb] at hp
    rw [e]
    clear e
    go_enter Tryd.func73, Tryd.ntmps73
    go_wp2_with (go_at_call 50; refine hp.mono ?_; rintro e w' ⟨rfl, rfl⟩)
    go_ret
    exact ⟨rfl, rfl⟩
set_option maxHeartbeats 1000000 in
theorem CutPrefix_any (l p : List UInt8) (w : World) : Calls Tryd.prog 64 #[.string (str l), .string (str p)] w fun e w' => e = .returned (.tuple #[.string (str (cutL l p)), .bool (preB l p)]) ∧ w = w' := by
  go_enter Tryd.func64, Tryd.ntmps64
  go_wp2_with (go_at_call 72; refine (liteCut_any l p _).mono ?_; rintro e w' ⟨rfl, rfl⟩)
  go_ret2
  exact ⟨rfl, rfl⟩
set_option maxHeartbeats 1000000 in
theorem TrimPrefix_any (l p : List UInt8) (w : World) : Calls Tryd.prog 65 #[.string (str l), .string (str p)] w fun e w' => e = .returned (.string (str (cutL l p))) ∧ w = w' := by
  go_enter Tryd.func65, Tryd.ntmps65
  go_wp2_with (go_at_call 73; refine (liteTrim_any l p _).mono ?_; rintro e w' ⟨rfl, rfl⟩)
  go_ret
  exact ⟨rfl, rfl⟩
end Go.Proofs.YtjlecollphgmcaaDoor
