/-
  hex.kind, Digit and White: what they answer, for every number, in a world that holds the table of blanks and digits.
-/
import Derived.Test.YtjlecollphgmcaaDoorProg
import Derived.WalkKit
import Derived.WalkSpells
import Derived.WalkLawsBesides
import Derived.Lib.Hide
namespace Go.Proofs.YtjlecollphgmcaaDoor
open Go.RowKit

/-- What the table tells of a number: 0 nothing, 1 a blank, 2 and more a digit and its value. -/
def tabAt (n : Nat) : Int :=
  if n = 0 ∨ n = 9 ∨ n = 10 ∨ n = 12 ∨ n = 13 ∨ n = 32 then 1
  else if 48 ≤ n ∧ n ≤ 57 then (n : Int) - 46
  else if 65 ≤ n ∧ n ≤ 70 then (n : Int) - 53
  else if 97 ≤ n ∧ n ≤ 102 then (n : Int) - 85
  else 0
def kz (c : Int) : Int := if 0 ≤ c ∧ c < 103 then tabAt c.toNat else 0

theorem tabAt_bounds (n : Nat) : 0 ≤ tabAt n ∧ tabAt n ≤ 17 := by
  unfold tabAt; repeat' split
  all_goals omega
theorem kz_bounds (c : Int) : 0 ≤ kz c ∧ kz c ≤ 17 := by
  unfold kz; split
  · exact tabAt_bounds _
  · omega

/-- The world holds the table. -/
def Tab (w : World) : Prop := ∀ i, i < 103 → w.cell? ⟨1, i, none⟩ = some (.int .u8 (tabAt i))

theorem Tab.pos {w : World} (h : Tab w) : 1 < w.heap.size := by
  have := h 0 (by omega)
  exact World.block_lt_of_cell? w _ this
theorem Tab.below {w w' : World} (h : Tab w) {B : Nat} (hb : Below B w w') (hB : 1 < B) : Tab w' := fun i hi => (hb.cell (p := ⟨1, i, none⟩) hB).trans (h i hi)
theorem Tab.below' {w w' : World} (h : Tab w) (hb : Below w.heap.size w w') : Tab w' := h.below hb h.pos

set_option maxHeartbeats 400000 in
theorem kind_in (c : Int) (w : World) (h0 : 0 ≤ c) (h1 : c < 103) (hc : w.cell? ⟨1, c.toNat, none⟩ = some (.int .u8 (kz c))) :
    Calls Tryd.prog 31 #[.int .i64 c] w fun e w' => e = .returned (.int .i64 (kz c)) ∧ w = w' := by
  have hb := kz_bounds c
  go_enter Tryd.func31, Tryd.ntmps31
  go_wp2
  go_ret
  exact ⟨rfl, rfl⟩

set_option maxHeartbeats 400000 in
theorem kind_out (c : Int) (w : World) (h : c < 0 ∨ 103 ≤ c) :
    Calls Tryd.prog 31 #[.int .i64 c] w fun e w' => e = .returned (.int .i64 0) ∧ w = w' := by
  rcases h with h | h
  · go_enter Tryd.func31, Tryd.ntmps31
    go_wp2
    go_ret
    exact ⟨rfl, rfl⟩
  · have h' : ¬ c < 0 := by omega
    go_enter Tryd.func31, Tryd.ntmps31
    go_wp2
    go_ret
    exact ⟨rfl, rfl⟩

theorem kind_any (c : Int) (w : World) (ht : Tab w) :
    Calls Tryd.prog 31 #[.int .i64 c] w fun e w' => e = .returned (.int .i64 (kz c)) ∧ w = w' := by
  by_cases h : 0 ≤ c ∧ c < 103
  · refine kind_in c w h.1 h.2 ?_
    have := ht c.toNat (by omega)
    unfold kz
    rw [if_pos h]
    exact this
  · have e : kz c = 0 := by unfold kz; rw [if_neg h]
    rw [e]
    exact kind_out c w (by omega)

set_option maxHeartbeats 400000 in
theorem Digit_yes (c : Int) (w : World) (ht : Tab w) (h : 2 ≤ kz c) :
    Calls Tryd.prog 51 #[.int .i64 c] w fun e w' => e = .returned (.tuple #[.int .i64 (kz c - 2), .bool true]) ∧ w = w' := by
  have hb := kz_bounds c
  go_enter Tryd.func51, Tryd.ntmps51
  go_wp2_with (go_at_call 31; refine (kind_any _ _ ht).mono ?_; rintro e w' ⟨rfl, rfl⟩)
  go_ret2
  exact ⟨rfl, rfl⟩

set_option maxHeartbeats 400000 in
theorem Digit_no (c : Int) (w : World) (ht : Tab w) (h : kz c < 2) :
    Calls Tryd.prog 51 #[.int .i64 c] w fun e w' => e = .returned (.tuple #[.int .i64 0, .bool false]) ∧ w = w' := by
  have hb := kz_bounds c
  go_enter Tryd.func51, Tryd.ntmps51
  go_wp2_with (go_at_call 31; refine (kind_any _ _ ht).mono ?_; rintro e w' ⟨rfl, rfl⟩)
  go_ret2
  exact ⟨rfl, rfl⟩

set_option maxHeartbeats 400000 in
theorem White_any (c : Int) (w : World) (ht : Tab w) :
    Calls Tryd.prog 16 #[.int .i64 c] w fun e w' => e = .returned (.bool (kz c == 1)) ∧ w = w' := by
  have hb := kz_bounds c
  go_enter Tryd.func16, Tryd.ntmps16
  go_wp2_with (go_at_call 31; refine (kind_any _ _ ht).mono ?_; rintro e w' ⟨rfl, rfl⟩)
  go_ret
  exact ⟨rfl, rfl⟩
end Go.Proofs.YtjlecollphgmcaaDoor
