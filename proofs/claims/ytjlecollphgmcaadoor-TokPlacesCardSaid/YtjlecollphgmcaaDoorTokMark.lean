/-
  tok.markAt: the kind of the mark at a place; tok.lineEnd: how many bytes the end of a line has.
-/
import Derived.Test.YtjlecollphgmcaaDoorTokVal
import Derived.Test.YtjlecollphgmcaaDoorStrHas
import Derived.Test.YtjlecollphgmcaaDoorStrGet
import Derived.BigQuiet
import Derived.Deep.QuietTactic
import Derived.Deep.RegionHeld
import Derived.Deep.DrawnRows
namespace Go.Proofs.YtjlecollphgmcaaDoor
open Go.RowKit
attribute [local go_sem ↓] Go.wp_at_zero Go.wp_at_succ

/-- The world holds the marks. -/
def Mks (w : World) : Prop := ∀ i, i < 12 → w.cell? ⟨0, i, none⟩ = some (.string (str (mkL i)))
theorem Mks.pos {w : World} (h : Mks w) : 0 < w.heap.size := World.block_lt_of_cell? w _ (h 0 (by omega))
theorem Mks.below' {w w' : World} (h : Mks w) (hb : Below w.heap.size w w') : Mks w' := fun i hi => (hb.cell (p := ⟨0, i, none⟩) h.pos).trans (h i hi)

theorem pre1 (b c : UInt8) (t : List UInt8) : preB (b :: t) [c] = (b == c) := by simp [preB]
theorem pre2 (b c d : UInt8) (t : List UInt8) : preB (b :: t) [c, d] = (b == c && t.head? == some d) := by
  cases t with
  | nil => simp [preB]
  | cons e u => by_cases h : b = c <;> by_cases h2 : e = d <;> simp [preB, h, h2]
theorem pre_mk (d : List UInt8) (j : Nat) (h0 : 6 ≤ j) (h1 : j ≤ 11) : preB d (mkL j) = (mk d == j) := by
  cases d with
  | nil =>
    rcases (show j = 6 ∨ j = 7 ∨ j = 8 ∨ j = 9 ∨ j = 10 ∨ j = 11 by omega) with rfl | rfl | rfl | rfl | rfl | rfl <;> rfl
  | cons b t =>
    rcases (show j = 6 ∨ j = 7 ∨ j = 8 ∨ j = 9 ∨ j = 10 ∨ j = 11 by omega) with rfl | rfl | rfl | rfl | rfl | rfl
    all_goals
      simp only [mkL, Nat.reduceEqDiff, if_true, if_false, pre1, pre2, mk]
      repeat' split
      all_goals simp_all
theorem mk_le (d : List UInt8) : mk d = 0 ∨ (6 ≤ mk d ∧ mk d ≤ 11) := by
  cases d with
  | nil => simp [mk]
  | cons b t => simp only [mk]; repeat' split
                all_goals omega

set_option maxHeartbeats 1000000 in
theorem HasPrefix_any (l p : List UInt8) (w : World) : Calls Tryd.prog 34 #[.string (str l), .string (str p)] w fun e w' => e = .returned (.bool (preB l p)) ∧ w = w' := by
  go_enter Tryd.func34, Tryd.ntmps34
  go_wp2_with (go_at_call 50; refine (liteHasPrefix_any l p _).mono ?_; rintro e w' ⟨rfl, rfl⟩)
  go_ret
  exact ⟨rfl, rfl⟩

set_option maxRecDepth 100000 in
set_option maxHeartbeats 2000000 in
theorem markAt_any (l : List UInt8) (p : Nat) (w : World) (hm : Mks w) (hp : p ≤ l.length) :
    Calls Tryd.prog 18 #[.string (str l), .int .i64 (p : Int)] w fun e w' => e = .returned (.int .i64 (mk (l.drop p) : Nat)) ∧ Below w.heap.size w w' := by
  have hsl := run_from (P := Tryd.prog) l p hp 9 Tryd.underlying9
  have hpm := pre_mk (l.drop p)
  have hle := mk_le (l.drop p)
  have hH : ∀ j w, Calls Tryd.prog 34 #[.string (str (l.drop p)), .string (str (mkL j))] w fun e w' => e = .returned (.bool (preB (l.drop p) (mkL j))) ∧ w = w' := fun j w => HasPrefix_any _ _ w
  generalize mk (l.drop p) = M at *
  generalize l.drop p = d at *
  have HP := Lib.hid hpm
  have HH := Lib.hid hH
  have HL := Lib.hid hle
  clear hpm hH hle
  go_enter Tryd.func18, Tryd.ntmps18
  go_wp2
  go_loopw [5] (fun i wr => ∃ k : Nat, 6 ≤ k ∧ k ≤ 12 ∧ i = .int .i64 k ∧ Hid (∀ j, 6 ≤ j → j < k → M ≠ j) ∧ Below w.heap.size w wr) (fun i _ => 16 - (intOf i).toNat)
  case atStart => exact ⟨6, by omega, by omega, rfl, fun j h1 h2 => by omega, Below.refl _ _⟩
  case round =>
    obtain ⟨k, hk0, hk, rfl, HE, hbel⟩ := hrel
    by_cases hlt : k < 12
    · have hcell : wr.cell? ⟨0, k, none⟩ = some (.string (str (mkL k))) := (hm.below' hbel) k hlt
      have hC := HH.out k
      rw [HP.out k hk0 (by omega)] at hC
      generalize mkL k = q at *
      cases hb : (M == k) with
      | true =>
        rw [hb] at hC
        have HC := Lib.hid hC
        have hMk : M = k := by simpa using hb
        clear hC hb
        go_wp2
        go_region_held (fun w' => w'.cell? ⟨0, k, none⟩ = some (.string (str q))) (exact hcell) ((go_at_call 34; refine (HC.out _).mono ?_; rintro e w' ⟨rfl, rfl⟩))
        all_goals
          go_wp2
          go_ret
          rw [hMk]
          exact ⟨rfl, by first | exact hbel | exact below_drewN hbel _ | exact (below_drewN hbel _).drew | exact below_drewN (below_drewN hbel _) _⟩
      | false =>
        rw [hb] at hC
        have HC := Lib.hid hC
        have hMk : M ≠ k := by simpa using hb
        have HMK := Lib.hid hMk
        clear hC hb hMk
        go_wp2
        go_region_held (fun w' => w'.cell? ⟨0, k, none⟩ = some (.string (str q))) (exact hcell) ((go_at_call 34; refine (HC.out _).mono ?_; rintro e w' ⟨rfl, rfl⟩))
        all_goals
          go_wp2
          go_roundw
          case rel =>
            refine ⟨k + 1, by omega, by omega, by go_num, fun j h1 h2 => ?_, by first | exact hbel | exact below_drewN hbel _ | exact (below_drewN hbel _).drew | exact below_drewN (below_drewN hbel _) _⟩
            by_cases e : j = k
            · rw [e]; exact HMK.out
            · exact HE.out j h1 (by omega)
          case measure => simp [intOf]; omega
    · obtain rfl : k = 12 := by omega
      have hM0 : M = 0 := by
        rcases HL.out with h | h
        · exact h
        · exact absurd rfl (HE.out M h.1 (by omega))
      go_wp2
      go_ret
      rw [hM0]
      exact ⟨rfl, hbel⟩

theorem len_pre (d : List UInt8) : len d = if preB d [13, 10] then 2 else if preB d [13] then 1 else if preB d [10] then 1 else 0 := by
  cases d with
  | nil => rfl
  | cons b t =>
    rw [pre1, pre1, pre2]
    simp only [len]
    by_cases h : b = 13
    · by_cases h2 : t.head? = some 10 <;> simp [h, h2]
    · simp [h]
set_option maxHeartbeats 1000000 in
theorem lineEnd_any (d : List UInt8) (w : World) : Calls Tryd.prog 39 #[.string (str d)] w fun e w' => e = .returned (.int .i64 (len d : Nat)) ∧ w = w' := by
  have hA : ∀ w, Calls Tryd.prog 34 #[.string (str d), .string (ByteArray.mk #[13, 10])] w fun e w' => e = .returned (.bool (preB d [13, 10])) ∧ w = w' := fun w => HasPrefix_any d [13, 10] w
  have hB : ∀ w, Calls Tryd.prog 34 #[.string (str d), .string (ByteArray.mk #[13])] w fun e w' => e = .returned (.bool (preB d [13])) ∧ w = w' := fun w => HasPrefix_any d [13] w
  have hC : ∀ w, Calls Tryd.prog 34 #[.string (str d), .string (ByteArray.mk #[10])] w fun e w' => e = .returned (.bool (preB d [10])) ∧ w = w' := fun w => HasPrefix_any d [10] w
  rw [len_pre]
  generalize preB d [13, 10] = b1 at *
  generalize preB d [13] = b2 at *
  generalize preB d [10] = b3 at *
  have HA := Lib.hid hA
  have HB := Lib.hid hB
  have HC := Lib.hid hC
  clear hA hB hC
  cases b1 <;> cases b2 <;> cases b3
  all_goals
    go_enter Tryd.func39, Tryd.ntmps39
    go_wp2_with (go_at_call 34; (first | (with_reducible refine (HA.out _).mono ?_) | (with_reducible refine (HB.out _).mono ?_) | (with_reducible refine (HC.out _).mono ?_)); rintro e w' ⟨rfl, rfl⟩)
    go_ret
    exact ⟨rfl, rfl⟩
end Go.Proofs.YtjlecollphgmcaaDoor
