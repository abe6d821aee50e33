/-
  hornbookref04.Few: are tokens few, and short?
-/
import Derived.Test.YthcnjiigkmljnaaGreatDoorSynSoundP
import Derived.Laws.Small
namespace Go.Proofs.YthcnjiigkmljnaaGreatDoor
open Go.RowKit

set_option maxRecDepth 100000 in
set_option maxHeartbeats 1000000 in
theorem Few_any (L : List Tk) (A : Option Addr) (c : Nat) (w : World) (hlen : L.length ≤ maxLen) (hst : St w w.heap.size A L) :
    Calls Tryz.prog 6 #[.slice A L.length c] w fun r w' => ∃ b, r = .returned (.bool b) ∧ w' = w ∧ (b = true → L.length ≤ 300 ∧ fewS L ≤ 3000) := by
  unfold maxLen at hlen
  have hf0 : Hid (((0 : Nat) : Int) = (fewS (L.take 0) : Int)) := Lib.hid rfl
  go_enter Tryz.func6, Tryz.ntmps6
  go_wp2
  go_loopw [3, 4] (fun n i wr => ∃ (k s : Nat), k ≤ L.length ∧ k ≤ 300 ∧ s ≤ 3000 * k ∧ i = .int .i64 (k : Int) ∧ n = .int .i64 (s : Int) ∧ Hid ((s : Int) = (fewS (L.take k) : Int)) ∧ wr = w) (fun _ i _ => 300 - (intOf i).toNat)
  case atStart => exact ⟨0, 0, Nat.zero_le _, by omega, by omega, rfl, rfl, hf0, rfl⟩
  case round =>
    obtain ⟨k, s, hk, hk3, hs3, rfl, rfl, HS, rfl⟩ := hrel
    by_cases hkl : k < L.length
    · have t0 : decide (k < L.length) = true := by simp; omega
      by_cases h3 : k < 300
      · have t1 : decide ((k : Int) < 300) = true := by simp; omega
        obtain ⟨b, o, hA, hbl, hcl⟩ := hst (by omega)
        subst hA
        obtain ⟨_, _, _, g3⟩ := hcl k hkl
        have hn3 : fewN (tg L k) ≤ 3000 := Nat.min_le_right _ _
        have hne : fewN (tg L k) = min (tg L k).s.length 3000 := rfl
        have hst2 : Hid (((s + fewN (tg L k) : Nat) : Int) = (fewS (L.take (k + 1)) : Int)) := Lib.hid (by rw [fewS_take hkl]; have := HS.out; omega)
        generalize (tg L k).s = q at *
        generalize fewN (tg L k) = m at *
        have hmn : ∀ ts t wx, (Builtin.min_ ts t #[.int .i64 (q.length : Int), .int .i64 3000]).run Tryz.prog wx = .ok (.int .i64 (m : Int)) wx := fun ts t wx => by
          rw [run_min_int2]
          congr 2
          rw [hne]
          split <;> omega
        clear hcl hne HS hf0
        go_wp2
        refine ⟨⟨k + 1, s + m, by omega, by omega, by omega, by go_num, by go_num, hst2, by trivial⟩, by simp [intOf]; omega⟩
      · have t1 : decide ((k : Int) < 300) = false := by simp; omega
        have t2 : decide ((L.length : Int) ≤ 300) = false := by simp; omega
        clear HS hf0 hst
        go_wp2
        go_ret
        exact ⟨false, rfl, rfl, fun h => by cases h⟩
    · have t0 : decide (k < L.length) = false := by simp; omega
      have t2 : decide ((L.length : Int) ≤ 300) = true := by simp; omega
      have hkL : L.take k = L := List.take_of_length_le (by omega)
      have hE := HS.out
      rw [hkL] at hE
      have hfin : Hid (decide ((s : Int) ≤ 3000) = true → L.length ≤ 300 ∧ fewS L ≤ 3000) := Lib.hid (fun h => ⟨by omega, by simp at h; omega⟩)
      clear HS hf0 hst hE hkL
      go_wp2
      go_ret
      exact ⟨_, rfl, rfl, hfin.out⟩
end Go.Proofs.YthcnjiigkmljnaaGreatDoor
