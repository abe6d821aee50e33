/-
  What a word does, as a plain function: by the word's own text.
-/
import Derived.Test.YthcnjiigkmljnaaGreatDoorSynSec1
import Derived.Test.YthcnjiigkmljnaaGreatDoorPart3
namespace Go.Proofs.YthcnjiigkmljnaaGreatDoor
open Go.RowKit

section
variable {L : List Tk} {en : Int} {i : Nat}
theorem wordT_def (h : (tg L i).s = [100, 101, 102]) : wordT L en i = .ok (defT (tg L i) (backT L i 2) (backT L i 1)) (i + 1) := by
  unfold wordT defT
  rw [h]
  by_cases hc : (backT L i 2).kind = 2 ∧ ((backT L i 1).kind = 1 ∨ (backT L i 1).kind = 2 ∨ (backT L i 1).kind = 5)
  · rw [if_pos ⟨rfl, hc⟩, if_pos hc]
  · rw [if_neg (fun h => hc h.2), if_neg hc, if_neg (by decide), if_pos (by decide)]
theorem wordT_use (h : (tg L i).s = [117, 115, 101, 99, 109, 97, 112]) : wordT L en i = useT (tg L i) (backT L i 1) i := by
  unfold wordT useT
  rw [h, if_neg (fun h => absurd h.1 (by decide)), if_pos rfl]
theorem wordT_none (h1 : (tg L i).s ≠ [100, 101, 102]) (h2 : (tg L i).s ≠ [117, 115, 101, 99, 109, 97, 112]) (h3 : begunT (tg L i).s = 0) : wordT L en i = .ok [] (i + 1) := by
  unfold wordT
  rw [if_neg (fun h => h1 h.1), if_neg h2, if_pos h3]
theorem wordT_sec (h1 : (tg L i).s ≠ [100, 101, 102]) (h2 : (tg L i).s ≠ [117, 115, 101, 99, 109, 97, 112]) (h3 : begunT (tg L i).s ≠ 0) : wordT L en i = secW L en (tg L i) (backT L i 1) (begunT (tg L i).s) i := by
  unfold wordT secW
  rw [if_neg (fun h => h1 h.1), if_neg h2, if_neg h3]
end
theorem begunT_range (s : List UInt8) : begunT s = 0 ∨ ∃ k : Nat, 2 ≤ k ∧ k ≤ 8 ∧ begunT s = (k : Int) := by
  unfold begunT
  by_cases h2 : s = beginL 2
  · rw [if_pos h2]; exact .inr ⟨2, by decide, by decide, rfl⟩
  rw [if_neg h2]
  by_cases h3 : s = beginL 3
  · rw [if_pos h3]; exact .inr ⟨3, by decide, by decide, rfl⟩
  rw [if_neg h3]
  by_cases h4 : s = beginL 4
  · rw [if_pos h4]; exact .inr ⟨4, by decide, by decide, rfl⟩
  rw [if_neg h4]
  by_cases h5 : s = beginL 5
  · rw [if_pos h5]; exact .inr ⟨5, by decide, by decide, rfl⟩
  rw [if_neg h5]
  by_cases h6 : s = beginL 6
  · rw [if_pos h6]; exact .inr ⟨6, by decide, by decide, rfl⟩
  rw [if_neg h6]
  by_cases h7 : s = beginL 7
  · rw [if_pos h7]; exact .inr ⟨7, by decide, by decide, rfl⟩
  rw [if_neg h7]
  by_cases h8 : s = beginL 8
  · rw [if_pos h8]; exact .inr ⟨8, by decide, by decide, rfl⟩
  rw [if_neg h8]
  exact .inl rfl
/-- Over a block that is made ahead. -/
theorem Wp.ahead {w w1 w' : World} {P : Nat} {A : Option Addr} {c : Nat} {L : List Tk} {en : Int} {vc : Value} {a : Int} {acc : List Im} {res : Rs (List Im)} {r : Ending} (h : Wp w1 P A c L en vc a acc res r w') (hb : Below P w w1) : Wp w P A c L en vc a acc res r w' := ⟨h.1, hb.trans h.2.1, h.2.2⟩
end Go.Proofs.YthcnjiigkmljnaaGreatDoor
