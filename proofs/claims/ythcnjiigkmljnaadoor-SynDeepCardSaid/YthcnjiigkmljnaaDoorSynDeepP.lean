/-
  Tokens within brackets, as plain lists: what is deep does nothing.
-/
import Derived.Test.YthcnjiigkmljnaaDoorSynItem0
namespace Go.Proofs.YthcnjiigkmljnaaDoor
open Go.RowKit

/-- Tokens that neither open nor close. -/
def flat (L : List Tk) : List Tk := L.filter fun t => decide (t.kind < 6)
theorem flat_lt {L : List Tk} : ∀ t ∈ flat L, t.kind < 6 := by
  intro t ht
  have := (List.mem_filter.1 ht).2
  simpa using this
theorem items_run {L : List Tk} {en : Int} {op : List Int} {acc : List Im} (hop : op ≠ []) : ∀ (n i : Nat), (∀ j, i ≤ j → j < i + n → j < L.length ∧ (tg L j).kind < 6) → itemsT L en op acc i = itemsT L en op acc (i + n)
  | 0, i, _ => rfl
  | n + 1, i, h => by
    obtain ⟨h1, h2⟩ := h i (Nat.le_refl _) (by omega)
    rw [items_skip h1 (fun h => hop h.2) (by omega) (by omega), items_run hop n (i + 1) (fun j h3 h4 => h j (by omega) (by omega)), Nat.add_assoc, Nat.add_comm 1 n]
theorem tg_mid {a : Tk} {M R : List Tk} {j : Nat} (h1 : 1 ≤ j) (h2 : j < 1 + M.length) : tg (a :: (M ++ R)) j ∈ M := by
  obtain ⟨k, rfl⟩ : ∃ k, j = k + 1 := ⟨j - 1, by omega⟩
  rw [tg_succ]
  unfold tg
  rw [List.getElem?_append_left (by omega), List.getElem?_eq_getElem (by omega)]
  exact List.getElem_mem _
theorem deep_open {a : Tk} {M : List Tk} {en : Int} (ha : a.kind = 6 ∨ a.kind = 8 ∨ a.kind = 10) (hM : ∀ t ∈ M, t.kind < 6) : parseT (a :: M) en = .no en 2 := by
  unfold parseT
  have e0 : tg (a :: M) 0 = a := rfl
  rw [items_open (i := 0) (by simp) (by rw [e0]; exact ha), if_neg (by simp), e0, items_run (by simp) M.length 1 (fun j h1 h2 => ⟨by simp; omega, hM _ (by have := @tg_mid a M [] j h1 h2; simpa using this)⟩), items_end (by simp; omega), if_neg (by simp)]
theorem deep_close {a z : Tk} {M : List Tk} {en : Int} (ha : a.kind = 6 ∨ a.kind = 8 ∨ a.kind = 10) (hz : z.kind = a.kind + 1) (hM : ∀ t ∈ M, t.kind < 6) : ∃ j, parseT (a :: (M ++ [z])) en = .ok [] j := by
  unfold parseT
  have e0 : tg (a :: (M ++ [z])) 0 = a := rfl
  have ez : tg (a :: (M ++ [z])) (1 + M.length) = z := by rw [Nat.add_comm, tg_succ]; unfold tg; simp
  rw [items_open (i := 0) (by simp) (by rw [e0]; exact ha), if_neg (by simp), e0, items_run (by simp) M.length 1 (fun j h1 h2 => ⟨by simp; omega, hM _ (tg_mid h1 h2)⟩), items_close (by simp; omega) (by rw [ez, hz]; omega), ez, if_pos (by simp [hz]), items_end (by simp; omega), if_pos (by rfl)]
  exact ⟨_, rfl⟩
theorem deep_jv {a : Tk} {M R : List Tk} (ha : a.kind = 6 ∨ a.kind = 8 ∨ a.kind = 10) (hM : ∀ t ∈ M, t.kind < 6) (hR : R.length ≤ 1) (hl : M.length ≤ 1000) : Jv (a :: (M ++ R)) [] 0 := by
  refine .inr ⟨⟨by simp; omega, ha, fun j h1 h2 => hM _ (tg_mid h1 (by simp at h2; omega))⟩, .inl rfl⟩
theorem flat_take {L : List Tk} {k : Nat} (h : k < L.length) : flat (L.take (k + 1)) = if (tg L k).kind < 6 then flat (L.take k) ++ [tg L k] else flat (L.take k) := by
  have e : L.take (k + 1) = L.take k ++ [tg L k] := by
    rw [List.take_add_one, List.getElem?_eq_getElem h]
    unfold tg
    rw [List.getElem?_eq_getElem h]
    rfl
  unfold flat
  rw [e, List.filter_append]
  by_cases hk : (tg L k).kind < 6
  · rw [if_pos hk]; simp [hk]
  · rw [if_neg hk]; simp [hk]
end Go.Proofs.YthcnjiigkmljnaaDoor
