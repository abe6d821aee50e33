/-
  Layer 6, plainly: how the document's own Canon picks those that stay, and puts them in order.
-/
import Derived.Test.YtnojapffmcnbaaaRectCan
namespace Go.Proofs.Ytnojapffmcnbaaa

section
variable {α : Type}
/-- Put where it is to be. -/
def insL (lt : α → α → Bool) (r : α) : List α → List α
  | [] => [r]
  | x :: t => if lt r x = true then r :: x :: t else x :: insL lt r t
theorem insL_mem (lt : α → α → Bool) (r : α) : ∀ (l : List α) (y : α), y ∈ insL lt r l ↔ y = r ∨ y ∈ l
  | [], y => by simp [insL]
  | x :: t, y => by
    rw [insL]
    split
    · simp
    · rw [List.mem_cons, insL_mem lt r t y, List.mem_cons]
      constructor
      · rintro (h | h | h)
        · exact .inr (.inl h)
        · exact .inl h
        · exact .inr (.inr h)
      · rintro (h | h | h)
        · exact .inr (.inl h)
        · exact .inl h
        · exact .inr (.inr h)
theorem insL_ord {ok : α → Bool} {ho lt : α → α → Bool} (h : Hol ok ho lt) {r : α} : ∀ {l : List α}, l.Pairwise (fun a b => lt a b = true) → r ∉ l → (insL lt r l).Pairwise (fun a b => lt a b = true)
  | [], _, _ => List.pairwise_singleton _ _
  | x :: t, hp, hn => by
    obtain ⟨hx, ht⟩ := List.pairwise_cons.1 hp
    rw [insL]
    split
    · rename_i hlt
      refine List.pairwise_cons.2 ⟨fun y hy => ?_, hp⟩
      rcases List.mem_cons.1 hy with e | hy
      · subst e; exact hlt
      · exact h.ltr _ _ _ hlt (hx y hy)
    · rename_i hlt
      have hne : x ≠ r := fun e => hn (e ▸ List.mem_cons_self)
      have hxr : lt x r = true := by
        rcases h.tot x r hne with h1 | h1
        · exact h1
        · exact absurd h1 hlt
      refine List.pairwise_cons.2 ⟨fun y hy => ?_, insL_ord h ht (fun hr => hn (List.mem_cons_of_mem _ hr))⟩
      rcases (insL_mem lt r t y).1 hy with e | hy
      · subst e; exact hxr
      · exact hx y hy
theorem insL_length (lt : α → α → Bool) (r : α) : ∀ l : List α, (insL lt r l).length = l.length + 1
  | [] => rfl
  | x :: t => by
    rw [insL]
    split
    · rfl
    · rw [List.length_cons, insL_length lt r t, List.length_cons]
variable [DecidableEq α]
/-- Does one stay, with those ahead of it? -/
def kpB (ok : α → Bool) (ho : α → α → Bool) (l pre : List α) (x : α) : Bool := ok x && l.all (fun s => decide (s = x) || !ho s x) && decide (x ∉ pre)
def canT (ok : α → Bool) (ho lt : α → α → Bool) (l : List α) : List α → List α → List α → List α
  | _, [], acc => acc
  | pre, x :: t, acc => canT ok ho lt l (pre ++ [x]) t (if kpB ok ho l pre x = true then insL lt x acc else acc)
def canL (ok : α → Bool) (ho lt : α → α → Bool) (l : List α) : List α := canT ok ho lt l [] l []
variable {ok : α → Bool} {ho lt : α → α → Bool}
theorem kpB_iff {l pre : List α} {x : α} : kpB ok ho l pre x = true ↔ (ok x = true ∧ ∀ s ∈ l, s ≠ x → ho s x = false) ∧ x ∉ pre := by
  unfold kpB
  rw [Bool.and_eq_true, Bool.and_eq_true, List.all_eq_true, decide_eq_true_eq]
  constructor
  · rintro ⟨⟨h1, h2⟩, h3⟩
    refine ⟨⟨h1, fun s hs hne => ?_⟩, h3⟩
    have := h2 s hs
    simpa [hne] using this
  · rintro ⟨⟨h1, h2⟩, h3⟩
    refine ⟨⟨h1, fun s hs => ?_⟩, h3⟩
    by_cases e : s = x
    · simp [e]
    · simp [h2 s hs e]
theorem canT_inv (h : Hol ok ho lt) (l : List α) : ∀ (rest pre acc : List α), pre ++ rest = l → acc.Pairwise (fun a b => lt a b = true) → (∀ r, r ∈ acc ↔ (r ∈ pre ∧ ok r = true ∧ ∀ s ∈ l, s ≠ r → ho s r = false)) → Cnn ok ho lt l (canT ok ho lt l pre rest acc)
  | [], pre, acc, hl, ho', hm => by
    rw [List.append_nil] at hl
    subst hl
    exact ⟨ho', hm⟩
  | x :: t, pre, acc, hl, ho', hm => by
    rw [canT]
    refine canT_inv h l t (pre ++ [x]) _ (by rw [List.append_assoc]; exact hl) ?_ ?_
    · split
      · rename_i hk
        have hk' := kpB_iff.1 hk
        exact insL_ord h ho' (fun hx => hk'.2 ((hm x).1 hx).1)
      · exact ho'
    · intro r
      by_cases hk : kpB ok ho l pre x = true
      · have hk' := kpB_iff.1 hk
        rw [if_pos hk, insL_mem, hm r, List.mem_append, List.mem_singleton]
        constructor
        · rintro (e | ⟨h1, h2⟩)
          · subst e; exact ⟨.inr rfl, hk'.1⟩
          · exact ⟨.inl h1, h2⟩
        · rintro ⟨h1 | h1, h2⟩
          · exact .inr ⟨h1, h2⟩
          · exact .inl h1
      · rw [if_neg hk, hm r, List.mem_append, List.mem_singleton]
        constructor
        · rintro ⟨h1, h2⟩
          exact ⟨.inl h1, h2⟩
        · rintro ⟨h1 | h1, h2⟩
          · exact ⟨h1, h2⟩
          · subst h1
            refine ⟨?_, h2⟩
            apply Classical.byContradiction
            intro hn
            exact hk (kpB_iff.2 ⟨h2, hn⟩)
/-- The document's own Canon tells those that stay, each once, in order. -/
theorem canL_cnn (h : Hol ok ho lt) (l : List α) : Cnn ok ho lt l (canL ok ho lt l) := canT_inv h l l [] [] rfl List.Pairwise.nil (fun r => Iff.intro (fun hr => by cases hr) (fun hr => by have := hr.1; cases this))
theorem canT_length (l : List α) : ∀ (rest pre acc : List α), (canT ok ho lt l pre rest acc).length ≤ acc.length + rest.length
  | [], _, acc => by rw [canT]; simp
  | x :: t, pre, acc => by
    rw [canT]
    have := canT_length l t (pre ++ [x]) (if kpB ok ho l pre x = true then insL lt x acc else acc)
    have h2 : (if kpB ok ho l pre x = true then insL lt x acc else acc).length ≤ acc.length + 1 := by
      split
      · rw [insL_length]; exact Nat.le_refl _
      · omega
    rw [List.length_cons]
    omega
theorem canL_length (l : List α) : (canL ok ho lt l).length ≤ l.length := by
  have := canT_length (ok := ok) (ho := ho) (lt := lt) l l [] []
  simpa [canL] using this
end
end Go.Proofs.Ytnojapffmcnbaaa
