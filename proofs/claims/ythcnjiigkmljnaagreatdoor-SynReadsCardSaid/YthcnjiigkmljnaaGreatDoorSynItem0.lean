/-
  Items, as plain functions: what one step does.
-/
import Derived.Test.YthcnjiigkmljnaaGreatDoorSynWord0
namespace Go.Proofs.YthcnjiigkmljnaaGreatDoor
open Go.RowKit

/-- First a bracket, then nothing that opens or closes, but for the last. -/
def Dp (L : List Tk) : Prop := L.length ≤ 1048576 ∧ ((tg L 0).kind = 6 ∨ (tg L 0).kind = 8 ∨ (tg L 0).kind = 10) ∧ ∀ j, 1 ≤ j → j + 1 < L.length → (tg L j).kind < 6
/-- A word that means nothing. -/
def Idle (s : List UInt8) : Prop := s ≠ [100, 101, 102] ∧ s ≠ [117, 115, 101, 99, 109, 97, 112] ∧ begunT s = 0
/-- No word means anything. -/
def Nw (L : List Tk) : Prop := L.length ≤ 1048576 ∧ ∀ i, i < L.length → (tg L i).kind = 3 → Idle (tg L i).s
/-- Tokens that are few and short; or no word means anything; or words stand within brackets alone. -/
def Jv (L : List Tk) (op : List Int) (i : Nat) : Prop := Sm L ∨ Nw L ∨ (Dp L ∧ (i = 0 ∨ op ≠ [] ∨ i = L.length))
section
variable {L : List Tk} {en : Int}
theorem Jv.len {op : List Int} {i : Nat} (h : Jv L op i) : L.length ≤ 1048576 := by rcases h with h | h | h; exact h.1; exact h.1; exact h.1.1
theorem Jv.sm {i : Nat} (h : Jv L [] i) (hi : i < L.length) (hk : (tg L i).kind = 3) : Sm L ∨ Idle (tg L i).s := by
  rcases h with h | h | ⟨h, h0 | h0 | h0⟩
  · exact .inl h
  · exact .inr (h.2 i hi hk)
  · subst h0; rcases h.2.1 with h | h | h <;> rw [hk] at h <;> cases h
  · exact absurd rfl h0
  · omega
theorem Jv.word {i : Nat} (h : Jv L [] i) (hi : i < L.length) (hk : (tg L i).kind = 3) (j : Nat) : Jv L [] j := by
  rcases h with h | h | ⟨h, h0 | h0 | h0⟩
  · exact .inl h
  · exact .inr (.inl h)
  · subst h0; rcases h.2.1 with h | h | h <;> rw [hk] at h <;> cases h
  · exact absurd rfl h0
  · omega
theorem Jv.skip {op : List Int} {i : Nat} (h : Jv L op i) (hi : i < L.length) (hk : ¬ ((tg L i).kind = 6 ∨ (tg L i).kind = 8 ∨ (tg L i).kind = 10)) : Jv L op (i + 1) := by
  rcases h with h | h | ⟨h, h0 | h0 | h0⟩
  · exact .inl h
  · exact .inr (.inl h)
  · subst h0; exact absurd h.2.1 hk
  · exact .inr (.inr ⟨h, .inr (.inl h0)⟩)
  · omega
theorem Jv.push {op : List Int} {i : Nat} (h : Jv L op i) (k : Int) : Jv L (k :: op) (i + 1) := by
  rcases h with h | h | ⟨h, _⟩
  · exact .inl h
  · exact .inr (.inl h)
  · exact .inr (.inr ⟨h, .inr (.inl (by simp))⟩)
theorem Jv.pop {op op' : List Int} {i : Nat} (h : Jv L op i) (hi : i < L.length) (hk : (tg L i).kind = 7 ∨ (tg L i).kind = 9 ∨ (tg L i).kind = 11) : Jv L op' (i + 1) := by
  rcases h with h | h | ⟨h, _⟩
  · exact .inl h
  · exact .inr (.inl h)
  · refine .inr (.inr ⟨h, .inr (.inr ?_)⟩)
    have h1 : i ≠ 0 := fun e => by subst e; rcases h.2.1 with h | h | h <;> rw [h] at hk <;> rcases hk with hk | hk | hk <;> cases hk
    rcases Nat.lt_or_ge (i + 1) L.length with h2 | h2
    · have := h.2.2 i (by omega) h2; omega
    · omega
theorem sec_ok {kind n : Int} : ∀ (k : Nat) (acc : List En) (i j : Nat) (x : List En), L.length - i ≤ k → secT L en kind n acc i = .ok x j → i < j ∧ j ≤ L.length := by
  intro k
  induction k with
  | zero =>
    intro acc i j x hk h
    cases hb : atW L i (endL kind) with
    | true => simp [atW, atB] at hb; omega
    | false =>
      rw [secT_step hb] at h
      obtain ⟨u, l, h1, _⟩ := then_inv h
      have := ent_ok h1
      omega
  | succ k ih =>
    intro acc i j x hk h
    cases hb : atW L i (endL kind) with
    | true =>
      rw [secT_end hb] at h
      simp [atW, atB] at hb
      by_cases hn : (acc.length : Int) = n
      · rw [if_pos hn] at h; injection h with _ e; omega
      · rw [if_neg hn] at h; cases h
    | false =>
      rw [secT_step hb] at h
      obtain ⟨u, l, h1, h2⟩ := then_inv h
      have h3 := ent_ok h1
      have := ih _ _ _ _ (by omega) h2
      omega
theorem word_ok {i j : Nat} {x : List Im} (h : wordT L en i = .ok x j) : i < j ∧ x.length ≤ 1 := by
  by_cases h1 : (tg L i).s = [100, 101, 102]
  · rw [wordT_def h1] at h
    injection h with e1 e2
    subst e1
    refine ⟨by omega, ?_⟩
    unfold defT
    split <;> simp
  · by_cases h2 : (tg L i).s = [117, 115, 101, 99, 109, 97, 112]
    · rw [wordT_use h2] at h
      unfold useT at h
      by_cases hk : (backT L i 1).kind = 2
      · rw [if_pos hk] at h; injection h with e1 e2; subst e1; exact ⟨by omega, by simp⟩
      · rw [if_neg hk] at h; cases h
    · by_cases h3 : begunT (tg L i).s = 0
      · rw [wordT_none h1 h2 h3] at h; injection h with e1 e2; subst e1; exact ⟨by omega, by simp⟩
      · rw [wordT_sec h1 h2 h3] at h
        unfold secW at h
        by_cases h4 : (backT L i 1).kind = 1
        · rw [if_pos h4] at h
          by_cases h5 : (backT L i 1).n < 0 ∨ 100 < (backT L i 1).n
          · rw [if_pos h5] at h; cases h
          · rw [if_neg h5] at h
            obtain ⟨y, l, h6, h7⟩ := then_inv h
            have := (sec_ok _ _ _ _ _ (Nat.le_refl _) h6).1
            injection h7 with e1 e2
            subst e1
            exact ⟨by omega, by simp⟩
        · rw [if_neg h4] at h; cases h
variable {op : List Int} {acc : List Im} {i : Nat}
theorem items_word (hi : i < L.length) (hk : (tg L i).kind = 3) : itemsT L en [] acc i = (wordT L en i).then fun x j => itemsT L en [] (acc ++ x) j := by
  rw [itemsT, dif_pos hi, if_pos ⟨hk, rfl⟩]
  cases hw : wordT L en i with
  | no a e => rfl
  | ok x j =>
    have := (word_ok hw).1
    show (if _h2 : i < j then itemsT L en [] (acc ++ x) j else .no 0 0) = _
    rw [dif_pos this]
    rfl
theorem items_open (hi : i < L.length) (hk : (tg L i).kind = 6 ∨ (tg L i).kind = 8 ∨ (tg L i).kind = 10) : itemsT L en op acc i = if op.length = 32 then .no (tg L i).at_ 5 else itemsT L en (((tg L i).kind + 1) :: op) acc (i + 1) := by
  rw [itemsT, dif_pos hi, if_neg (by rintro ⟨h, _⟩; omega), if_pos hk]
theorem items_close (hi : i < L.length) (hk : (tg L i).kind = 7 ∨ (tg L i).kind = 9 ∨ (tg L i).kind = 11) : itemsT L en op acc i = if op.head? = some (tg L i).kind then itemsT L en op.tail acc (i + 1) else .no (tg L i).at_ 3 := by
  rw [itemsT, dif_pos hi, if_neg (by rintro ⟨h, _⟩; omega), if_neg (by omega), if_pos hk]
theorem items_skip (hi : i < L.length) (h1 : ¬ ((tg L i).kind = 3 ∧ op = [])) (h2 : ¬ ((tg L i).kind = 6 ∨ (tg L i).kind = 8 ∨ (tg L i).kind = 10)) (h3 : ¬ ((tg L i).kind = 7 ∨ (tg L i).kind = 9 ∨ (tg L i).kind = 11)) : itemsT L en op acc i = itemsT L en op acc (i + 1) := by
  rw [itemsT, dif_pos hi, if_neg h1, if_neg h2, if_neg h3]
theorem items_end (hi : ¬ i < L.length) : itemsT L en op acc i = if op = [] then .ok acc i else .no en 2 := by
  rw [itemsT, dif_neg hi]
end
end Go.Proofs.YthcnjiigkmljnaaGreatDoor
