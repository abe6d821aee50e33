/-
  Layer 6, plainly: of a list those that may be and that no other one holds, each once, in order: what is known of them.
-/
import Derived.Test.YtnojapffmcnbaaaRectPure
namespace Go.Proofs.Ytnojapffmcnbaaa

section
variable {α : Type}
/-- What 'holds' and 'goes ahead of' are. -/
structure Hol (ok : α → Bool) (ho lt : α → α → Bool) : Prop where
  okl : ∀ a b, ho a b = true → ok a = true ∧ ok b = true
  refl : ∀ a, ok a = true → ho a a = true
  trans : ∀ a b c, ho a b = true → ho b c = true → ho a c = true
  anti : ∀ a b, ho a b = true → ho b a = true → a = b
  irr : ∀ a, lt a a = false
  ltr : ∀ a b c, lt a b = true → lt b c = true → lt a c = true
  tot : ∀ a b, a ≠ b → lt a b = true ∨ lt b a = true
/-- One of a list that stays: it may be, and no other one of the list holds it. -/
def Sty (ok : α → Bool) (ho : α → α → Bool) (l : List α) (r : α) : Prop := r ∈ l ∧ ok r = true ∧ ∀ s ∈ l, s ≠ r → ho s r = false
/-- Those that stay, each once, in order. -/
structure Cnn (ok : α → Bool) (ho lt : α → α → Bool) (l m : List α) : Prop where
  ord : m.Pairwise fun a b => lt a b = true
  mem : ∀ r, r ∈ m ↔ Sty ok ho l r
variable {ok : α → Bool} {ho lt : α → α → Bool}
theorem ord_unique (h : Hol ok ho lt) : ∀ {a b : List α}, a.Pairwise (fun x y => lt x y = true) → b.Pairwise (fun x y => lt x y = true) → (∀ r, r ∈ a ↔ r ∈ b) → a = b
  | [], [], _, _, _ => rfl
  | [], y :: b, _, _, hm => by have := (hm y).2 List.mem_cons_self; cases this
  | x :: a, [], _, _, hm => by have := (hm x).1 List.mem_cons_self; cases this
  | x :: a, y :: b, ha, hb, hm => by
    obtain ⟨hx, ha'⟩ := List.pairwise_cons.1 ha
    obtain ⟨hy, hb'⟩ := List.pairwise_cons.1 hb
    have hxy : x = y := by
      rcases List.mem_cons.1 ((hm x).1 List.mem_cons_self) with e | h1
      · exact e
      · rcases List.mem_cons.1 ((hm y).2 List.mem_cons_self) with e | h2
        · exact e.symm
        · have q := h.ltr _ _ _ (hy x h1) (hx y h2)
          rw [h.irr] at q
          cases q
    subst hxy
    have hne : ∀ {c : List α}, (∀ z ∈ c, lt x z = true) → x ∉ c := fun hc hz => by have := hc x hz; rw [h.irr] at this; cases this
    rw [ord_unique h ha' hb' (fun r => ⟨fun hr => ?_, fun hr => ?_⟩)]
    · rcases List.mem_cons.1 ((hm r).1 (List.mem_cons_of_mem _ hr)) with e | h1
      · subst e; exact absurd hr (hne hx)
      · exact h1
    · rcases List.mem_cons.1 ((hm r).2 (List.mem_cons_of_mem _ hr)) with e | h1
      · subst e; exact absurd hr (hne hy)
      · exact h1
theorem Cnn.unique (h : Hol ok ho lt) {l m m' : List α} (a : Cnn ok ho lt l m) (b : Cnn ok ho lt l m') : m = m' := ord_unique h a.ord b.ord (fun r => (a.mem r).trans (b.mem r).symm)
theorem Cnn.apart {l m : List α} (a : Cnn ok ho lt l m) {s r : α} (hs : s ∈ m) (hr : r ∈ m) (hne : s ≠ r) : ho s r = false := ((a.mem r).1 hr).2.2 s ((a.mem s).1 hs).1 hne
/-- Those that stay, once more, are the same. -/
theorem Cnn.again {l m : List α} (a : Cnn ok ho lt l m) : Cnn ok ho lt m m :=
  ⟨a.ord, fun r => ⟨fun hr => ⟨hr, ((a.mem r).1 hr).2.1, fun _ hs hne => a.apart hs hr hne⟩, fun h => h.1⟩⟩
/-- Over each one that may be there is one that stays. -/
theorem stays [DecidableEq α] (h : Hol ok ho lt) (l : List α) : ∀ (n : Nat) (r : α), r ∈ l → ok r = true → (l.filter fun s => ho s r && decide (s ≠ r)).length ≤ n → ∃ s, Sty ok ho l s ∧ ho s r = true := by
  intro n
  induction n with
  | zero =>
    intro r hr ho' hn
    refine ⟨r, ⟨hr, ho', fun s hs hne => ?_⟩, h.refl r ho'⟩
    cases hb : ho s r with
    | false => rfl
    | true =>
      have : s ∈ l.filter fun s => ho s r && decide (s ≠ r) := List.mem_filter.2 ⟨hs, by simp [hb, hne]⟩
      rw [List.length_eq_zero_iff.1 (Nat.le_zero.1 hn)] at this
      cases this
  | succ n ih =>
    intro r hr ho' hn
    by_cases hex : ∃ s ∈ l, s ≠ r ∧ ho s r = true
    · obtain ⟨s, hs, hne, hb⟩ := hex
      have hlt : (l.filter fun x => ho x s && decide (x ≠ s)).length < (l.filter fun x => ho x r && decide (x ≠ r)).length := by
        have hsub : ∀ x, (ho x s && decide (x ≠ s)) = true → (ho x r && decide (x ≠ r)) = true := fun x hx => by
          rw [Bool.and_eq_true, decide_eq_true_eq] at hx ⊢
          refine ⟨h.trans _ _ _ hx.1 hb, fun e => ?_⟩
          subst e
          exact hne (h.anti _ _ hb hx.1)
        have : ∀ (k : List α), s ∈ k → (k.filter fun x => ho x s && decide (x ≠ s)).length < (k.filter fun x => ho x r && decide (x ≠ r)).length := by
          have hle : ∀ k : List α, (k.filter fun x => ho x s && decide (x ≠ s)).length ≤ (k.filter fun x => ho x r && decide (x ≠ r)).length := by
            intro k
            induction k with
            | nil => simp
            | cons x k ihk =>
              rw [List.filter_cons, List.filter_cons]
              by_cases hp : (ho x s && decide (x ≠ s)) = true
              · rw [if_pos hp, if_pos (hsub x hp)]; simp only [List.length_cons]; omega
              · rw [if_neg hp]
                split
                · simp only [List.length_cons]; omega
                · exact ihk
          intro k hk
          induction k with
          | nil => cases hk
          | cons x k ihk =>
            rw [List.filter_cons, List.filter_cons]
            by_cases hxs : x = s
            · subst hxs
              rw [if_neg (by simp), if_pos (by simp [hb, hne])]
              have := hle k
              simp only [List.length_cons]
              omega
            · have hk' : s ∈ k := by
                rcases List.mem_cons.1 hk with e | hk
                · exact absurd e.symm hxs
                · exact hk
              have := ihk hk'
              by_cases hp : (ho x s && decide (x ≠ s)) = true
              · rw [if_pos hp, if_pos (hsub x hp)]; simp only [List.length_cons]; omega
              · rw [if_neg hp]
                split
                · simp only [List.length_cons]; omega
                · exact this
        exact this l hs
      obtain ⟨z, hz, hzs⟩ := ih s hs (h.okl _ _ hb).1 (by omega)
      exact ⟨z, hz, h.trans _ _ _ hzs hb⟩
    · refine ⟨r, ⟨hr, ho', fun s hs hne => ?_⟩, h.refl r ho'⟩
      cases hb : ho s r with
      | false => rfl
      | true => exact absurd ⟨s, hs, hne, hb⟩ hex
/-- What is in one of the list is in one that stays. -/
theorem Cnn.covers [DecidableEq α] (h : Hol ok ho lt) {l m : List α} (a : Cnn ok ho lt l m) {r : α} (hr : r ∈ l) (hk : ok r = true) : ∃ s ∈ m, ho s r = true := by
  obtain ⟨s, hs, hb⟩ := stays h l _ r hr hk (Nat.le_refl _)
  exact ⟨s, (a.mem s).2 hs, hb⟩
theorem Cnn.whole [DecidableEq α] (h : Hol ok ho lt) {l m : List α} (a : Cnn ok ho lt l m) {inn : α → Bool} (h1 : ∀ r, inn r = true → ok r = true) (h2 : ∀ s r, ho s r = true → inn r = true → inn s = true) : m.any inn = l.any inn := by
  rw [Bool.eq_iff_iff, List.any_eq_true, List.any_eq_true]
  constructor
  · rintro ⟨r, hr, hi⟩
    exact ⟨r, ((a.mem r).1 hr).1, hi⟩
  · rintro ⟨r, hr, hi⟩
    obtain ⟨s, hs, hb⟩ := a.covers h hr (h1 r hi)
    exact ⟨s, hs, h2 s r hb hi⟩
/-- One more: it stays unless another one that stays holds it. -/
theorem Cnn.more [DecidableEq α] (h : Hol ok ho lt) {l m : List α} {r : α} (a : Cnn ok ho lt (l ++ [r]) m) (hk : ok r = true) : r ∈ m ↔ ¬ ∃ s ∈ m, s ≠ r ∧ ho s r = true := by
  constructor
  · rintro hr ⟨s, hs, hne, hb⟩
    have := a.apart hs hr hne
    rw [hb] at this
    cases this
  · intro hno
    obtain ⟨s, hs, hb⟩ := a.covers h (r := r) (by simp) hk
    by_cases e : s = r
    · subst e; exact hs
    · exact absurd ⟨s, hs, e, hb⟩ hno
theorem Cnn.skip (h : Hol ok ho lt) {l m : List α} {r : α} (a : Cnn ok ho lt (l ++ [r]) m) (hk : ok r = false) : Cnn ok ho lt l m ∧ r ∉ m := by
  have hno : r ∉ m := fun hr => by have := ((a.mem r).1 hr).2.1; rw [hk] at this; cases this
  refine ⟨⟨a.ord, fun x => (a.mem x).trans ⟨fun hx => ?_, fun hx => ?_⟩⟩, hno⟩
  · refine ⟨?_, hx.2.1, fun s hs hne => hx.2.2 s (List.mem_append_left _ hs) hne⟩
    rcases List.mem_append.1 hx.1 with hm | hm
    · exact hm
    · have e : x = r := by simpa using hm
      subst e
      have := hx.2.1
      rw [hk] at this
      cases this
  · refine ⟨List.mem_append_left _ hx.1, hx.2.1, fun s hs hne => ?_⟩
    rcases List.mem_append.1 hs with hm | hm
    · exact hx.2.2 s hm hne
    · have e : s = r := by simpa using hm
      subst e
      cases hb : ho s x with
      | false => rfl
      | true => have := (h.okl _ _ hb).1; rw [hk] at this; cases this
end
end Go.Proofs.Ytnojapffmcnbaaa
