/-
  Borders as plain lists: a number put into a list that rises; where something begins, or has ended.
-/
import Derived.Test.YtkkochjdimegpaaDestOver
namespace Go.Proofs.Ytkkochjdimegpaa

/-- A number, where it is to be in a list that rises; once. -/
def goP (v : Int) : List Int → Bool → List Int
  | [], d => if d = true then [] else [v]
  | x :: l, d => if x = v then x :: goP v l true else if d = false ∧ v < x then v :: x :: goP v l true else x :: goP v l d
theorem goP_true (v : Int) : ∀ l, goP v l true = l
  | [] => rfl
  | x :: l => by
    have := goP_true v l
    unfold goP
    split
    · rw [this]
    · rw [if_neg (by simp), this]
theorem goP_mem (v : Int) : ∀ {l : List Int} {y : Int}, y ∈ goP v l false ↔ y = v ∨ y ∈ l
  | [], y => by simp [goP]
  | x :: l, y => by
    have ih := goP_mem v (l := l) (y := y)
    unfold goP
    split
    · rename_i h
      subst h
      rw [goP_true]
      simp
    · split
      · rw [goP_true]
        simp
      · simp only [List.mem_cons, ih]
        constructor
        · rintro (h | h | h)
          · exact .inr (.inl h)
          · exact .inl h
          · exact .inr (.inr h)
        · rintro (h | h | h)
          · exact .inr (.inl h)
          · exact .inl h
          · exact .inr (.inr h)
theorem goP_rise (v : Int) : ∀ {l : List Int}, l.Pairwise (· < ·) → (goP v l false).Pairwise (· < ·)
  | [], _ => by simp [goP]
  | x :: l, h => by
    have h1 := (List.pairwise_cons.1 h)
    unfold goP
    split
    · rw [goP_true]; exact h
    · rename_i hx
      split
      · rename_i hv
        rw [goP_true]
        refine List.pairwise_cons.2 ⟨fun y hy => ?_, h⟩
        rcases List.mem_cons.1 hy with rfl | hy
        · exact hv.2
        · have := h1.1 y hy
          omega
      · rename_i hv
        refine List.pairwise_cons.2 ⟨fun y hy => ?_, goP_rise v h1.2⟩
        rcases (goP_mem v).1 hy with rfl | hy
        · have : ¬ y < x := fun k => hv ⟨rfl, k⟩
          omega
        · exact h1.1 y hy
theorem goP_length (v : Int) : ∀ l : List Int, (goP v l false).length ≤ l.length + 1
  | [] => by simp [goP]
  | x :: l => by
    have := goP_length v l
    unfold goP
    split
    · rw [goP_true]; simp
    · split
      · rw [goP_true]; simp
      · simp only [List.length_cons]; omega
section
variable {l out R : List Int} {k : Nat} {x v : Int} {d : Bool}
theorem goP_here (h : l[k]? = some x) (he : out ++ goP v (l.drop k) d = R) : out ++ goP v (x :: l.drop (k + 1)) d = R := by
  have hk := (List.getElem?_eq_some_iff.1 h)
  obtain ⟨hk1, hk2⟩ := hk
  rw [← hk2, ← List.drop_eq_getElem_cons hk1]
  exact he
theorem goP_eq (h : l[k]? = some x) (hx : x = v) (he : out ++ goP v (l.drop k) d = R) : (out ++ [x]) ++ goP v (l.drop (k + 1)) true = R := by
  have := goP_here h he
  unfold goP at this
  rw [if_pos hx] at this
  rw [List.append_assoc]; exact this
theorem goP_two (h : l[k]? = some x) (hx : x ≠ v) (hv : v < x) (he : out ++ goP v (l.drop k) false = R) : ((out ++ [v]) ++ [x]) ++ goP v (l.drop (k + 1)) true = R := by
  have := goP_here h he
  unfold goP at this
  rw [if_neg hx, if_pos ⟨rfl, hv⟩] at this
  rw [List.append_assoc, List.append_assoc]; exact this
theorem goP_one (h : l[k]? = some x) (hx : x ≠ v) (hv : ¬ (d = false ∧ v < x)) (he : out ++ goP v (l.drop k) d = R) : (out ++ [x]) ++ goP v (l.drop (k + 1)) d = R := by
  have := goP_here h he
  unfold goP at this
  rw [if_neg hx, if_neg hv] at this
  rw [List.append_assoc]; exact this
end
/-- Where something of n bytes begins, or has ended. -/
def Bo (n : Int) (l : List Bp) (b : List Int) : Prop := b.Pairwise (· < ·) ∧ ∀ y, y ∈ b ↔ ∃ r ∈ l, Sb r ∧ r.n = n ∧ (y = r.lo ∨ y = r.hi + 1)
theorem Bo.nil (n : Int) : Bo n [] [] := ⟨List.Pairwise.nil, fun y => by simp⟩
theorem Bo.yes {n : Int} {l : List Bp} {b : List Int} {s : Bp} (h : Bo n l b) (hs : Sb s) (hn : s.n = n) : Bo n (l ++ [s]) (goP (s.hi + 1) (goP s.lo b false) false) :=
  ⟨goP_rise _ (goP_rise _ h.1), fun y => by
    rw [goP_mem, goP_mem, h.2]
    constructor
    · rintro (e | e | ⟨r, hr, k⟩)
      · exact ⟨s, by simp, hs, hn, .inr e⟩
      · exact ⟨s, by simp, hs, hn, .inl e⟩
      · exact ⟨r, by simp [hr], k⟩
    · rintro ⟨r, hr, k1, k2, k3⟩
      rcases List.mem_append.1 hr with hr | hr
      · exact .inr (.inr ⟨r, hr, k1, k2, k3⟩)
      · obtain rfl := List.mem_singleton.1 hr
        rcases k3 with e | e
        · exact .inr (.inl e)
        · exact .inl e⟩
theorem Bo.no {n : Int} {l : List Bp} {b : List Int} {s : Bp} (h : Bo n l b) (hs : ¬ (s.n = n ∧ Sb s)) : Bo n (l ++ [s]) b :=
  ⟨h.1, fun y => by
    rw [h.2]
    constructor
    · rintro ⟨r, hr, k⟩
      exact ⟨r, by simp [hr], k⟩
    · rintro ⟨r, hr, k1, k2, k3⟩
      rcases List.mem_append.1 hr with hr | hr
      · exact ⟨r, hr, k1, k2, k3⟩
      · obtain rfl := List.mem_singleton.1 hr
        exact absurd ⟨k2, k1⟩ hs⟩
end Go.Proofs.Ytkkochjdimegpaa
