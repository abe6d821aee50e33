/-
  Layer 6, plainly: what a list in order becomes where each run of the same ones is one; who may hold whom in it.
-/
import Derived.Test.YtnojapffmcnbaaaRectSort
namespace Go.Proofs.Ytnojapffmcnbaaa
open Go.Lib

theorem ltC_anti {a b : Rc} (h1 : ltC a b = false) (h2 : ltC b a = false) : a = b := by
  apply Classical.byContradiction
  intro h
  rcases hol.tot a b h with e | e
  · rw [h1] at e; cases e
  · rw [h2] at e; cases e
theorem ltC_le_trans {a b c : Rc} (h1 : ltC b a = false) (h2 : ltC c b = false) : ltC c a = false := by
  cases h : ltC c a with
  | false => rfl
  | true =>
    have q := (ltC_iff _ _).1 h
    have q1 : ¬ _ := fun e => Bool.noConfusion (((ltC_iff b a).2 e).symm.trans h1)
    have q2 : ¬ _ := fun e => Bool.noConfusion (((ltC_iff c b).2 e).symm.trans h2)
    exact absurd q (by omega)
theorem comp_ord (d : Array Rc) (hs : ∀ i j, i < j → j < d.size → ltC d[j]! d[i]! = false) : ∀ m, m ≤ d.size → (∀ x, x ∈ compactUpTo d m ↔ ∃ j, j < m ∧ d[j]! = x) ∧ (compactUpTo d m).Pairwise (fun a b => ltC a b = true)
  | 0, _ => ⟨fun x => by simp [compactUpTo], by simp [compactUpTo]⟩
  | m + 1, hm => by
    obtain ⟨h1, h2⟩ := comp_ord d hs m (by omega)
    rw [compactUpTo_succ]
    cases hk : keeps d m with
    | false =>
      have hk' : m ≠ 0 ∧ d[m]! = d[m - 1]! := by
        simp [keeps] at hk
        exact hk
      simp only [Bool.false_eq_true, if_false, List.append_nil]
      refine ⟨fun x => ?_, h2⟩
      rw [h1 x]
      constructor
      · rintro ⟨j, hj, e⟩
        exact ⟨j, by omega, e⟩
      · rintro ⟨j, hj, e⟩
        by_cases ej : j = m
        · subst ej
          exact ⟨j - 1, by omega, by rw [← hk'.2]; exact e⟩
        · exact ⟨j, by omega, e⟩
    | true =>
      simp only [if_true]
      refine ⟨fun x => ?_, ?_⟩
      · rw [List.mem_append, h1 x, List.mem_singleton]
        constructor
        · rintro (⟨j, hj, e⟩ | e)
          · exact ⟨j, by omega, e⟩
          · exact ⟨m, by omega, e.symm⟩
        · rintro ⟨j, hj, e⟩
          by_cases ej : j = m
          · subst ej
            exact .inr e.symm
          · exact .inl ⟨j, by omega, e⟩
      · rw [List.pairwise_append]
        refine ⟨h2, List.pairwise_singleton _ _, fun a ha b hb => ?_⟩
        rw [List.mem_singleton] at hb
        subst hb
        obtain ⟨j, hj, rfl⟩ := (h1 a).1 ha
        have hne : d[j]! ≠ d[m]! := fun e => by
          have hk' : d[m]! ≠ d[m - 1]! := by
            simp [keeps] at hk
            rcases hk with h | h
            · omega
            · exact h
          apply hk'
          have l1 : ltC d[m]! d[m - 1]! = false := hs (m - 1) m (by omega) (by omega)
          have l2 : ltC d[m - 1]! d[m]! = false := by
            rw [← e]
            by_cases ej : j = m - 1
            · subst ej; exact hol.irr _
            · exact hs j (m - 1) (by omega) (by omega)
          exact ltC_anti l1 l2
        rcases hol.tot _ _ hne with h | h
        · exact h
        · have := hs j m hj (by omega)
          rw [this] at h
          cases h
/-- Each run made one, of a list in order: in order, and the same ones. -/
theorem comp_list (l : List Rc) (hs : l.Pairwise (fun x y => ltC y x = false)) : (∀ x, x ∈ compactUpTo l.toArray l.toArray.size ↔ x ∈ l) ∧ (compactUpTo l.toArray l.toArray.size).Pairwise (fun a b => ltC a b = true) := by
  have h := comp_ord l.toArray (fun i j hij hj => by
    have hj' : j < l.length := by simpa using hj
    rw [getElem!_pos l.toArray j hj, getElem!_pos l.toArray i (by omega)]
    have := List.pairwise_iff_getElem.1 hs i j (by omega) hj' hij
    simpa using this) l.toArray.size (Nat.le_refl _)
  refine ⟨fun x => ?_, h.2⟩
  rw [h.1 x]
  constructor
  · rintro ⟨j, hj, e⟩
    rw [getElem!_pos l.toArray j hj] at e
    rw [← e]
    simp
  · intro hx
    obtain ⟨j, hj, e⟩ := List.getElem_of_mem hx
    refine ⟨j, by simpa using hj, ?_⟩
    rw [getElem!_pos l.toArray j (by simpa using hj)]
    simpa using e
/-- One that holds another one is as long, begins no later and ends no sooner. -/
theorem nuR_mono : ∀ {u v : List Nat}, u.length = v.length → (∀ (j : Nat) (a b : Nat), u[j]? = some a → v[j]? = some b → a ≤ b) → nuR u ≤ nuR v
  | [], [], _, _ => Nat.le_refl _
  | [], _ :: _, h, _ => by simp at h
  | _ :: _, [], h, _ => by simp at h
  | a :: u, b :: v, h, hj => by
    have h0 := hj 0 a b rfl rfl
    have ih := nuR_mono (u := u) (v := v) (by simpa using h) (fun j x y hx hy => hj (j + 1) x y (by rw [List.getElem?_cons_succ]; exact hx) (by rw [List.getElem?_cons_succ]; exact hy))
    rw [nuR, nuR]
    omega
theorem le_of_bytes {n a b : Int} (ha : saneB n a = true) (hb : saneB n b = true) (h : ∀ j, j < n.toNat → byJ a j ≤ byJ b j) : a ≤ b := by
  have e1 := code_nu ha
  have e2 := code_nu hb
  have := nuR_mono (u := revN (codeL n a)) (v := revN (codeL n b)) (by rw [revN_length, revN_length, code_len ha, code_len hb]) (fun j x y hx hy => by
    have hj : j < n.toNat := by
      have := (List.getElem?_eq_some_iff.1 hx).1
      rwa [revN_length, code_len ha] at this
    rw [code_at ha hj] at hx
    rw [code_at hb hj] at hy
    cases hx
    cases hy
    have := h j hj
    have := byJ_bnd a j
    omega)
  omega
theorem hoC_ends {a b : Rc} (h : hoC a b = true) : a.n = b.n ∧ a.lo ≤ b.lo ∧ b.hi ≤ a.hi := by
  have q := (hoC_iff a b).1 h
  rw [hoC_by, Bool.and_eq_true, Bool.and_eq_true] at h
  obtain ⟨⟨hs, h1⟩, h2⟩ := h
  have hb := (saneR_iff b).1 hs
  have ha := (saneR_iff a).1 q.1
  rw [← q.2.2.1] at h1 h2
  have s1 : saneB a.n b.lo = true := by rw [q.2.2.1]; exact hb.1
  have s2 : saneB a.n b.hi = true := by rw [q.2.2.1]; exact hb.2.1
  have b1 := (inC_by q.1 s1).1 h1
  have b2 := (inC_by q.1 s2).1 h2
  exact ⟨q.2.2.1, le_of_bytes ha.1 s1 (fun j hj => (b1 j hj).1), le_of_bytes s2 ha.2.1 (fun j hj => (b2 j hj).2)⟩
end Go.Proofs.Ytnojapffmcnbaaa
