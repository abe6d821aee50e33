/-
  Layer 6, plainly: how Size, Nth and Fits come to their answers, step by step.
-/
import Derived.Test.YtnojapffmcnbaaaRectPro3
namespace Go.Proofs.Ytnojapffmcnbaaa
open Go.RowKit

theorem drop_cons {α : Type} {l : List α} {j : Nat} {x : α} (h : l[j]? = some x) : l.drop j = x :: l.drop (j + 1) := by
  obtain ⟨hj, e⟩ := List.getElem?_eq_some_iff.1 h
  rw [List.drop_eq_getElem_cons hj, e]
theorem szR_drop {p : List (Nat × Nat)} {j : Nat} {q : Nat × Nat} (h : p[j]? = some q) : szR (p.drop j) = (q.2 - q.1 + 1) * szR (p.drop (j + 1)) := by rw [drop_cons h, szR]
/-- What is left of a number behind so many bytes. -/
def kJ : List (Nat × Nat) → Nat → Nat → Nat
  | _, k, 0 => k
  | [], k, _ + 1 => k
  | q :: t, k, j + 1 => kJ t (k / (q.2 - q.1 + 1)) j
theorem kJ_step : ∀ {p : List (Nat × Nat)} {k j : Nat} {q : Nat × Nat}, p[j]? = some q → kJ p k (j + 1) = kJ p k j / (q.2 - q.1 + 1)
  | [], _, _, _, h => by simp at h
  | a :: t, k, 0, q, h => by
    rw [List.getElem?_cons_zero] at h
    cases h
    cases t <;> rfl
  | a :: t, k, j + 1, q, h => by
    rw [List.getElem?_cons_succ] at h
    rw [kJ, kJ]
    exact kJ_step h
theorem ntR_at : ∀ {p : List (Nat × Nat)} {k j : Nat} {q : Nat × Nat}, p[j]? = some q → (ntR p k)[j]? = some (q.1 + kJ p k j % (q.2 - q.1 + 1))
  | [], _, _, _, h => by simp at h
  | a :: t, k, 0, q, h => by
    rw [List.getElem?_cons_zero] at h
    cases h
    rw [ntR, List.getElem?_cons_zero, kJ]
  | a :: t, k, j + 1, q, h => by
    rw [List.getElem?_cons_succ] at h
    rw [ntR, List.getElem?_cons_succ, kJ]
    exact ntR_at h
theorem nuR_take : ∀ {u : List Nat} {j d : Nat}, u[j]? = some d → nuR (u.take (j + 1)) = nuR (u.take j) + d * 256 ^ j
  | [], _, _, h => by simp at h
  | a :: t, 0, d, h => by
    rw [List.getElem?_cons_zero] at h
    cases h
    simp [nuR]
  | a :: t, j + 1, d, h => by
    rw [List.getElem?_cons_succ] at h
    rw [List.take_succ_cons, List.take_succ_cons, nuR, nuR, nuR_take h, Nat.pow_succ, Nat.mul_add, ← Nat.add_assoc]
    congr 1
    rw [Nat.mul_comm (256 ^ j) 256, Nat.mul_left_comm]
theorem nuR_lt {u : List Nat} (h : ∀ d ∈ u, d < 256) (j : Nat) : nuR (u.take j) < 256 ^ j := by
  have h1 := (nu_be (u := u.take j) (fun d hd => h d (List.mem_of_mem_take hd))).2
  exact Nat.lt_of_lt_of_le h1 (Nat.pow_le_pow_right (by decide) (by rw [List.length_take]; omega))
/-- How many bytes fit, from the first one on. -/
def fitN : List (Nat × Nat) → List Nat → Nat
  | q :: t, d :: u => if q.1 ≤ d ∧ d ≤ q.2 then fitN t u + 1 else 0
  | _, _ => 0
theorem fitN_nil (p : List (Nat × Nat)) : fitN p [] = 0 := by cases p <;> rfl
theorem fitN_none (u : List Nat) : fitN [] u = 0 := by cases u <;> rfl
theorem fitN_yes {p : List (Nat × Nat)} {u : List Nat} {k d : Nat} {q : Nat × Nat} (h1 : p[k]? = some q) (h2 : u[k]? = some d) (h3 : q.1 ≤ d ∧ d ≤ q.2) : fitN (p.drop k) (u.drop k) = fitN (p.drop (k + 1)) (u.drop (k + 1)) + 1 := by
  rw [drop_cons h1, drop_cons h2, fitN, if_pos h3]
theorem fitN_no {p : List (Nat × Nat)} {u : List Nat} {k d : Nat} {q : Nat × Nat} (h1 : p[k]? = some q) (h2 : u[k]? = some d) (h3 : ¬ (q.1 ≤ d ∧ d ≤ q.2)) : fitN (p.drop k) (u.drop k) = 0 := by
  rw [drop_cons h1, drop_cons h2, fitN, if_neg h3]
theorem fitN_le : ∀ (p : List (Nat × Nat)) (u : List Nat), fitN p u ≤ p.length ∧ fitN p u ≤ u.length
  | [], u => by rw [fitN_none]; exact ⟨Nat.zero_le _, Nat.zero_le _⟩
  | _ :: _, [] => by rw [fitN_nil]; exact ⟨Nat.zero_le _, Nat.zero_le _⟩
  | q :: t, d :: u => by
    have ih := fitN_le t u
    rw [fitN, List.length_cons, List.length_cons]
    split <;> omega
/-- Bytes behind change nothing, unless all fit so far. -/
theorem fitN_more : ∀ (p : List (Nat × Nat)) (u m : List Nat), fitN p u ≤ fitN p (u ++ m) ∧ (fitN p u ≠ u.length → fitN p (u ++ m) = fitN p u) ∧ (p.length ≤ u.length → fitN p (u ++ m) = fitN p u)
  | [], u, m => by rw [fitN_none, fitN_none]; exact ⟨Nat.le_refl _, fun _ => rfl, fun _ => rfl⟩
  | q :: t, [], m => by
    rw [fitN_nil]
    refine ⟨Nat.zero_le _, fun h => absurd rfl h, fun h => ?_⟩
    rw [List.length_cons, List.length_nil] at h
    omega
  | q :: t, d :: u, m => by
    have ih := fitN_more t u m
    rw [List.cons_append, fitN, fitN, List.length_cons, List.length_cons]
    split
    · refine ⟨by omega, fun h => ?_, fun h => ?_⟩
      · rw [ih.2.1 (by omega)]
      · rw [ih.2.2 (by omega)]
    · exact ⟨Nat.le_refl _, fun _ => rfl, fun _ => rfl⟩
/-- All fit just if they are within. -/
theorem fitN_all : ∀ (p : List (Nat × Nat)) (u : List Nat), p.length = u.length → (fitN p u = p.length ↔ ∀ (j : Nat) (q : Nat × Nat) (d : Nat), p[j]? = some q → u[j]? = some d → q.1 ≤ d ∧ d ≤ q.2)
  | [], [], _ => by simp [fitN]
  | [], _ :: _, h => by simp at h
  | _ :: _, [], h => by simp at h
  | q :: t, d :: u, h => by
    have ih := fitN_all t u (by simpa using h)
    have hl := fitN_le t u
    rw [fitN, List.length_cons]
    constructor
    · intro h1
      by_cases hq : q.1 ≤ d ∧ d ≤ q.2
      · rw [if_pos hq] at h1
        have h2 := ih.1 (by omega)
        intro j q' d' e1 e2
        cases j with
        | zero =>
          rw [List.getElem?_cons_zero] at e1 e2
          cases e1
          cases e2
          exact hq
        | succ j =>
          rw [List.getElem?_cons_succ] at e1 e2
          exact h2 j q' d' e1 e2
      · rw [if_neg hq] at h1
        omega
    · intro h1
      rw [if_pos (h1 0 q d rfl rfl), ih.2 (fun j q' d' e1 e2 => h1 (j + 1) q' d' (by rw [List.getElem?_cons_succ]; exact e1) (by rw [List.getElem?_cons_succ]; exact e2))]
/-- How many bytes fit. -/
def fitC (r : Rc) (l : List UInt8) : Nat := if saneR r = true then fitN (prs r).reverse (l.map (·.toNat)) else 0
theorem fitC_le (r : Rc) (l : List UInt8) : fitC r l ≤ l.length := by
  unfold fitC
  split
  · have := (fitN_le (prs r).reverse (l.map (·.toNat))).2
    rwa [List.length_map] at this
  · exact Nat.zero_le _
theorem rev_at {α : Type} {l : List α} {k : Nat} (h : k < l.length) : l.reverse[k]? = l[l.length - 1 - k]? := List.getElem?_reverse h
theorem prs_rev {r : Rc} (h : saneR r = true) {k : Nat} (hk : k < r.n.toNat) : (prs r).reverse[k]? = some ((byJ r.lo (r.n.toNat - 1 - k)).toNat, (byJ r.hi (r.n.toNat - 1 - k)).toNat) := by
  have h0 := (saneR_iff r).1 h
  rw [rev_at (by rw [prs_len h]; exact hk), prs_len h]
  exact prs_at h0.1 h0.2.1 (by omega)
end Go.Proofs.Ytnojapffmcnbaaa
