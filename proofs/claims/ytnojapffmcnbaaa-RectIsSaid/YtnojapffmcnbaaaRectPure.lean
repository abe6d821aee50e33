/-
  Layer 6 as plain lists, the last byte first: bounds of each byte, how many codes there are, which one has a number, what one within another has.
-/
import Derived.Test.YtnojapffmcnbaaaCodeL
namespace Go.Proofs.Ytnojapffmcnbaaa

/-- Bounds of each byte, the last byte first, are in order, and bytes. -/
def Bnd (p : List (Nat × Nat)) : Prop := ∀ q ∈ p, q.1 ≤ q.2 ∧ q.2 < 256
/-- How many codes there are. -/
def szR : List (Nat × Nat) → Nat
  | [] => 1
  | q :: t => (q.2 - q.1 + 1) * szR t
/-- The bytes of that of a number. -/
def ntR : List (Nat × Nat) → Nat → List Nat
  | [], _ => []
  | q :: t, k => (q.1 + k % (q.2 - q.1 + 1)) :: ntR t (k / (q.2 - q.1 + 1))
/-- Their number. -/
def nuR : List Nat → Nat
  | [] => 0
  | d :: t => d + 256 * nuR t
/-- Are bytes within bounds? -/
def wiR : List (Nat × Nat) → List Nat → Bool
  | [], [] => true
  | q :: t, d :: u => decide (q.1 ≤ d) && decide (d ≤ q.2) && wiR t u
  | _, _ => false
theorem szR_pos : ∀ p : List (Nat × Nat), 1 ≤ szR p
  | [] => Nat.le_refl _
  | _ :: t => Nat.mul_pos (Nat.succ_pos _) (szR_pos t)
theorem szR_le : ∀ {p : List (Nat × Nat)}, Bnd p → szR p ≤ 256 ^ p.length
  | [], _ => Nat.le_refl _
  | q :: t, h => by
    have h1 := h q List.mem_cons_self
    have h2 := szR_le (p := t) (fun x hx => h x (List.mem_cons_of_mem _ hx))
    rw [szR, List.length_cons, Nat.pow_succ, Nat.mul_comm]
    exact Nat.mul_le_mul h2 (by omega)
theorem ntR_length : ∀ (p : List (Nat × Nat)) (k : Nat), (ntR p k).length = p.length
  | [], _ => rfl
  | q :: t, k => by rw [ntR, List.length_cons, List.length_cons, ntR_length t]
theorem ntR_in : ∀ {p : List (Nat × Nat)} (k : Nat), Bnd p → wiR p (ntR p k) = true
  | [], _, _ => rfl
  | q :: t, k, h => by
    have h1 := h q List.mem_cons_self
    have h2 := ntR_in (p := t) (k / (q.2 - q.1 + 1)) (fun x hx => h x (List.mem_cons_of_mem _ hx))
    have h3 : k % (q.2 - q.1 + 1) < q.2 - q.1 + 1 := Nat.mod_lt k (Nat.succ_pos _)
    rw [ntR, wiR, h2, Bool.and_true, Bool.and_eq_true, decide_eq_true_eq, decide_eq_true_eq]
    exact ⟨by omega, by omega⟩
theorem wiR_small : ∀ {p : List (Nat × Nat)} {u : List Nat}, Bnd p → wiR p u = true → ∀ d ∈ u, d < 256
  | [], [], _, _, d, hd => by cases hd
  | [], _ :: _, _, hw, _, _ => by cases hw
  | _ :: _, [], _, hw, _, _ => by cases hw
  | q :: t, c :: u, h, hw, d, hd => by
    rw [wiR, Bool.and_eq_true, Bool.and_eq_true, decide_eq_true_eq, decide_eq_true_eq] at hw
    have h1 := h q List.mem_cons_self
    rcases List.mem_cons.1 hd with rfl | hd
    · omega
    · exact wiR_small (p := t) (fun x hx => h x (List.mem_cons_of_mem _ hx)) hw.2 d hd
theorem wiR_length : ∀ {p : List (Nat × Nat)} {u : List Nat}, wiR p u = true → u.length = p.length
  | [], [], _ => rfl
  | [], _ :: _, hw => by cases hw
  | _ :: _, [], hw => by cases hw
  | q :: t, c :: u, hw => by
    rw [wiR, Bool.and_eq_true] at hw
    rw [List.length_cons, List.length_cons, wiR_length hw.2]
/-- A greater number has a greater code. -/
theorem ntR_lt : ∀ {p : List (Nat × Nat)} {k m : Nat}, Bnd p → k < m → m < szR p → nuR (ntR p k) < nuR (ntR p m)
  | [], k, m, _, hk, hm => by rw [szR] at hm; omega
  | q :: t, k, m, h, hk, hm => by
    have h1 := h q List.mem_cons_self
    have ht : Bnd t := fun x hx => h x (List.mem_cons_of_mem _ hx)
    have hw : 0 < q.2 - q.1 + 1 := Nat.succ_pos _
    rw [ntR, ntR, nuR, nuR]
    generalize hww : q.2 - q.1 + 1 = w at *
    have a1 := Nat.mod_lt k hw
    have a2 := Nat.mod_lt m hw
    have hle : k / w ≤ m / w := Nat.div_le_div_right (Nat.le_of_lt hk)
    rcases Nat.lt_or_ge (k / w) (m / w) with hq | hq
    · have hmt : m / w < szR t := by
        rw [szR, hww] at hm
        exact Nat.div_lt_of_lt_mul hm
      have := ntR_lt ht hq hmt
      omega
    · have heq : k / w = m / w := by omega
      rw [heq]
      have e1 := Nat.div_add_mod k w
      have e2 := Nat.div_add_mod m w
      rw [heq] at e1
      omega
/-- The first one, and the last. -/
theorem ntR_first : ∀ p : List (Nat × Nat), ntR p 0 = p.map (·.1)
  | [] => rfl
  | q :: t => by
    have e1 : 0 % (q.2 - q.1 + 1) = 0 := Nat.zero_mod _
    have e2 : 0 / (q.2 - q.1 + 1) = 0 := Nat.zero_div _
    rw [ntR, e1, e2, ntR_first t, List.map_cons, Nat.add_zero]
theorem ntR_last : ∀ {p : List (Nat × Nat)}, Bnd p → ntR p (szR p - 1) = p.map (·.2)
  | [], _ => rfl
  | q :: t, h => by
    have h1 := h q List.mem_cons_self
    have ht : Bnd t := fun x hx => h x (List.mem_cons_of_mem _ hx)
    have hs := szR_pos t
    have hw : 0 < q.2 - q.1 + 1 := Nat.succ_pos _
    have key : szR (q :: t) - 1 = (szR t - 1) * (q.2 - q.1 + 1) + (q.2 - q.1) := by
      rw [szR]
      obtain ⟨s, hs'⟩ : ∃ s, szR t = s + 1 := ⟨szR t - 1, by omega⟩
      rw [hs', Nat.mul_comm, Nat.succ_mul]
      simp only [Nat.add_sub_cancel]
      omega
    have k1 : ((szR t - 1) * (q.2 - q.1 + 1) + (q.2 - q.1)) % (q.2 - q.1 + 1) = q.2 - q.1 := by rw [Nat.add_comm, Nat.add_mul_mod_self_right]; exact Nat.mod_eq_of_lt (by omega)
    have k2 : ((szR t - 1) * (q.2 - q.1 + 1) + (q.2 - q.1)) / (q.2 - q.1 + 1) = szR t - 1 := by rw [Nat.add_comm, Nat.add_mul_div_right _ _ hw, Nat.div_eq_of_lt (by omega), Nat.zero_add]
    rw [key, ntR, k1, k2, ntR_last ht, List.map_cons]
    congr 1
    omega
/-- One within another. -/
def hoR : List (Nat × Nat) → List (Nat × Nat) → Bool
  | [], [] => true
  | q :: t, r :: u => decide (q.1 ≤ r.1) && decide (r.2 ≤ q.2) && hoR t u
  | _, _ => false
theorem hoR_in : ∀ {p r : List (Nat × Nat)} {u : List Nat}, hoR p r = true → wiR r u = true → wiR p u = true
  | [], [], [], _, _ => rfl
  | [], [], _ :: _, _, hw => by cases hw
  | [], _ :: _, _, hh, _ => by cases hh
  | _ :: _, [], _, hh, _ => by cases hh
  | _ :: _, _ :: _, [], _, hw => by cases hw
  | q :: t, r :: s, d :: u, hh, hw => by
    rw [hoR, Bool.and_eq_true, Bool.and_eq_true, decide_eq_true_eq, decide_eq_true_eq] at hh
    rw [wiR, Bool.and_eq_true, Bool.and_eq_true, decide_eq_true_eq, decide_eq_true_eq] at hw ⊢
    exact ⟨⟨by omega, by omega⟩, hoR_in hh.2 hw.2⟩
theorem hoR_sz : ∀ {p r : List (Nat × Nat)}, Bnd r → hoR p r = true → szR r ≤ szR p
  | [], [], _, _ => Nat.le_refl _
  | [], _ :: _, _, hh => by cases hh
  | _ :: _, [], _, hh => by cases hh
  | q :: t, r :: s, hb, hh => by
    rw [hoR, Bool.and_eq_true, Bool.and_eq_true, decide_eq_true_eq, decide_eq_true_eq] at hh
    have h1 := hb r List.mem_cons_self
    rw [szR, szR]
    exact Nat.mul_le_mul (by omega) (hoR_sz (fun x hx => hb x (List.mem_cons_of_mem _ hx)) hh.2)
theorem hoR_refl : ∀ p : List (Nat × Nat), hoR p p = true
  | [] => rfl
  | q :: t => by rw [hoR, hoR_refl t]; simp
theorem hoR_trans : ∀ {a b c : List (Nat × Nat)}, hoR a b = true → hoR b c = true → hoR a c = true
  | [], [], [], _, _ => rfl
  | [], [], _ :: _, _, h => by cases h
  | [], _ :: _, _, h, _ => by cases h
  | _ :: _, [], _, h, _ => by cases h
  | _ :: _, _ :: _, [], _, h => by cases h
  | q :: t, r :: s, x :: u, h1, h2 => by
    rw [hoR, Bool.and_eq_true, Bool.and_eq_true, decide_eq_true_eq, decide_eq_true_eq] at h1 h2 ⊢
    exact ⟨⟨by omega, by omega⟩, hoR_trans h1.2 h2.2⟩
theorem hoR_anti : ∀ {a b : List (Nat × Nat)}, hoR a b = true → hoR b a = true → a = b
  | [], [], _, _ => rfl
  | [], _ :: _, h, _ => by cases h
  | _ :: _, [], h, _ => by cases h
  | q :: t, r :: s, h1, h2 => by
    rw [hoR, Bool.and_eq_true, Bool.and_eq_true, decide_eq_true_eq, decide_eq_true_eq] at h1 h2
    rw [hoR_anti h1.2 h2.2]
    congr 1
    exact Prod.ext (by omega) (by omega)
end Go.Proofs.Ytnojapffmcnbaaa
