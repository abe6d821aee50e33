/-
  Layer 8 as plain lists: rows.
-/
import Derived.Test.YtkkochjdimegpaaDestOver
namespace Go.Proofs.Ytkkochjdimegpaa

/-- How far an entry goes till its codes or its last units come to a multiple of 256. -/
def rowE (b : Bp) : Int := min b.hi (min (b.lo + (255 - b.lo % 256)) (b.lo + (255 - lastU b.u % 256)))
theorem rowE_spec (b : Bp) : rowE b ≤ b.hi ∧ rowE b ≤ b.lo + (255 - b.lo % 256) ∧ rowE b ≤ b.lo + (255 - lastU b.u % 256) ∧ (rowE b = b.hi ∨ rowE b = b.lo + (255 - b.lo % 256) ∨ rowE b = b.lo + (255 - lastU b.u % 256)) := by
  unfold rowE
  omega
/-- An entry's rows. -/
def cutB (b : Bp) : List Bp := if rowE b < b.hi then partB b b.lo (rowE b) :: cutB (partB b (rowE b + 1) b.hi) else [b]
termination_by (b.hi - b.lo).toNat
decreasing_by
  have := rowE_spec b
  show (b.hi - (rowE b + 1)).toNat < (b.hi - b.lo).toNat
  omega
def rowsB (t : List Bp) : List Bp := t.flatMap cutB
theorem cutB_more {b : Bp} (h : rowE b < b.hi) : cutB b = partB b b.lo (rowE b) :: cutB (partB b (rowE b + 1) b.hi) := by
  rw [cutB, if_pos h]
theorem cutB_done {b : Bp} (h : ¬ rowE b < b.hi) : cutB b = [b] := by
  rw [cutB, if_neg h]
/-- Within a row nothing passes a multiple. -/
def rowOk (x : Bp) : Prop := x.lo / 256 = x.hi / 256 ∧ lastU x.u / 256 = (lastU x.u + (x.hi - x.lo)) / 256
theorem partB_last {s : Bp} (hs : okU s.u) (lo hi : Int) : lastU (partB s lo hi).u = lastU s.u + (lo - s.lo) := lastU_goB hs lo
theorem cutB_spec : ∀ (k : Nat) (b : Bp), (b.hi - b.lo).toNat ≤ k → Sb b →
    (∀ x ∈ cutB b, Sb x ∧ rowOk x) ∧ (∀ n v, lastB (cutB b) n v = toB b n v) ∧ ((cutB b).length : Int) ≤ (b.hi / 256 - b.lo / 256) + ((lastU b.u + (b.hi - b.lo)) / 256 - lastU b.u / 256) + 1 ∧ 0 < (cutB b).length := by
  intro k
  induction k with
  | zero =>
    intro b hk hb
    have hl := hb.2.2.1
    have h : ¬ rowE b < b.hi := by have := rowE_spec b; omega
    rw [cutB_done h]
    refine ⟨fun x hx => ?_, fun n v => by simp [lastB], by simp; omega, by simp⟩
    rw [List.mem_singleton] at hx
    subst hx
    exact ⟨hb, by omega, by rw [show x.hi - x.lo = 0 by omega]; simp⟩
  | succ k ih =>
    intro b hk hb
    have hl := hb.2.2.1
    have hE := rowE_spec b
    have hu := hb.2.2.2.1.last
    by_cases h : rowE b < b.hi
    · have hlo : b.lo ≤ rowE b := by omega
      have s1 : Sb (partB b b.lo (rowE b)) := partB_sn hb (Int.le_refl _) hlo (by omega)
      have s2 : Sb (partB b (rowE b + 1) b.hi) := partB_sn hb (by omega) (by omega) (Int.le_refl _)
      obtain ⟨i1, i2, i3, i4⟩ := ih (partB b (rowE b + 1) b.hi) (by show (b.hi - (rowE b + 1)).toNat ≤ k; omega) s2
      rw [cutB_more h]
      have e1 := partB_last hb.2.2.2.1 (rowE b + 1) b.hi
      have e0 := partB_last hb.2.2.2.1 b.lo (rowE b)
      refine ⟨fun x hx => ?_, fun n v => ?_, ?_, by simp⟩
      · rcases List.mem_cons.1 hx with rfl | hx
        · refine ⟨s1, ?_, ?_⟩
          · show b.lo / 256 = rowE b / 256
            omega
          · rw [e0]
            show (lastU b.u + (b.lo - b.lo)) / 256 = (lastU b.u + (b.lo - b.lo) + (rowE b - b.lo)) / 256
            omega
        · exact i1 x hx
      · rw [lastB, i2, partB_to hb (m := rowE b + 1) (by omega) (by omega), show rowE b + 1 - 1 = rowE b by omega]
      · rw [e1] at i3
        simp only [List.length_cons]
        have j3 : ((cutB (partB b (rowE b + 1) b.hi)).length : Int) ≤ (b.hi / 256 - (rowE b + 1) / 256) + ((lastU b.u + (rowE b + 1 - b.lo) + (b.hi - (rowE b + 1))) / 256 - (lastU b.u + (rowE b + 1 - b.lo)) / 256) + 1 := i3
        omega
    · rw [cutB_done h]
      have e : rowE b = b.hi := by omega
      refine ⟨fun x hx => ?_, fun n v => by simp [lastB], by simp; omega, by simp⟩
      rw [List.mem_singleton] at hx
      subst hx
      exact ⟨hb, by omega, by omega⟩
theorem cut_all {b : Bp} (hb : Sb b) : (∀ x ∈ cutB b, Sb x ∧ rowOk x) ∧ (∀ n v, lastB (cutB b) n v = toB b n v) ∧ (cutB b).length ≤ 600 ∧ 0 < (cutB b).length := by
  obtain ⟨h1, h2, h3, h4⟩ := cutB_spec _ b (Nat.le_refl _) hb
  have hu := hb.2.2.2.1.last
  have h5 := hb.2.2.2.2
  have h6 := hb.2.2.1
  have h7 := saneB_top hb.1
  exact ⟨h1, h2, by omega, h4⟩
theorem rowsB_last {t : List Bp} (ht : ∀ b ∈ t, Sb b) (n v : Int) : lastB (rowsB t) n v = lastB t n v := by
  induction t with
  | nil => rfl
  | cons b t ih =>
    show lastB (cutB b ++ rowsB t) n v = _
    rw [lastB_append, ih (fun x hx => ht x (List.mem_cons_of_mem _ hx)), (cut_all (ht b List.mem_cons_self)).2.1, lastB]
theorem rowsB_ok {t : List Bp} (ht : ∀ b ∈ t, Sb b) : ∀ x ∈ rowsB t, Sb x ∧ rowOk x := fun x hx => by
  obtain ⟨b, hb, hx⟩ := List.mem_flatMap.1 hx
  exact (cut_all (ht b hb)).1 x hx
theorem rowsB_len {t : List Bp} (ht : ∀ b ∈ t, Sb b) : t.length ≤ (rowsB t).length ∧ (rowsB t).length ≤ 600 * t.length := by
  induction t with
  | nil => simp [rowsB]
  | cons b t ih =>
    have h1 := ih (fun x hx => ht x (List.mem_cons_of_mem _ hx))
    have h2 := cut_all (ht b List.mem_cons_self)
    show _ ≤ (cutB b ++ rowsB t).length ∧ (cutB b ++ rowsB t).length ≤ _
    simp only [List.length_append, List.length_cons]
    omega
theorem rowsB_snoc (t : List Bp) (b : Bp) : rowsB (t ++ [b]) = rowsB t ++ cutB b := by simp [rowsB]
end Go.Proofs.Ytkkochjdimegpaa
