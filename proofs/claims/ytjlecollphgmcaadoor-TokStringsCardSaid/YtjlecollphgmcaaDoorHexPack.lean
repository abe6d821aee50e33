/-
  What UnHex answers, as a plain function of lists: blanks do not count, two digits are a byte, a last one alone is followed by 0; the first byte that is neither.
-/
import Derived.Test.YtjlecollphgmcaaDoorHexKind
namespace Go.Proofs.YtjlecollphgmcaaDoor

def kb (b : UInt8) : Int := kz (b.toNat : Int)
def nib (b : UInt8) : Option Nat := if 2 ≤ kb b then some (kb b - 2).toNat else none
def nibs (l : List UInt8) : List Nat := l.filterMap nib
def pack : List Nat → List UInt8
  | [] => []
  | [a] => [UInt8.ofNat (16 * a)]
  | a :: b :: r => UInt8.ofNat (16 * a + b) :: pack r
/-- Is each of them a blank or a digit? -/
def Good (l : List UInt8) : Prop := ∀ b ∈ l, 1 ≤ kb b

theorem kb_bounds (b : UInt8) : 0 ≤ kb b ∧ kb b ≤ 17 := kz_bounds _
theorem nib_lt {b : UInt8} {d : Nat} (h : nib b = some d) : d < 16 := by
  unfold nib at h
  have := kb_bounds b
  split at h
  · cases h; omega
  · cases h
theorem nibs_lt {l : List UInt8} {d : Nat} (h : d ∈ nibs l) : d < 16 := by
  simp only [nibs, List.mem_filterMap] at h
  obtain ⟨b, _, hb⟩ := h
  exact nib_lt hb
theorem nibs_length (l : List UInt8) : (nibs l).length ≤ l.length := List.length_filterMap_le _ _
theorem nibs_append (a b : List UInt8) : nibs (a ++ b) = nibs a ++ nibs b := List.filterMap_append
theorem pack_length : ∀ ds : List Nat, (pack ds).length = (ds.length + 1) / 2
  | [] => rfl
  | [a] => by simp [pack]
  | a :: b :: r => by have := pack_length r; simp only [pack, List.length_cons, this]; omega
theorem pack_even : ∀ (ds : List Nat), ds.length % 2 = 0 → ∀ es, pack (ds ++ es) = pack ds ++ pack es
  | [], _, es => rfl
  | [a], h, es => by simp at h
  | a :: b :: r, h, es => by
    have := pack_even r (by simp only [List.length_cons] at h; omega) es
    simp only [List.cons_append, pack, this]
theorem pack_odd : ∀ (ds : List Nat), ds.length % 2 = 1 → ∃ p a, a ∈ ds ∧ pack ds = p ++ [UInt8.ofNat (16 * a)] ∧ p.length = ds.length / 2 ∧ ∀ d, pack (ds ++ [d]) = p ++ [UInt8.ofNat (16 * a + d)]
  | [], h => by simp at h
  | [a], _ => ⟨[], a, by simp, rfl, by simp, fun d => rfl⟩
  | a :: b :: r, h => by
    obtain ⟨p, x, hx, h1, h2, h3⟩ := pack_odd r (by simp only [List.length_cons] at h; omega)
    refine ⟨UInt8.ofNat (16 * a + b) :: p, x, by simp [hx], by simp [pack, h1], by simp only [List.length_cons, h2]; omega, fun d => ?_⟩
    simp only [List.cons_append, pack, h3]
theorem take_snoc (l : List UInt8) (k : Nat) (h : k < l.length) : l.take (k + 1) = l.take k ++ [l[k]?.getD 0] := by
  rw [List.take_succ_eq_append_getElem h, List.getElem?_eq_getElem h]; rfl
theorem nibs_one (b : UInt8) : nibs [b] = if 2 ≤ kb b then [(kb b - 2).toNat] else [] := by
  unfold nibs nib
  by_cases h : 2 ≤ kb b <;> simp [h]
/-- The first byte that is neither a digit nor a blank; or the end. -/
def bad (l : List UInt8) : Nat := l.findIdx fun b => kb b == 0
theorem bad_le (l : List UInt8) : bad l ≤ l.length := List.findIdx_le_length
theorem bad_of_good {l : List UInt8} (h : Good l) : bad l = l.length := by
  unfold bad
  rw [List.findIdx_eq_length]
  intro b hb
  have := h b hb
  have : kb b ≠ 0 := by omega
  simpa using this
theorem good_of_bad {l : List UInt8} (h : bad l = l.length) : Good l := by
  unfold bad at h
  rw [List.findIdx_eq_length] at h
  intro b hb
  have h1 := h b hb
  have h2 := kb_bounds b
  have h3 : kb b ≠ 0 := by simpa using h1
  omega
theorem bad_at {l : List UInt8} {k : Nat} (hk : k < l.length) (hg : Good (l.take k)) (h : kb (l[k]?.getD 0) = 0) : bad l = k := by
  unfold bad
  rw [List.findIdx_eq hk]
  rw [List.getElem?_eq_getElem hk] at h
  refine ⟨by simpa using h, fun j hj => ?_⟩
  have hm : l[j] ∈ l.take k := by
    rw [List.mem_iff_getElem]
    exact ⟨j, by simp; omega, by simp⟩
  have := hg _ hm
  have : kb l[j] ≠ 0 := by omega
  simpa using this
theorem bad_lt {l : List UInt8} (h : bad l < l.length) : Good (l.take (bad l)) ∧ kb (l[bad l]?.getD 0) = 0 := by
  refine ⟨fun b hb => ?_, ?_⟩
  · rw [List.mem_iff_getElem] at hb
    obtain ⟨j, hj, rfl⟩ := hb
    have hj' : j < bad l := by simp at hj; omega
    have h1 := List.not_of_lt_findIdx (p := fun b => kb b == 0) (xs := l) hj'
    have h2 := kb_bounds l[j]
    have h3 : kb l[j] ≠ 0 := by simpa using h1
    simp only [List.getElem_take]
    omega
  · have := List.findIdx_getElem (p := fun b => kb b == 0) (xs := l) (w := h)
    rw [List.getElem?_eq_getElem h]
    exact (by simpa using this : kb l[List.findIdx (fun b => kb b == 0) l] = 0)
theorem good_snoc {l : List UInt8} {k : Nat} (hk : k < l.length) (hg : Good (l.take k)) (h : 1 ≤ kb (l[k]?.getD 0)) : Good (l.take (k + 1)) := by
  rw [take_snoc l k hk]
  intro b hb
  rcases List.mem_append.1 hb with hb | hb
  · exact hg b hb
  · simp only [List.mem_singleton] at hb
    subst hb
    exact h
theorem good_append {a b : List UInt8} (ha : Good a) (hb : Good b) : Good (a ++ b) := fun x hx => by
  rcases List.mem_append.1 hx with h | h
  · exact ha x h
  · exact hb x h

/-- What UnHex hands back: bytes, a place, an error. -/
def unB (l : List UInt8) : List UInt8 := if bad l < l.length then [] else pack (nibs l)
def unN (l : List UInt8) : Int := (bad l : Int)
def unE (l : List UInt8) : Int := if bad l < l.length then 1 else 0
theorem un_bad {l : List UInt8} (h : bad l < l.length) : unB l = [] ∧ unN l = bad l ∧ unE l = 1 := by simp [unB, unN, unE, h]
theorem un_good {l : List UInt8} (h : Good l) : unB l = pack (nibs l) ∧ unN l = l.length ∧ unE l = 0 := by
  have := bad_of_good h
  simp [unB, unN, unE, this]
end Go.Proofs.YtjlecollphgmcaaDoor
