/-
  Plain facts of digits: what is written by digits is read again; parts; small letters; one blank more.
-/
import Derived.Test.YtjlecollphgmcaaDoorHexPack
import Derived.Test.YtjlecollphgmcaaDoorHexHex
namespace Go.Proofs.YtjlecollphgmcaaDoor

theorem kb_hd_fin : ∀ n : Fin 16, kb (hd n.val) = (n.val : Int) + 2 := by decide
theorem kb_hd {n : Nat} (h : n < 16) : kb (hd n) = (n : Int) + 2 := kb_hd_fin ⟨n, h⟩
theorem nib_hd {n : Nat} (h : n < 16) : nib (hd n) = some n := by
  have := kb_hd h
  unfold nib
  rw [if_pos (by omega), this]
  congr 1
  omega
theorem hi_lt (b : UInt8) : b.toNat / 16 < 16 := by have := b.toNat_lt; omega
theorem lo_lt (b : UInt8) : b.toNat % 16 < 16 := by omega
theorem nibs_hexL (l : List UInt8) : nibs (hexL l) = l.flatMap fun b => [b.toNat / 16, b.toNat % 16] := by
  induction l with
  | nil => rfl
  | cons b l ih =>
    have e : hexL (b :: l) = hx b ++ hexL l := rfl
    rw [e, nibs_append, ih]
    simp only [nibs, hx, List.filterMap_cons, nib_hd (hi_lt b), nib_hd (lo_lt b), List.filterMap_nil, List.flatMap_cons]
theorem nibs_hexL_length (l : List UInt8) : (nibs (hexL l)).length = 2 * l.length := by
  rw [nibs_hexL]
  induction l with
  | nil => rfl
  | cons b l ih => simp only [List.flatMap_cons, List.length_append, ih, List.length_cons, List.length_nil]; omega
theorem pack_hexL (l : List UInt8) : pack (nibs (hexL l)) = l := by
  rw [nibs_hexL]
  induction l with
  | nil => rfl
  | cons b l ih =>
    simp only [List.flatMap_cons, List.cons_append, List.nil_append, pack, ih]
    congr 1
    have h : 16 * (b.toNat / 16) + b.toNat % 16 = b.toNat := by omega
    rw [h]
    simp
theorem good_hexL (l : List UInt8) : Good (hexL l) := by
  intro x hx'
  simp only [hexL, List.mem_flatMap, hx, List.mem_cons, List.not_mem_nil, or_false] at hx'
  obtain ⟨b, _, h | h⟩ := hx'
  · rw [h, kb_hd (hi_lt b)]; omega
  · rw [h, kb_hd (lo_lt b)]; omega
theorem bad_append {a : List UInt8} (h : Good a) (b : List UInt8) : bad (a ++ b) = a.length + bad b := by
  have := bad_of_good h
  unfold bad at this ⊢
  rw [List.findIdx_append, this]
  simp
  omega
theorem pack_hexL_append (a l : List UInt8) : pack (nibs (hexL a ++ l)) = a ++ pack (nibs l) := by
  rw [nibs_append, pack_even _ (by rw [nibs_hexL_length]; omega), pack_hexL]
theorem nibs_zero : nibs [48] = [0] := by decide
theorem good_zero : Good [48] := by intro b hb; simp at hb; subst hb; decide
/-- One 0 more: the same bytes, or one more. -/
theorem pack_zero (l : List UInt8) : pack (nibs (l ++ [48])) = pack (nibs l) ∨ (pack (nibs l)).length < (pack (nibs (l ++ [48]))).length := by
  rw [nibs_append, nibs_zero]
  by_cases h : (nibs l).length % 2 = 1
  · obtain ⟨p, a, _, h1, _, h3⟩ := pack_odd _ h
    left
    rw [h3, h1]
    rfl
  · right
    rw [pack_even _ (by omega)]
    simp [pack]
end Go.Proofs.YtjlecollphgmcaaDoor
