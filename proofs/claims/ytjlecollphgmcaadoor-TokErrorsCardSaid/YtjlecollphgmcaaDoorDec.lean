/-
  What the range over a text reads at a place, as a plain function of lists.
-/
import Derived.Test.YtjlecollphgmcaaDoorUtfForms
import Derived.Test.YtjlecollphgmcaaDoorMem
import Derived.WalkSmall
import Derived.Lib.OthersKept
namespace Go.Proofs.YtjlecollphgmcaaDoor
open Go.RowKit

theorem get_str! (l : List UInt8) (i : Nat) : (str l).get! i = l[i]?.getD 0 := by
  show l.toArray[i]! = _
  by_cases h : i < l.length
  · rw [getElem!_pos l.toArray i (by simpa using h), List.getElem?_eq_getElem h]
    simp
  · rw [getElem!_neg l.toArray i (by simpa using h), List.getElem?_eq_none (by omega)]
    rfl
theorem decode_str (l : List UInt8) (k : Nat) : Utf8.decode (str l) k = dec (l.drop k) := by
  rw [Lib.decode_at]
  unfold dec
  simp only [get_str!, str_size, List.length_drop, List.getElem?_drop, Nat.add_zero]
theorem drop_ne {l : List UInt8} {k : Nat} (h : k < l.length) : l.drop k ≠ [] := by
  intro e
  have := congrArg List.length e
  rw [List.length_drop, List.length_nil] at this
  omega
theorem dec_drop {l : List UInt8} {k R K : Nat} (h : k < l.length) (hd : dec (l.drop k) = (R, K)) : 1 ≤ K ∧ k + K ≤ l.length ∧ R ≤ 1114111 := by
  have h1 := dec_ok (drop_ne h)
  rw [hd, List.length_drop, goodB_iff] at h1
  simp only at h1
  omega
end Go.Proofs.YtjlecollphgmcaaDoor
