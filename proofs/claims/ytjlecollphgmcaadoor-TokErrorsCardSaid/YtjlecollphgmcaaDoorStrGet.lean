/-
  A text's bytes by place, pieces of it, and string(b).
-/
import Derived.Test.YtjlecollphgmcaaDoorProg
import Derived.Test.YtjlecollphgmcaaDoorMem
namespace Go.Proofs.YtjlecollphgmcaaDoor
open Go.RowKit

theorem get_str (l : List UInt8) : ∀ (n : Nat) (h : n < (str l).size), (str l)[n]'h = l[n]?.getD 0 := fun n h => by
  have hn : n < l.length := by rwa [str_size] at h
  rw [List.getElem?_eq_getElem hn]
  rfl
theorem conv8 {w : World} {B : Nat} {A : Option Addr} {l : List UInt8} (h : Sl w B A l) (c : Nat) : (convert 35 9 (.slice A l.length c)).run Tryd.prog w = .ok (.string (str l)) w :=
  run_str (P := Tryd.prog) h c 35 9 5 Tryd.underlying35 Tryd.underlying5 Tryd.underlying9
theorem run_from {P : Program} (l : List UInt8) (k : Nat) (h : k ≤ l.length) (t : TypeId) (ht : P.underlying t = some .string) (wx : World) : (Instr.slice t (.string (str l)) (some (.int .i64 (k : Int))) none none).run P wx = .ok (.string (str (l.drop k))) wx := by
  rw [run_slice_string_from_if wx t (str l) .i64 (k : Int) ht]
  have h0 : (0 : Int) ≤ (k : Int) := by omega
  have h1 : (k : Int) ≤ (l.length : Int) := by omega
  simp [str_size, str_extract, h]
  exact str_inj (List.take_of_length_le (by simp))
theorem run_mid {P : Program} (l : List UInt8) (a b : Nat) (hab : a ≤ b) (hb : b ≤ l.length) (t : TypeId) (ht : P.underlying t = some .string) (wx : World) : (Instr.slice t (.string (str l)) (some (.int .i64 (a : Int))) (some (.int .i64 (b : Int))) none).run P wx = .ok (.string (str ((l.drop a).take (b - a)))) wx := by
  rw [run_slice_string_if wx t (str l) .i64 .i64 (a : Int) (b : Int) ht]
  simp [str_size, str_extract, hab, hb]
end Go.Proofs.YtjlecollphgmcaaDoor
