/-
  A token as a value; a token that a call hands back lies in a block of its own.
-/
import Derived.Test.YtjlecollphgmcaaDoorTokDef
import Derived.Test.YtjlecollphgmcaaDoorMem
import Derived.Test.YtjlecollphgmcaaDoorHexKind
namespace Go.Proofs.YtjlecollphgmcaaDoor
open Go.RowKit

/-- A token as a value. -/
def tv (t : Tk) : Value := .agg #[.int .i64 t.kind, .int .i64 t.at_, .int .i64 t.n, .string (str t.s)]
/-- The token that is none. -/
def noT : Tk := ⟨0, 0, 0, []⟩
/-- What a call that reads at p hands back: a token, a place, an error. -/
def rT (p : Nat) (r : Rd) : Tk := if r.e = 0 then r.tok p else noT
def rv (p : Nat) (r : Rd) : Value := .tuple #[tv (rT p r), .int .i64 ((p + r.k : Nat) : Int), .int .i64 r.e]
theorem rv_ok (p : Nat) (kind n : Int) (s : List UInt8) (k : Nat) : rv p (okR kind n s k) = .tuple #[.agg #[.int .i64 kind, .int .i64 (p : Int), .int .i64 n, .string (str s)], .int .i64 ((p : Int) + (k : Int)), .int .i64 0] := by
  simp [rv, rT, okR, Rd.tok, tv]
theorem rv_no (p k : Nat) (e : Int) (h : e ≠ 0) : rv p (noR k e) = .tuple #[.agg #[.int .i64 0, .int .i64 0, .int .i64 0, .string ⟨#[]⟩], .int .i64 ((p : Int) + (k : Int)), .int .i64 e] := by
  simp [rv, rT, noR, h, noT, tv, str]

/-- The block of such a result, as it is made. -/
def tok0 : Obj := .cells #[.int .i64 0, .int .i64 0, .int .i64 0, .string ⟨#[]⟩] 31
theorem res_of {w w2 : World} (h : Below (w.alloc (.cells #[.int .i64 0, .int .i64 0, .int .i64 0, .string ⟨#[]⟩] 31)).heap.size (w.alloc (.cells #[.int .i64 0, .int .i64 0, .int .i64 0, .string ⟨#[]⟩] 31)) w2) :
    (w2.cell? ⟨w.heap.size, 0, none⟩ = some (.int .i64 0) ∧ w2.cell? ⟨w.heap.size, 1, none⟩ = some (.int .i64 0) ∧ w2.cell? ⟨w.heap.size, 2, none⟩ = some (.int .i64 0) ∧ w2.cell? ⟨w.heap.size, 3, none⟩ = some (.string ⟨#[]⟩)) ∧
    (w2.frozen? ⟨w.heap.size, 0, none⟩ = false ∧ w2.frozen? ⟨w.heap.size, 1, none⟩ = false ∧ w2.frozen? ⟨w.heap.size, 2, none⟩ = false ∧ w2.frozen? ⟨w.heap.size, 3, none⟩ = false) ∧ w.heap.size < w2.heap.size ∧ Below w.heap.size w w2 := by
  have hs := h.size
  simp at hs
  refine ⟨⟨?_, ?_, ?_, ?_⟩, ⟨?_, ?_, ?_, ?_⟩, by omega, ((Below.refl _ w).alloc (Nat.le_refl _) _).trans (h.mono (by simp))⟩
  · exact (h.cell (p := ⟨w.heap.size, 0, none⟩) (by simp)).trans (by simp)
  · exact (h.cell (p := ⟨w.heap.size, 1, none⟩) (by simp)).trans (by simp)
  · exact (h.cell (p := ⟨w.heap.size, 2, none⟩) (by simp)).trans (by simp)
  · exact (h.cell (p := ⟨w.heap.size, 3, none⟩) (by simp)).trans (by simp)
  · exact (h.frozen (p := ⟨w.heap.size, 0, none⟩) (by simp)).trans (by simp)
  · exact (h.frozen (p := ⟨w.heap.size, 1, none⟩) (by simp)).trans (by simp)
  · exact (h.frozen (p := ⟨w.heap.size, 2, none⟩) (by simp)).trans (by simp)
  · exact (h.frozen (p := ⟨w.heap.size, 3, none⟩) (by simp)).trans (by simp)
theorem below_4 {w w2 : World} {S : Nat} (h : Below w.heap.size w w2) (hS : w.heap.size ≤ S) (a b c d : Value) : Below w.heap.size w ((((w2.setCell ⟨S, 0, none⟩ a).setCell ⟨S, 1, none⟩ b).setCell ⟨S, 2, none⟩ c).setCell ⟨S, 3, none⟩ d) :=
  (((h.setCell hS _).setCell hS _).setCell hS _).setCell hS _
end Go.Proofs.YtjlecollphgmcaaDoor
