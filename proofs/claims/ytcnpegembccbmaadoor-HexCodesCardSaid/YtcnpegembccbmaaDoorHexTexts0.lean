/-
  A code that came in, as its cells in a world behind a call.
-/
import Derived.Test.YtcnpegembccbmaaDoorHexKind
import Derived.Test.YtcnpegembccbmaaDoorMem
namespace Go.Proofs.YtcnpegembccbmaaDoor
open Go.RowKit

/-- The code's cells, in a world behind a call. -/
theorem code_cells {w w1 : World} {n m : Int} {t : TypeId} (hb : Below (w.alloc (.cells #[.int .i64 n, .int .i64 m] t)).heap.size (w.alloc (.cells #[.int .i64 n, .int .i64 m] t)) w1) :
    w1.cell? ⟨w.heap.size, 0, none⟩ = some (.int .i64 n) ∧ w1.cell? ⟨w.heap.size, 1, none⟩ = some (.int .i64 m) ∧ w.heap.size < w1.heap.size :=
  ⟨(hb.cell (p := ⟨w.heap.size, 0, none⟩) (by simp)).trans (by simp), (hb.cell (p := ⟨w.heap.size, 1, none⟩) (by simp)).trans (by simp), by have := hb.size; simp at this; omega⟩
theorem code_below {w w1 : World} {o : Obj} (hb : Below (w.alloc o).heap.size (w.alloc o) w1) : Below w.heap.size w w1 := ((Below.refl _ _).alloc (Nat.le_refl _) _).trans (hb.mono (by simp))
theorem Tab.code {w : World} (h : Tab w) (o : Obj) : Tab (w.alloc o) := h.below' ((Below.refl _ _).alloc (Nat.le_refl _) _)

end Go.Proofs.YtcnpegembccbmaaDoor
