/-
  What is known of blocks, over one new block and a call.
-/
import Derived.Test.YtnojapffmcnbaaaRectSub
namespace Go.Proofs.Ytnojapffmcnbaaa
open Go.RowKit

section
variable {w w1 : World} {O : Obj} {b : Nat}
theorem Bx.step {r : Rc} (h : Bx w b r) (hl : b < w.heap.size) (hb : Below (w.alloc O).heap.size (w.alloc O) w1) : Bx w1 b r :=
  (h.below ((Below.refl w.heap.size w).alloc (Nat.le_refl _) O) hl).below hb (by simp; omega)
theorem Bc2.step {n v : Int} (h : Bc2 w b n v) (hl : b < w.heap.size) (hb : Below (w.alloc O).heap.size (w.alloc O) w1) : Bc2 w1 b n v :=
  (h.below ((Below.refl w.heap.size w).alloc (Nat.le_refl _) O) hl).below hb (by simp; omega)
theorem Bc2.new (w : World) {n v : Int} {t : TypeId} (hb : Below (w.alloc (.cells #[.int .i64 n, .int .i64 v] t)).heap.size (w.alloc (.cells #[.int .i64 n, .int .i64 v] t)) w1) : Bc2 w1 w.heap.size n v :=
  (Bc2.mk (by simp) (by simp)).below hb (by simp)
theorem below_step {w0 : World} {B : Nat} (h : Below B w0 w) (hB : B ≤ w.heap.size) (hb : Below (w.alloc O).heap.size (w.alloc O) w1) : Below B w0 w1 :=
  (h.alloc hB O).trans (hb.mono (by simp; omega))
theorem size_step (hb : Below (w.alloc O).heap.size (w.alloc O) w1) : w.heap.size < w1.heap.size := by have := hb.size; simp at this; omega
end
end Go.Proofs.Ytnojapffmcnbaaa
