/-
  What a round of a loop over an iterator keeps, if it adds to a row whose slice lies in a box: all other cells.
-/
import Derived.RangeFuncNested
import Derived.Test.YtdlkgcbiekilhaaSpanAdd
namespace Go.Proofs.Ytdlkgcbiekilhaa
open Go.RowKit

/-- The block of the row whose slice lies in box OB. -/
def rowB (OB : Nat) (W : World) : Option Nat := match W.cell? ⟨OB, 0, none⟩ with | some v => v.ownBlock | none => none
theorem rowB_of {OB : Nat} {W : World} {v : Value} (h : W.cell? ⟨OB, 0, none⟩ = some v) : rowB OB W = v.ownBlock := by unfold rowB; rw [h]
theorem rowB_same {OB : Nat} {A B : World} (h : B.heap[OB]? = A.heap[OB]?) : rowB OB B = rowB OB A := by
  unfold rowB
  rw [World.cell?_of_block (a := ⟨OB, 0, none⟩) h]
structure KpO (OB VB : Nat) (A B : World) : Prop where
  size : A.heap.size ≤ B.heap.size
  keep : ∀ b o, A.heap[b]? = some o → o.isCells = true → b ≠ OB → b ≠ VB → rowB OB A ≠ some b → B.heap[b]? = some o
  row : ∀ g, rowB OB B = some g → rowB OB A = some g ∨ A.heap.size ≤ g
  ok : (∀ g, rowB OB A = some g → g < A.heap.size) → ∀ g, rowB OB B = some g → g < B.heap.size
/-- A block that a round keeps. -/
def Safe (OB VB : Nat) (W : World) (b : Nat) : Prop := b ≠ OB ∧ b ≠ VB ∧ rowB OB W ≠ some b
section
variable {OB VB : Nat} {A B C : World}
theorem KpO.refl (OB VB : Nat) (A : World) : KpO OB VB A A := ⟨Nat.le_refl _, fun _ _ h _ _ _ _ => h, fun _ h => .inl h, fun h => h⟩
theorem KpO.trans (h : KpO OB VB A B) (k : KpO OB VB B C) : KpO OB VB A C where
  size := Nat.le_trans h.size k.size
  keep := fun b o hb ho h1 h2 h3 => k.keep b o (h.keep b o hb ho h1 h2 h3) ho h1 h2 fun e => by
    rcases h.row b e with h4 | h4
    · exact h3 h4
    · have := (Array.getElem?_eq_some_iff.1 hb).1
      omega
  row := fun g hg => by
    rcases k.row g hg with h4 | h4
    · exact h.row g h4
    · exact .inr (Nat.le_trans h.size h4)
  ok := fun h0 => k.ok (h.ok h0)
theorem KpO.below (hO : OB < A.heap.size) (h : Below A.heap.size A B) : KpO OB VB A B where
  size := h.size
  keep := fun b o hb _ _ _ _ => (h.block b (Array.getElem?_eq_some_iff.1 hb).1).trans hb
  row := fun g hg => .inl (by rwa [rowB_same (h.block OB hO)] at hg)
  ok := fun h0 g hg => Nat.lt_of_lt_of_le (h0 g (by rwa [rowB_same (h.block OB hO)] at hg)) h.size
theorem KpO.put {w W : World} {l : Nat} {o o' : Obj} (hO : OB < w.heap.size) (hl : w.heap.size ≤ l) (h : W.heap[l]? = some o) (hc : o.isCells = false) : KpO OB VB W (W.putObj l o') where
  size := by simp
  keep := fun b o2 hb ho _ _ _ => by
    have hne : b ≠ l := fun e => by
      subst e
      rw [h] at hb
      cases hb
      rw [hc] at ho
      cases ho
    exact (World.putObj_heap_other (fun e => hne (by rw [e]))).trans hb
  row := fun g hg => .inl (by rwa [rowB_same (World.putObj_heap_other (by omega))] at hg)
  ok := fun h0 g hg => by
    have := h0 g (by rwa [rowB_same (World.putObj_heap_other (by omega))] at hg)
    simpa using this
theorem KpO.cell (h : KpO OB VB A B) {p : Addr} {v : Value} (hp : A.cell? p = some v) (hs : Safe OB VB A p.block) : B.cell? p = some v := by
  obtain ⟨o, ho, hc⟩ := cells_of_cell hp
  exact (World.cell?_of_block ((h.keep _ o ho hc hs.1 hs.2.1 hs.2.2).trans ho.symm)).trans hp
theorem KpO.safe (h : KpO OB VB A B) {b : Nat} (hb : b < A.heap.size) (hs : Safe OB VB A b) : Safe OB VB B b :=
  ⟨hs.1, hs.2.1, fun e => by
    rcases h.row b e with h4 | h4
    · exact hs.2.2 h4
    · omega⟩
theorem KpO.bs (h : KpO OB VB A B) {b : Nat} {x : Sp} (hx : Bs A b x) (hs : Safe OB VB A b) : Bs B b x := ⟨h.cell hx.c0 hs, h.cell hx.c1 hs, h.cell hx.c2 hs, h.cell hx.c3 hs⟩
theorem KpO.ss (h : KpO OB VB A B) {n₀ : Nat} {a : Option Addr} {l : List Sp} (hx : Ss A n₀ a l) (hs : ∀ b, b < n₀ → b ≠ OB → b ≠ VB → Safe OB VB A b) (hn : ∀ p, a = some p → p.block ≠ OB ∧ p.block ≠ VB) : Ss B n₀ a l := fun hl => by
  obtain ⟨b, o, e, hb, hc⟩ := hx hl
  refine ⟨b, o, e, hb, fun j x hj => ?_⟩
  obtain ⟨h1, h2⟩ := hn _ e
  have hsf := hs b hb h1 h2
  have q := hc j x hj
  exact ⟨h.cell q.c0 hsf, h.cell q.c1 hsf, h.cell q.c2 hsf, h.cell q.c3 hsf⟩
end
end Go.Proofs.Ytdlkgcbiekilhaa
