/-
  What memory holds while one table is put over another.
-/
import Derived.Test.YtdlkgcbiekilhaaSpanAhd
import Derived.Test.YtdlkgcbiekilhaaSpanKp
import Derived.OneCell
namespace Go.Proofs.Ytdlkgcbiekilhaa
open Go.RowKit

/-- The row that is made, the rest of the one above, and step, in their boxes. -/
structure Ov (w : World) (st : Bool) (q : List Sp × List Sp) (W : World) : Prop where
  bel : Below w.heap.size w W
  sz : w.heap.size + 4 ≤ W.heap.size
  stp : Boxed W (w.heap.size + 1) 4 (.bool st)
  row : ∃ v, Boxed W (w.heap.size + 3) 22 v ∧ W.ownsRow w.heap.size 24 4 v q.1.length (svs q.1) ∧ (∀ g, v.ownBlock = some g → w.heap.size + 2 ≤ g ∧ g ≠ w.heap.size + 3)
  ovr : ∃ A c, Boxed W w.heap.size 22 (.slice A q.2.length c) ∧ q.2.length ≤ c ∧ Ss W w.heap.size A q.2
/-- What a step changes: the boxes OB and VB, and the row. -/
structure Eff (OB VB : Nat) (A B : World) : Prop where
  size : A.heap.size ≤ B.heap.size
  keep : ∀ b, b < A.heap.size → b ≠ OB → b ≠ VB → rowB OB A ≠ some b → B.heap[b]? = A.heap[b]?
  row : ∀ g, rowB OB B = some g → rowB OB A = some g ∨ A.heap.size ≤ g
  ok : (∀ g, rowB OB A = some g → g < A.heap.size) → ∀ g, rowB OB B = some g → g < B.heap.size
section
variable {OB VB : Nat} {A B C : World}
theorem Eff.trans (h : Eff OB VB A B) (k : Eff OB VB B C) : Eff OB VB A C where
  size := Nat.le_trans h.size k.size
  keep := fun b hb h1 h2 h3 => (k.keep b (Nat.lt_of_lt_of_le hb h.size) h1 h2 fun e => by
    rcases h.row b e with h4 | h4
    · exact h3 h4
    · omega).trans (h.keep b hb h1 h2 h3)
  row := fun g hg => by
    rcases k.row g hg with h4 | h4
    · exact h.row g h4
    · exact .inr (Nat.le_trans h.size h4)
  ok := fun h0 => k.ok (h.ok h0)
theorem Eff.below (hO : OB < A.heap.size) (h : Below A.heap.size A B) : Eff OB VB A B where
  size := h.size
  keep := fun b hb _ _ _ => h.block b hb
  row := fun g hg => .inl (by rwa [rowB_same (h.block OB hO)] at hg)
  ok := fun h0 g hg => Nat.lt_of_lt_of_le (h0 g (by rwa [rowB_same (h.block OB hO)] at hg)) h.size
theorem Eff.kp (h : Eff OB VB A B) : KpO OB VB A B := ⟨h.size, fun b _ hb _ h1 h2 h3 => (h.keep b (Array.getElem?_eq_some_iff.1 hb).1 h1 h2 h3).trans hb, h.row, h.ok⟩
end
section
variable {w W : World} {st : Bool} {q : List Sp × List Sp}
theorem Ov.ok (h : Ov w st q W) : ∀ g, rowB (w.heap.size + 3) W = some g → w.heap.size + 2 ≤ g ∧ g ≠ w.heap.size + 3 ∧ g < W.heap.size := fun g hg => by
  obtain ⟨v, hb, ho, hv⟩ := h.row
  rw [rowB_of hb.cell] at hg
  exact ⟨(hv g hg).1, (hv g hg).2, (own_lt ho hg).2⟩
theorem Ov.cells (h : Ov w st q W) {g : Nat} (hg : rowB (w.heap.size + 3) W = some g) : ∃ o : Obj, W.heap[g]? = some o ∧ o.isCells = true := by
  obtain ⟨v, hb, ho, hv⟩ := h.row
  rw [rowB_of hb.cell] at hg
  rcases ho.2 with ⟨rfl, _⟩ | ⟨g', cap, cur, rfl, h1, hg', _⟩
  · cases hg
  · have e2 : g' = g := by simpa [Value.ownBlock] using hg
    subst e2
    exact ⟨_, hg', rfl⟩
/-- What is no cells stays. -/
theorem Ov.noncells (h : Ov w st q W) {W2 : World} (he : Eff (w.heap.size + 3) w.heap.size W W2) {b : Nat} {o : Obj} (hb : W.heap[b]? = some o) (ho : o.isCells = false) : W2.heap[b]? = some o := by
  obtain ⟨v, h1, _, _⟩ := h.row
  obtain ⟨A, c, h2, _, _⟩ := h.ovr
  have n1 : b ≠ w.heap.size + 3 := fun e => by
    subst e
    rw [show W.heap[w.heap.size + 3]? = _ from h1] at hb
    cases hb
    cases ho
  have n2 : b ≠ w.heap.size := fun e => by
    subst e
    rw [show W.heap[w.heap.size]? = _ from h2] at hb
    cases hb
    cases ho
  refine (he.keep b (Array.getElem?_eq_some_iff.1 hb).1 n1 n2 fun e => ?_).trans hb
  obtain ⟨o2, e1, e2⟩ := h.cells e
  rw [hb] at e1
  cases e1
  rw [ho] at e2
  cases e2
theorem Ov.keepsFrom (h : Ov w st q W) {W2 : World} (he : Eff (w.heap.size + 3) w.heap.size W W2) (B : Nat) : KeepsFrom B W W2 := ⟨he.size, fun _ _ _ h0 h1 => h.noncells he h0 h1⟩
theorem Ov.safe (h : Ov w st q W) {b : Nat} (hb : b < w.heap.size ∨ b = w.heap.size + 1) : Safe (w.heap.size + 3) w.heap.size W b := ⟨by omega, by omega, fun e => by have := h.ok b e; omega⟩
theorem Ov.below (h : Ov w st q W) {W2 : World} (hb : Below W.heap.size W W2) : Ov w st q W2 where
  bel := h.bel.trans (hb.mono h.bel.size)
  sz := Nat.le_trans h.sz hb.size
  stp := (hb.block _ (by have := h.sz; omega)).trans h.stp
  row := by
    obtain ⟨v, h1, h2, h3⟩ := h.row
    exact ⟨v, (hb.block _ (by have := h.sz; omega)).trans h1, own_belowS h2 hb (Nat.le_refl _), h3⟩
  ovr := by
    obtain ⟨A, c, h1, h2, h3⟩ := h.ovr
    exact ⟨A, c, (hb.block _ (by have := h.sz; omega)).trans h1, h2, h3.below (hb.mono h.bel.size)⟩
/-- It speaks of cells alone. -/
theorem Ov.own {β : Type} {B : Nat} (hB : w.heap.size ≤ B) (f : β → List Sp × List Sp) : OwnFrom B (fun s W => Ov w st (f s) W) := fun s X Y r h hg hr => by
  have hr' : ∀ k, r = some k → ∃ o : Obj, X.heap[k]? = some o ∧ o.isCells = false := fun k e => (hr k e).2
  refine ⟨h.bel.grown hg h.bel.size (fun k e => Nat.le_trans hB (hr k e).1), Nat.le_trans h.sz hg.size, boxed_own _ _ (fun (_ : Unit) => Value.bool st) () X Y r h.stp hg hr', ?_, ?_⟩
  · obtain ⟨v, h1, h2, h3⟩ := h.row
    refine ⟨v, boxed_own _ _ (fun (_ : Unit) => v) () X Y r h1 hg hr', ⟨h2.1, ?_⟩, h3⟩
    rcases h2.2 with hn | ⟨g, cap, cur, rfl, k1, k2, rest⟩
    · exact .inl hn
    · refine .inr ⟨g, cap, cur, rfl, k1, ?_, rest⟩
      refine (hg.block g (Array.getElem?_eq_some_iff.1 k2).1 fun e => ?_).trans k2
      obtain ⟨o, ho, hc⟩ := hr' g e.symm
      rw [k2] at ho
      cases ho
      cases hc
  · obtain ⟨A, c, h1, h2, h3⟩ := h.ovr
    exact ⟨A, c, boxed_own _ _ (fun (_ : Unit) => Value.slice A (f s).2.length c) () X Y r h1 hg hr', h2, h3.grown hg h.bel.size (fun g e => Nat.le_trans hB (hr g e).1)⟩
theorem Ss.setCell {W : World} {n₀ : Nat} {A : Option Addr} {l : List Sp} (h : Ss W n₀ A l) {b : Nat} (hb : n₀ ≤ b) (u : Value) : Ss (W.setCell ⟨b, 0, none⟩ u) n₀ A l :=
  h.keep fun p hp => World.cell?_of_block (heap_setCell_other W ⟨b, 0, none⟩ p.block u (by show p.block ≠ b; omega))
theorem Ov.step1 (h : Ov w st q W) {v : Value} (hv : Boxed W (w.heap.size + 3) 22 v) {q' : List Sp × List Sp} {v' : Value} {A' : Option Addr} {c' : Nat} {W1 : World} (h2 : q'.2.length ≤ c') (h3 : Ss W1 w.heap.size A' q'.2) (h4 : W1.ownsRow w.heap.size 24 4 v' q'.1.length (svs q'.1)) (h5 : W.grownBy W1 v.ownBlock) (h6 : ∀ g, v'.ownBlock = some g → v.ownBlock = some g ∨ W.heap.size ≤ g) :
    Ov w st q' ((W1.setCell ⟨w.heap.size + 3, 0, none⟩ v').setCell ⟨w.heap.size, 0, none⟩ (.slice A' q'.2.length c')) ∧ Eff (w.heap.size + 3) w.heap.size W ((W1.setCell ⟨w.heap.size + 3, 0, none⟩ v').setCell ⟨w.heap.size, 0, none⟩ (.slice A' q'.2.length c')) := by
  have hsz := h.sz
  have hsz1 := h5.size
  have hok : ∀ g, v.ownBlock = some g → w.heap.size + 2 ≤ g ∧ g ≠ w.heap.size + 3 := fun g hg => by
    have := h.ok g (by rw [rowB_of hv.cell, hg])
    exact ⟨this.1, this.2.1⟩
  have hok' : ∀ g, v'.ownBlock = some g → w.heap.size + 2 ≤ g ∧ g ≠ w.heap.size + 3 := fun g hg => by
    rcases h6 g hg with k | k
    · exact hok g k
    · omega
  have ne : ∀ b, b < w.heap.size + 2 ∨ b = w.heap.size + 3 → some b ≠ v.ownBlock := fun b hb e => by have := hok b e.symm; omega
  have ne' : ∀ b, b < w.heap.size + 2 ∨ b = w.heap.size + 3 → v'.ownBlock ≠ some b := fun b hb e => by have := hok' b e; omega
  have b1 : Boxed W1 (w.heap.size + 3) 22 v := hv.kept h5 (ne _ (.inr rfl))
  obtain ⟨A, c, b2, _, _⟩ := h.ovr
  have b2 := b2.kept h5 (ne _ (by omega))
  have b3 := h.stp.kept h5 (ne _ (by omega))
  have hO := (b1.set v').other (B' := w.heap.size) (by omega) (.slice A' q'.2.length c')
  have hbel : Below w.heap.size w W1 := h.bel.grown h5 h.bel.size (fun g e => by have := hok g e; omega)
  refine ⟨⟨(hbel.setCell (p := ⟨w.heap.size + 3, 0, none⟩) (by show w.heap.size ≤ w.heap.size + 3; omega) _).setCell (p := ⟨w.heap.size, 0, none⟩) (Nat.le_refl _) _, by simp; omega, (b3.other (by omega) _).other (by omega) _, ⟨v', hO, ownsRow_setCell_other (ownsRow_setCell_other h4 (ne' _ (.inr rfl)) _) (ne' _ (by show w.heap.size < _ ∨ _; omega)) _, hok'⟩, ⟨A', c', (b2.other (by omega) _).set _, h2, (h3.setCell (by omega) _).setCell (Nat.le_refl _) _⟩⟩, ⟨by simp; omega, fun b hb n1 n2 n3 => ?_, fun g hg => ?_, fun _ g hg => ?_⟩⟩
  · rw [rowB_of hv.cell] at n3
    rw [heap_setCell_other _ _ _ _ (show b ≠ w.heap.size from n2), heap_setCell_other _ _ _ _ (show b ≠ w.heap.size + 3 from n1)]
    exact h5.block b hb (fun e => n3 e.symm)
  · rw [rowB_of hO.cell] at hg
    rw [rowB_of hv.cell]
    exact h6 g hg
  · rw [rowB_of hO.cell] at hg
    simpa using (own_lt h4 hg).2
theorem Ov.step2 (h : Ov w st q W) {v : Value} (hv : Boxed W (w.heap.size + 3) 22 v) {o' : List Sp} {v' : Value} {W1 : World} (h4 : W1.ownsRow w.heap.size 24 4 v' o'.length (svs o')) (h5 : W.grownBy W1 v.ownBlock) (h6 : ∀ g, v'.ownBlock = some g → v.ownBlock = some g ∨ W.heap.size ≤ g) :
    Ov w st (o', q.2) (W1.setCell ⟨w.heap.size + 3, 0, none⟩ v') ∧ Eff (w.heap.size + 3) w.heap.size W (W1.setCell ⟨w.heap.size + 3, 0, none⟩ v') := by
  have hsz := h.sz
  have hsz1 := h5.size
  have hok : ∀ g, v.ownBlock = some g → w.heap.size + 2 ≤ g ∧ g ≠ w.heap.size + 3 := fun g hg => by
    have := h.ok g (by rw [rowB_of hv.cell, hg])
    exact ⟨this.1, this.2.1⟩
  have hok' : ∀ g, v'.ownBlock = some g → w.heap.size + 2 ≤ g ∧ g ≠ w.heap.size + 3 := fun g hg => by
    rcases h6 g hg with k | k
    · exact hok g k
    · omega
  have ne : ∀ b, b < w.heap.size + 2 ∨ b = w.heap.size + 3 → some b ≠ v.ownBlock := fun b hb e => by have := hok b e.symm; omega
  have ne' : ∀ b, b < w.heap.size + 2 ∨ b = w.heap.size + 3 → v'.ownBlock ≠ some b := fun b hb e => by have := hok' b e; omega
  have b1 : Boxed W1 (w.heap.size + 3) 22 v := hv.kept h5 (ne _ (.inr rfl))
  obtain ⟨A, c, b2, hc, hA⟩ := h.ovr
  have b2 := b2.kept h5 (ne _ (by omega))
  have b3 := h.stp.kept h5 (ne _ (by omega))
  have hO := b1.set v'
  have hbel : Below w.heap.size w W1 := h.bel.grown h5 h.bel.size (fun g e => by have := hok g e; omega)
  refine ⟨⟨hbel.setCell (p := ⟨w.heap.size + 3, 0, none⟩) (by show w.heap.size ≤ w.heap.size + 3; omega) _, by simp; omega, b3.other (by omega) _, ⟨v', hO, ownsRow_setCell_other h4 (ne' _ (.inr rfl)) _, hok'⟩, ⟨A, c, b2.other (by omega) _, hc, (hA.grown h5 h.bel.size (fun g e => by have := hok g e; omega)).setCell (by omega) _⟩⟩, ⟨by simp; omega, fun b hb n1 n2 n3 => ?_, fun g hg => ?_, fun _ g hg => ?_⟩⟩
  · rw [rowB_of hv.cell] at n3
    rw [heap_setCell_other _ _ _ _ (show b ≠ w.heap.size + 3 from n1)]
    exact h5.block b hb (fun e => n3 e.symm)
  · rw [rowB_of hO.cell] at hg
    rw [rowB_of hv.cell]
    exact h6 g hg
  · rw [rowB_of hO.cell] at hg
    simpa using (own_lt h4 hg).2
end
end Go.Proofs.Ytdlkgcbiekilhaa
