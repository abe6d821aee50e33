/-
  A block of six cells: what is handed back out of it.
-/
import Derived.Test.YtmjneokjgcgchaaGreatSemDeed
namespace Go.Proofs.YtmjneokjgcgchaaGreat
open Go.RowKit

/-- Six cells of a block are set. -/
abbrev put6 (W : World) (S : Nat) (x0 x1 x2 x3 x4 x5 : Value) : World := (((((W.setCell ⟨S, 0, none⟩ x0).setCell ⟨S, 1, none⟩ x1).setCell ⟨S, 2, none⟩ x2).setCell ⟨S, 3, none⟩ x3).setCell ⟨S, 4, none⟩ x4).setCell ⟨S, 5, none⟩ x5
theorem put6_heap {W : World} {S : Nat} {t : TypeId} {y0 y1 y2 y3 y4 y5 : Value} (h : W.heap[S]? = some (Obj.cells #[y0, y1, y2, y3, y4, y5] t (0, 0))) (x0 x1 x2 x3 x4 x5 : Value) : (put6 W S x0 x1 x2 x3 x4 x5).heap[S]? = some (Obj.cells #[x0, x1, x2, x3, x4, x5] t (0, 0)) := by
  have h0 := _root_.Go.heap_setCell_same W S 0 _ t x0 h
  have h1 := _root_.Go.heap_setCell_same _ S 1 _ t x1 h0
  have h2 := _root_.Go.heap_setCell_same _ S 2 _ t x2 h1
  have h3 := _root_.Go.heap_setCell_same _ S 3 _ t x3 h2
  have h4 := _root_.Go.heap_setCell_same _ S 4 _ t x4 h3
  exact _root_.Go.heap_setCell_same _ S 5 _ t x5 h4
theorem put6_other {W : World} {S k : Nat} (hk : k ≠ S) (x0 x1 x2 x3 x4 x5 : Value) : (put6 W S x0 x1 x2 x3 x4 x5).heap[k]? = W.heap[k]? := by
  rw [heap_setCell_other _ _ _ _ (show k ≠ S from hk), heap_setCell_other _ _ _ _ (show k ≠ S from hk), heap_setCell_other _ _ _ _ (show k ≠ S from hk), heap_setCell_other _ _ _ _ (show k ≠ S from hk), heap_setCell_other _ _ _ _ (show k ≠ S from hk), heap_setCell_other _ _ _ _ (show k ≠ S from hk)]
theorem put6_below {w0 W : World} {B S : Nat} (h : Below B w0 W) (hS : B ≤ S) (x0 x1 x2 x3 x4 x5 : Value) : Below B w0 (put6 W S x0 x1 x2 x3 x4 x5) := (((((h.setCell hS _).setCell hS _).setCell hS _).setCell hS _).setCell hS _).setCell hS _
theorem put6_fj {W : World} {S : Nat} (x0 x1 x2 x3 x4 x5 : Value) : Fj W (put6 W S x0 x1 x2 x3 x4 x5) S := ((((Fj.set.trans Fj.set).trans Fj.set).trans Fj.set).trans Fj.set).trans Fj.set
theorem cells6 {w : World} {b : Nat} {t : TypeId} {f : Nat × Nat} {c0 c1 c2 c3 c4 c5 : Value} (h : w.heap[b]? = some (Obj.cells #[c0, c1, c2, c3, c4, c5] t f)) : w.cell? ⟨b, 0, none⟩ = some c0 ∧ w.cell? ⟨b, 1, none⟩ = some c1 ∧ w.cell? ⟨b, 2, none⟩ = some c2 ∧ w.cell? ⟨b, 3, none⟩ = some c3 ∧ w.cell? ⟨b, 4, none⟩ = some c4 ∧ w.cell? ⟨b, 5, none⟩ = some c5 := by
  simp [World.cell?, h]
theorem thaw6 {w : World} {b : Nat} {t : TypeId} {cs : Array Value} (h : w.heap[b]? = some (Obj.cells cs t (0, 0))) : w.frozen? ⟨b, 0, none⟩ = false ∧ w.frozen? ⟨b, 1, none⟩ = false ∧ w.frozen? ⟨b, 2, none⟩ = false ∧ w.frozen? ⟨b, 3, none⟩ = false ∧ w.frozen? ⟨b, 4, none⟩ = false ∧ w.frozen? ⟨b, 5, none⟩ = false := by
  simp [World.frozen?, h]
/-- A call that hands back a table, out of its result's block. -/
theorem tab_ret {W : World} {fn : Func} {R : Ending → World → Prop} {act : Act} {S k : Nat} {x0 x1 x2 x3 x4 x5 y0 y1 y2 y3 y4 y5 : Value} (hres : fn.results = #[.cell k 33]) (hS : W.heap[S]? = some (Obj.cells #[y0, y1, y2, y3, y4, y5] 33 (0, 0)))
    (hR : R (.returned (.agg #[x0, x1, x2, x3, x4, x5])) (put6 W S x0 x1 x2 x3 x4 x5)) (hd : act.defers = []) (h2 : act.tmps[k]?.getD undef = .pointer (some ⟨S, 0, none⟩)) : bodyPost Tryz.prog fn R .ret act (put6 W S x0 x1 x2 x3 x4 x5) := by
  obtain ⟨g0, g1, g2, g3, g4, g5⟩ := cells6 (put6_heap hS x0 x1 x2 x3 x4 x5)
  generalize put6 W S x0 x1 x2 x3 x4 x5 = X at *
  exact bodyPost_ret (v := _) (by simp [results, hres, go_sem, h2, g0, g1, g2, g3, g4, g5]; try rfl) hd hR
/-- What a call that hands back a table leaves: B: where the memory of what came in ends. -/
def TabR (B : Nat) (w : World) (Q : Pg → Prop) (e : Ending) (w' : World) : Prop := ∃ t a, e = .returned (tbv t a) ∧ Q (Tp t) ∧ Stm B w' t a ∧ Below w.heap.size w w'
theorem Tm.stm {w : World} {t : Tb} {a : Ta} (h : Tm w t a) : Stm w.heap.size w t a := fun w2 k => by
  have hs2 := k.size
  have low : ∀ b, b < w.heap.size → w2.heap[b]? = w.heap[b]? := fun b hlt => k.block b hlt (by rintro ⟨hge, _⟩; omega)
  have lc : ∀ p : Addr, p.block < w.heap.size → w2.cell? p = w.cell? p := fun p hp => World.cell?_of_block (low p.block hp)
  exact ⟨(h.sp.keep lc).more (by omega), (h.ci.keep lc).more (by omega), (h.no.keep lc).more (by omega), ⟨(h.bf.rd.keep lc).more (by omega), fun m hm => (h.bf.ul m hm).low (by omega) low⟩, h.l0, h.l1, h.l2, h.l3⟩
/-- A table that is handed back. -/
theorem Stm.ret {w w' : World} {B R : Nat} {t : Tb} {a : Ta} {Q : Pg → Prop} (h : Stm B w' t a) (hq : Q (Tp t)) (hb : Below w.heap.size w w') (hR : w.heap.size ≤ R) (hBR : B ≤ R) (hz : Tab w' R) : TabR B w Q (.returned (tbv t a)) (put6 w' R (.string (str t.nm)) (.int .i64 t.wm) (.slice a.a0 t.sp.length a.c0) (.slice a.a1 t.ci.length a.c1) (.slice a.a2 t.no.length a.c2) (.slice a.a3 t.bf.length a.c3)) :=
  ⟨t, a, rfl, hq, h.kt ((put6_fj _ _ _ _ _ _).kt hBR hz), put6_below hb hR _ _ _ _ _ _⟩
/-- The three blocks ahead of the walk. -/
theorem three {w : World} (c0 c1 c2 : Array Value) (t0 t1 t2 : TypeId) : Below w.heap.size w (((w.alloc (.cells c0 t0)).alloc (.cells c1 t1)).alloc (.cells c2 t2)) ∧ (((w.alloc (.cells c0 t0)).alloc (.cells c1 t1)).alloc (.cells c2 t2)).heap[w.heap.size]? = some (.cells c0 t0 (0, 0)) ∧ (((w.alloc (.cells c0 t0)).alloc (.cells c1 t1)).alloc (.cells c2 t2)).heap[w.heap.size + 1]? = some (.cells c1 t1 (0, 0)) ∧ (((w.alloc (.cells c0 t0)).alloc (.cells c1 t1)).alloc (.cells c2 t2)).heap[w.heap.size + 2]? = some (.cells c2 t2 (0, 0)) := by
  have s1 : (w.alloc (.cells c0 t0)).heap.size = w.heap.size + 1 := by simp
  have s2 : ((w.alloc (.cells c0 t0)).alloc (.cells c1 t1)).heap.size = w.heap.size + 2 := by simp
  have h0 := heap_alloc_new w (.cells c0 t0)
  have h1 := heap_alloc_new (w.alloc (.cells c0 t0)) (.cells c1 t1)
  have h2 := heap_alloc_new ((w.alloc (.cells c0 t0)).alloc (.cells c1 t1)) (.cells c2 t2)
  rw [s1] at h1
  rw [s2] at h2
  exact ⟨(((Below.refl _ _).alloc (Nat.le_refl _) _).alloc (by omega) _).alloc (by omega) _, (Below.heap_alloc _ _ _ (by omega)).trans ((Below.heap_alloc _ _ _ (by omega)).trans h0), (Below.heap_alloc _ _ _ (by omega)).trans h1, h2⟩
end Go.Proofs.YtmjneokjgcgchaaGreat
