/-
  BOXES OF TABLES.
-/
import Derived.Test.YtmjneokjgcgchaaGreatSemFew
import Derived.Test.YtmjneokjgcgchaaGreatSemAwake
import Derived.Test.YtmjneokjgcgchaaGreatSemMrg
namespace Go.Proofs.YtmjneokjgcgchaaGreat
open Go.RowKit

@[go_sem] theorem bldT0 (w : World) : (Instr.build 33 #[]).run Tryz.prog w = .ok (.agg #[.string ⟨#[]⟩, .int .i64 0, .slice none 0 0, .slice none 0 0, .slice none 0 0, .slice none 0 0]) w := run_build w 33 _ _ (by kernel_rfl)
theorem tm_zero (w : World) : Tm w tbZ taZ := ⟨fun h => absurd h (by simp [tbZ]), fun h => absurd h (by simp [tbZ]), fun h => absurd h (by simp [tbZ]), ⟨fun h => absurd h (by simp [tbZ]), fun _ h => by cases h⟩, Nat.le_refl _, Nat.le_refl _, Nat.le_refl _, Nat.le_refl _⟩
/-- Two blocks ahead of the walk. -/
theorem two {w : World} (c0 c1 : Array Value) (t0 t1 : TypeId) : Below w.heap.size w ((w.alloc (.cells c0 t0)).alloc (.cells c1 t1)) ∧ ((w.alloc (.cells c0 t0)).alloc (.cells c1 t1)).heap[w.heap.size]? = some (.cells c0 t0 (0, 0)) ∧ ((w.alloc (.cells c0 t0)).alloc (.cells c1 t1)).heap[w.heap.size + 1]? = some (.cells c1 t1 (0, 0)) := by
  have s1 : (w.alloc (.cells c0 t0)).heap.size = w.heap.size + 1 := by simp
  have h0 := heap_alloc_new w (.cells c0 t0)
  have h1 := heap_alloc_new (w.alloc (.cells c0 t0)) (.cells c1 t1)
  rw [s1] at h1
  exact ⟨((Below.refl _ _).alloc (Nat.le_refl _) _).alloc (by simp) _, (Below.heap_alloc _ _ _ (by omega)).trans h0, h1⟩
/-- The cells of a box. -/
def Cl6 (w : World) (X : Nat) (t : Tb) (a : Ta) : Prop := w.cell? ⟨X, 0, none⟩ = some (.string (str t.nm)) ∧ w.cell? ⟨X, 1, none⟩ = some (.int .i64 t.wm) ∧ w.cell? ⟨X, 2, none⟩ = some (.slice a.a0 t.sp.length a.c0) ∧ w.cell? ⟨X, 3, none⟩ = some (.slice a.a1 t.ci.length a.c1) ∧ w.cell? ⟨X, 4, none⟩ = some (.slice a.a2 t.no.length a.c2) ∧ w.cell? ⟨X, 5, none⟩ = some (.slice a.a3 t.bf.length a.c3)
/-- A table in a box of its own. -/
structure Bxt (V W : World) (X : Nat) (x : Tb) (ax : Ta) : Prop where
  tk : Tk6 W X x ax
  tm : Stm 0 W x ax
  be : Below V.heap.size V W
theorem Bxt.put {V W : World} {X : Nat} {x : Tb} {ax : Ta} (hb : Below V.heap.size V W) (hX : V.heap.size ≤ X) (hz : Tk6 W X tbZ taZ) (hs : Stm 0 W x ax) : Bxt V (put6 W X (.string (str x.nm)) (.int .i64 x.wm) (.slice ax.a0 x.sp.length ax.c0) (.slice ax.a1 x.ci.length ax.c1) (.slice ax.a2 x.no.length ax.c2) (.slice ax.a3 x.bf.length ax.c3)) X x ax :=
  ⟨put6_heap hz _ _ _ _ _ _, hs.kt ((put6_fj _ _ _ _ _ _).kt (Nat.zero_le _) ⟨_, _, hz⟩), put6_below hb hX _ _ _ _ _ _⟩
theorem Bxt.new {V W : World} {x : Tb} {ax : Ta} (hb : Below V.heap.size V W) (hs : Stm 0 W x ax) : Bxt V (W.alloc (.cells #[.string (str x.nm), .int .i64 x.wm, .slice ax.a0 x.sp.length ax.c0, .slice ax.a1 x.ci.length ax.c1, .slice ax.a2 x.no.length ax.c2, .slice ax.a3 x.bf.length ax.c3] 33)) W.heap.size x ax :=
  ⟨heap_alloc_new W _, hs.below ((Below.refl _ _).alloc (Nat.le_refl _) _), hb.alloc hb.size _⟩
theorem Bxt.low {V W W' : World} {X : Nat} {x : Tb} {ax : Ta} (h : Bxt V W X x ax) (hb : Below W.heap.size W W') : Bxt V W' X x ax :=
  ⟨(hb.block _ h.tk.lt).trans h.tk, h.tm.below hb, h.be.trans (hb.mono h.be.size)⟩
theorem Bxt.from {U V W : World} {X : Nat} {x : Tb} {ax : Ta} (h : Bxt V W X x ax) (hb : Below U.heap.size U V) : Bxt U W X x ax := ⟨h.tk, h.tm, hb.trans (h.be.mono hb.size)⟩
theorem new_zero (W : World) : Tk6 (W.alloc (.cells #[.string ⟨#[]⟩, .int .i64 0, .slice none 0 0, .slice none 0 0, .slice none 0 0, .slice none 0 0] 33)) W.heap.size tbZ taZ := heap_alloc_new W _
end Go.Proofs.YtmjneokjgcgchaaGreat
