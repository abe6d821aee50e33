/-
  A table's block, and its lists: rows of one's own, or full ones that lie below; what an append, or a definition, leaves.
-/
import Derived.Test.YtmjneokjgcgchaaGreatSemAv
import Derived.Test.YtmjneokjgcgchaaGreatPart4
import Derived.Test.YtmjneokjgcgchaaGreatSemCat
import Derived.Test.YtmjneokjgcgchaaGreatSemBfs
namespace Go.Proofs.YtmjneokjgcgchaaGreat
open Go.RowKit

/-- The table, plainly. -/
def Tp (t : Tb) : Pg := ⟨t.nm, t.wm, t.sp, t.ci, t.no, pl t.bf⟩
/-- Which blocks are one's own. -/
structure To where
  o0 : Option Nat
  o1 : Option Nat
  o2 : Option Nat
  o3 : Option Nat
/-- A table's block. -/
def Tk6 (w : World) (T : Nat) (t : Tb) (a : Ta) : Prop := w.heap[T]? = some (Obj.cells #[.string (str t.nm), .int .i64 t.wm, .slice a.a0 t.sp.length a.c0, .slice a.a1 t.ci.length a.c1, .slice a.a2 t.no.length a.c2, .slice a.a3 t.bf.length a.c3] 33 (0, 0))
theorem Tk6.lt {w : World} {T : Nat} {t : Tb} {a : Ta} (h : Tk6 w T t a) : T < w.heap.size := (Array.getElem?_eq_some_iff.1 h).1
theorem Tk6.cells {w : World} {T : Nat} {t : Tb} {a : Ta} (h : Tk6 w T t a) : w.cell? ⟨T, 0, none⟩ = some (.string (str t.nm)) ∧ w.cell? ⟨T, 1, none⟩ = some (.int .i64 t.wm) ∧ w.cell? ⟨T, 2, none⟩ = some (.slice a.a0 t.sp.length a.c0) ∧ w.cell? ⟨T, 3, none⟩ = some (.slice a.a1 t.ci.length a.c1) ∧ w.cell? ⟨T, 4, none⟩ = some (.slice a.a2 t.no.length a.c2) ∧ w.cell? ⟨T, 5, none⟩ = some (.slice a.a3 t.bf.length a.c3) := by
  unfold Tk6 at h
  simp [World.cell?, h]
theorem Tk6.frozen {w : World} {T : Nat} {t : Tb} {a : Ta} (h : Tk6 w T t a) (i : Nat) : w.frozen? ⟨T, i, none⟩ = false := by
  unfold Tk6 at h
  simp [World.frozen?, h]
/-- What a store into a table's block leaves. -/
theorem Tk6.set {w : World} {T : Nat} {cs : Array Value} (h : w.heap[T]? = some (Obj.cells cs 33 (0, 0))) (i : Nat) (v : Value) : (w.setCell ⟨T, i, none⟩ v).heap[T]? = some (Obj.cells (cs.setIfInBounds i v) 33 (0, 0)) := heap_setCell_same w T i cs _ v h
/-- The table's block holds its lists; each may be appended to. -/
structure St (w0 w : World) (T : Nat) (t : Tb) (a : Ta) (o : To) : Prop where
  be : Below w0.heap.size w0 w
  ge : w0.heap.size ≤ T
  tb : Tk6 w T t a
  sp : Av w w0.heap.size 62 3 a.a0 t.sp.length a.c0 (rvs t.sp) o.o0
  ci : Av w w0.heap.size 87 4 a.a1 t.ci.length a.c1 (svs t.ci) o.o1
  no : Av w w0.heap.size 87 4 a.a2 t.no.length a.c2 (svs t.no) o.o2
  bf : Av w w0.heap.size 73 4 a.a3 t.bf.length a.c3 (dvs t.bf) o.o3
  ul : Ul w0 t.bf
  ne : ∀ g, o.o1 = some g → o.o2 ≠ some g
/-- All blocks but the table's and the lists' own ones. -/
def Fr (w w' : World) (T : Nat) (o : To) : Prop := ∀ k, k < w.heap.size → k ≠ T → o.o0 ≠ some k → o.o1 ≠ some k → o.o2 ≠ some k → o.o3 ≠ some k → w'.heap[k]? = w.heap[k]?
theorem typ_ne {w : World} {g k : Nat} {e t : TypeId} {cs cs' : Array Value} {f f' : Nat × Nat} (h : w.heap[g]? = some (Obj.cells cs e f)) (h' : w.heap[k]? = some (Obj.cells cs' t f')) (hne : e ≠ t) : g ≠ k := by
  rintro rfl
  rw [h] at h'
  injection h' with h'
  injection h' with _ h' _
  exact hne h'
section
variable {w0 w w' w2 w3 : World} {T : Nat} {t : Tb} {a : Ta} {o : To}
theorem St.t0 (h : St w0 w T t a o) {k : Nat} {cs : Array Value} {e : TypeId} {fr : Nat × Nat} (hk : w.heap[k]? = some (Obj.cells cs e fr)) (hne : e ≠ 62) : o.o0 ≠ some k := by
  intro hg
  obtain ⟨cur, hc⟩ := h.sp.typ k hg
  exact typ_ne hk hc hne rfl
theorem St.t1 (h : St w0 w T t a o) {k : Nat} {cs : Array Value} {e : TypeId} {fr : Nat × Nat} (hk : w.heap[k]? = some (Obj.cells cs e fr)) (hne : e ≠ 87) : o.o1 ≠ some k := by
  intro hg
  obtain ⟨cur, hc⟩ := h.ci.typ k hg
  exact typ_ne hk hc hne rfl
theorem St.t2 (h : St w0 w T t a o) {k : Nat} {cs : Array Value} {e : TypeId} {fr : Nat × Nat} (hk : w.heap[k]? = some (Obj.cells cs e fr)) (hne : e ≠ 87) : o.o2 ≠ some k := by
  intro hg
  obtain ⟨cur, hc⟩ := h.no.typ k hg
  exact typ_ne hk hc hne rfl
theorem St.t3 (h : St w0 w T t a o) {k : Nat} {cs : Array Value} {e : TypeId} {fr : Nat × Nat} (hk : w.heap[k]? = some (Obj.cells cs e fr)) (hne : e ≠ 73) : o.o3 ≠ some k := by
  intro hg
  obtain ⟨cur, hc⟩ := h.bf.typ k hg
  exact typ_ne hk hc hne rfl
theorem St.off (h : St w0 w T t a o) {k : Nat} {cs : Array Value} {e : TypeId} {fr : Nat × Nat} (hf : Fr w w' T o) (hk : w.heap[k]? = some (Obj.cells cs e fr)) (hT : k ≠ T) (n0 : e ≠ 62) (n1 : e ≠ 87) (n2 : e ≠ 73) : w'.heap[k]? = some (Obj.cells cs e fr) :=
  (hf k (Array.getElem?_eq_some_iff.1 hk).1 hT (h.t0 hk n0) (h.t1 hk n1) (h.t2 hk n1) (h.t3 hk n2)).trans hk
theorem St.below (h : St w0 w T t a o) (hb : Below w.heap.size w w') : St w0 w' T t a o := by
  have hs := h.be.size
  have k : ∀ b, b < w0.heap.size → w'.heap[b]? = w.heap[b]? := fun b hlt => hb.block b (by omega)
  refine ⟨h.be.trans (hb.mono hs), h.ge, (hb.block T h.tb.lt).trans h.tb, ?_, ?_, ?_, ?_, h.ul, h.ne⟩
  · exact h.sp.keep k fun g hg => hb.block g (h.sp.bs g hg).2
  · exact h.ci.keep k fun g hg => hb.block g (h.ci.bs g hg).2
  · exact h.no.keep k fun g hg => hb.block g (h.no.bs g hg).2
  · exact h.bf.keep k fun g hg => hb.block g (h.bf.bs g hg).2
/-- What an append to sp leaves. -/
theorem St.put0 {l : List Rc} {A' : Option Addr} {c' : Nat} {o' : Option Nat} {n : Nat} (hn : n = (t.sp ++ l).length) (h : St w0 w T t a o) (hb : Below w.heap.size w w2) (hav : Av w3 w0.heap.size 62 3 A' n c' (rvs (t.sp ++ l)) o') (hag : Ag w2 w3 w0.heap.size o.o0 o') :
    St w0 (w3.setCell ⟨T, 2, none⟩ (.slice A' n c')) T { t with sp := t.sp ++ l } { a with a0 := A', c0 := c' } { o with o0 := o' } ∧ Fr w (w3.setCell ⟨T, 2, none⟩ (.slice A' n c')) T o := by
  subst hn
  have h2 := h.below hb
  have hs2 := hb.size
  have hT2 : T < w2.heap.size := h2.tb.lt
  have hs3 := hag.below.size
  have hT3 : Tk6 w3 T t a := (hag.block T hT2 (h2.t0 h2.tb (by decide))).trans h2.tb
  have low : ∀ k, k < w0.heap.size → (w3.setCell ⟨T, 2, none⟩ (.slice A' (t.sp ++ l).length c')).heap[k]? = w3.heap[k]? := fun k hk => heap_setCell_other _ _ _ _ (by have := h.ge; show k ≠ T; omega)
  refine ⟨⟨(h2.be.trans hag.below).setCell h.ge _, h.ge, Tk6.set hT3 2 _, ?_, ?_, ?_, ?_, h.ul, ?_⟩, fun k hk hkT k0 k1 k2 k3 => ?_⟩
  · refine hav.keep low fun g hg => heap_setCell_other _ _ _ _ ?_
    obtain ⟨cur, hc⟩ := hav.typ g hg
    exact typ_ne hc hT3 (by decide)
  · refine h2.ci.keep (fun k hk => (low k hk).trans (hag.below.block k hk)) fun g hg => (heap_setCell_other _ _ _ _ ?_).trans (hag.block g (h2.ci.bs g hg).2 (by obtain ⟨cur, hc⟩ := h2.ci.typ g hg; exact h2.t0 hc (by decide)))
    obtain ⟨cur, hc⟩ := h2.ci.typ g hg
    exact typ_ne hc h2.tb (by decide)
  · refine h2.no.keep (fun k hk => (low k hk).trans (hag.below.block k hk)) fun g hg => (heap_setCell_other _ _ _ _ ?_).trans (hag.block g (h2.no.bs g hg).2 (by obtain ⟨cur, hc⟩ := h2.no.typ g hg; exact h2.t0 hc (by decide)))
    obtain ⟨cur, hc⟩ := h2.no.typ g hg
    exact typ_ne hc h2.tb (by decide)
  · refine h2.bf.keep (fun k hk => (low k hk).trans (hag.below.block k hk)) fun g hg => (heap_setCell_other _ _ _ _ ?_).trans (hag.block g (h2.bf.bs g hg).2 (by obtain ⟨cur, hc⟩ := h2.bf.typ g hg; exact h2.t0 hc (by decide)))
    obtain ⟨cur, hc⟩ := h2.bf.typ g hg
    exact typ_ne hc h2.tb (by decide)
  · exact h.ne
  · rw [heap_setCell_other _ _ _ _ (show k ≠ T from hkT), hag.block k (by omega) k0]
    exact hb.block k hk
/-- What an append to ci leaves. -/
theorem St.put1 {l : List Sp} {A' : Option Addr} {c' : Nat} {o' : Option Nat} {n : Nat} (hn : n = (t.ci ++ l).length) (h : St w0 w T t a o) (hb : Below w.heap.size w w2) (hav : Av w3 w0.heap.size 87 4 A' n c' (svs (t.ci ++ l)) o') (hag : Ag w2 w3 w0.heap.size o.o1 o') :
    St w0 (w3.setCell ⟨T, 3, none⟩ (.slice A' n c')) T { t with ci := t.ci ++ l } { a with a1 := A', c1 := c' } { o with o1 := o' } ∧ Fr w (w3.setCell ⟨T, 3, none⟩ (.slice A' n c')) T o := by
  subst hn
  have h2 := h.below hb
  have hs2 := hb.size
  have hT2 : T < w2.heap.size := h2.tb.lt
  have hs3 := hag.below.size
  have hT3 : Tk6 w3 T t a := (hag.block T hT2 (h2.t1 h2.tb (by decide))).trans h2.tb
  have low : ∀ k, k < w0.heap.size → (w3.setCell ⟨T, 3, none⟩ (.slice A' (t.ci ++ l).length c')).heap[k]? = w3.heap[k]? := fun k hk => heap_setCell_other _ _ _ _ (by have := h.ge; show k ≠ T; omega)
  refine ⟨⟨(h2.be.trans hag.below).setCell h.ge _, h.ge, Tk6.set hT3 3 _, ?_, ?_, ?_, ?_, h.ul, ?_⟩, fun k hk hkT k0 k1 k2 k3 => ?_⟩
  · refine h2.sp.keep (fun k hk => (low k hk).trans (hag.below.block k hk)) fun g hg => (heap_setCell_other _ _ _ _ ?_).trans (hag.block g (h2.sp.bs g hg).2 (by obtain ⟨cur, hc⟩ := h2.sp.typ g hg; exact h2.t1 hc (by decide)))
    obtain ⟨cur, hc⟩ := h2.sp.typ g hg
    exact typ_ne hc h2.tb (by decide)
  · refine hav.keep low fun g hg => heap_setCell_other _ _ _ _ ?_
    obtain ⟨cur, hc⟩ := hav.typ g hg
    exact typ_ne hc hT3 (by decide)
  · refine h2.no.keep (fun k hk => (low k hk).trans (hag.below.block k hk)) fun g hg => (heap_setCell_other _ _ _ _ ?_).trans (hag.block g (h2.no.bs g hg).2 (fun e => h.ne g e hg))
    obtain ⟨cur, hc⟩ := h2.no.typ g hg
    exact typ_ne hc h2.tb (by decide)
  · refine h2.bf.keep (fun k hk => (low k hk).trans (hag.below.block k hk)) fun g hg => (heap_setCell_other _ _ _ _ ?_).trans (hag.block g (h2.bf.bs g hg).2 (by obtain ⟨cur, hc⟩ := h2.bf.typ g hg; exact h2.t1 hc (by decide)))
    obtain ⟨cur, hc⟩ := h2.bf.typ g hg
    exact typ_ne hc h2.tb (by decide)
  · intro g hg
    rcases hag.own g hg with hg | hg
    · exact h.ne g hg
    · intro e
      have := (h2.no.bs g e).2
      omega
  · rw [heap_setCell_other _ _ _ _ (show k ≠ T from hkT), hag.block k (by omega) k1]
    exact hb.block k hk
/-- What an append to no leaves. -/
theorem St.put2 {l : List Sp} {A' : Option Addr} {c' : Nat} {o' : Option Nat} {n : Nat} (hn : n = (t.no ++ l).length) (h : St w0 w T t a o) (hb : Below w.heap.size w w2) (hav : Av w3 w0.heap.size 87 4 A' n c' (svs (t.no ++ l)) o') (hag : Ag w2 w3 w0.heap.size o.o2 o') :
    St w0 (w3.setCell ⟨T, 4, none⟩ (.slice A' n c')) T { t with no := t.no ++ l } { a with a2 := A', c2 := c' } { o with o2 := o' } ∧ Fr w (w3.setCell ⟨T, 4, none⟩ (.slice A' n c')) T o := by
  subst hn
  have h2 := h.below hb
  have hs2 := hb.size
  have hT2 : T < w2.heap.size := h2.tb.lt
  have hs3 := hag.below.size
  have hT3 : Tk6 w3 T t a := (hag.block T hT2 (h2.t2 h2.tb (by decide))).trans h2.tb
  have low : ∀ k, k < w0.heap.size → (w3.setCell ⟨T, 4, none⟩ (.slice A' (t.no ++ l).length c')).heap[k]? = w3.heap[k]? := fun k hk => heap_setCell_other _ _ _ _ (by have := h.ge; show k ≠ T; omega)
  refine ⟨⟨(h2.be.trans hag.below).setCell h.ge _, h.ge, Tk6.set hT3 4 _, ?_, ?_, ?_, ?_, h.ul, ?_⟩, fun k hk hkT k0 k1 k2 k3 => ?_⟩
  · refine h2.sp.keep (fun k hk => (low k hk).trans (hag.below.block k hk)) fun g hg => (heap_setCell_other _ _ _ _ ?_).trans (hag.block g (h2.sp.bs g hg).2 (by obtain ⟨cur, hc⟩ := h2.sp.typ g hg; exact h2.t2 hc (by decide)))
    obtain ⟨cur, hc⟩ := h2.sp.typ g hg
    exact typ_ne hc h2.tb (by decide)
  · refine h2.ci.keep (fun k hk => (low k hk).trans (hag.below.block k hk)) fun g hg => (heap_setCell_other _ _ _ _ ?_).trans (hag.block g (h2.ci.bs g hg).2 (h.ne g hg))
    obtain ⟨cur, hc⟩ := h2.ci.typ g hg
    exact typ_ne hc h2.tb (by decide)
  · refine hav.keep low fun g hg => heap_setCell_other _ _ _ _ ?_
    obtain ⟨cur, hc⟩ := hav.typ g hg
    exact typ_ne hc hT3 (by decide)
  · refine h2.bf.keep (fun k hk => (low k hk).trans (hag.below.block k hk)) fun g hg => (heap_setCell_other _ _ _ _ ?_).trans (hag.block g (h2.bf.bs g hg).2 (by obtain ⟨cur, hc⟩ := h2.bf.typ g hg; exact h2.t2 hc (by decide)))
    obtain ⟨cur, hc⟩ := h2.bf.typ g hg
    exact typ_ne hc h2.tb (by decide)
  · intro g hg e
    rcases hag.own g e with e | e
    · exact h.ne g hg e
    · have := (h2.ci.bs g hg).2
      omega
  · rw [heap_setCell_other _ _ _ _ (show k ≠ T from hkT), hag.block k (by omega) k2]
    exact hb.block k hk
/-- What an append to bf leaves. -/
theorem St.put3 {l : List Me} {A' : Option Addr} {c' : Nat} {o' : Option Nat} {n : Nat} (hn : n = (t.bf ++ l).length) (h : St w0 w T t a o) (hb : Below w.heap.size w w2) (hav : Av w3 w0.heap.size 73 4 A' n c' (dvs (t.bf ++ l)) o') (hag : Ag w2 w3 w0.heap.size o.o3 o') (hul : Ul w0 l) :
    St w0 (w3.setCell ⟨T, 5, none⟩ (.slice A' n c')) T { t with bf := t.bf ++ l } { a with a3 := A', c3 := c' } { o with o3 := o' } ∧ Fr w (w3.setCell ⟨T, 5, none⟩ (.slice A' n c')) T o := by
  subst hn
  have h2 := h.below hb
  have hs2 := hb.size
  have hT2 : T < w2.heap.size := h2.tb.lt
  have hs3 := hag.below.size
  have hT3 : Tk6 w3 T t a := (hag.block T hT2 (h2.t3 h2.tb (by decide))).trans h2.tb
  have low : ∀ k, k < w0.heap.size → (w3.setCell ⟨T, 5, none⟩ (.slice A' (t.bf ++ l).length c')).heap[k]? = w3.heap[k]? := fun k hk => heap_setCell_other _ _ _ _ (by have := h.ge; show k ≠ T; omega)
  refine ⟨⟨(h2.be.trans hag.below).setCell h.ge _, h.ge, Tk6.set hT3 5 _, ?_, ?_, ?_, ?_, fun m hm => (List.mem_append.1 hm).elim (h.ul m) (hul m), ?_⟩, fun k hk hkT k0 k1 k2 k3 => ?_⟩
  · refine h2.sp.keep (fun k hk => (low k hk).trans (hag.below.block k hk)) fun g hg => (heap_setCell_other _ _ _ _ ?_).trans (hag.block g (h2.sp.bs g hg).2 (by obtain ⟨cur, hc⟩ := h2.sp.typ g hg; exact h2.t3 hc (by decide)))
    obtain ⟨cur, hc⟩ := h2.sp.typ g hg
    exact typ_ne hc h2.tb (by decide)
  · refine h2.ci.keep (fun k hk => (low k hk).trans (hag.below.block k hk)) fun g hg => (heap_setCell_other _ _ _ _ ?_).trans (hag.block g (h2.ci.bs g hg).2 (by obtain ⟨cur, hc⟩ := h2.ci.typ g hg; exact h2.t3 hc (by decide)))
    obtain ⟨cur, hc⟩ := h2.ci.typ g hg
    exact typ_ne hc h2.tb (by decide)
  · refine h2.no.keep (fun k hk => (low k hk).trans (hag.below.block k hk)) fun g hg => (heap_setCell_other _ _ _ _ ?_).trans (hag.block g (h2.no.bs g hg).2 (by obtain ⟨cur, hc⟩ := h2.no.typ g hg; exact h2.t3 hc (by decide)))
    obtain ⟨cur, hc⟩ := h2.no.typ g hg
    exact typ_ne hc h2.tb (by decide)
  · refine hav.keep low fun g hg => heap_setCell_other _ _ _ _ ?_
    obtain ⟨cur, hc⟩ := hav.typ g hg
    exact typ_ne hc hT3 (by decide)
  · exact h.ne
  · rw [heap_setCell_other _ _ _ _ (show k ≠ T from hkT), hag.block k (by omega) k3]
    exact hb.block k hk
theorem St.setnm (h : St w0 w T t a o) (hb : Below w.heap.size w w2) (x : List UInt8) : St w0 (w2.setCell ⟨T, 0, none⟩ (.string (str x))) T { t with nm := x } a o ∧ Fr w (w2.setCell ⟨T, 0, none⟩ (.string (str x))) T o := by
  have h2 := h.below hb
  have low : ∀ k, k < w0.heap.size → (w2.setCell ⟨T, 0, none⟩ (.string (str x))).heap[k]? = w2.heap[k]? := fun k hk => heap_setCell_other _ _ _ _ (by have := h.ge; show k ≠ T; omega)
  refine ⟨⟨h2.be.setCell h.ge _, h.ge, Tk6.set h2.tb 0 _, ?_, ?_, ?_, ?_, h.ul, h.ne⟩, fun k hk hkT _ _ _ _ => ?_⟩
  · refine h2.sp.keep low fun g hg => heap_setCell_other _ _ _ _ ?_
    obtain ⟨cur, hc⟩ := h2.sp.typ g hg
    exact typ_ne hc h2.tb (by decide)
  · refine h2.ci.keep low fun g hg => heap_setCell_other _ _ _ _ ?_
    obtain ⟨cur, hc⟩ := h2.ci.typ g hg
    exact typ_ne hc h2.tb (by decide)
  · refine h2.no.keep low fun g hg => heap_setCell_other _ _ _ _ ?_
    obtain ⟨cur, hc⟩ := h2.no.typ g hg
    exact typ_ne hc h2.tb (by decide)
  · refine h2.bf.keep low fun g hg => heap_setCell_other _ _ _ _ ?_
    obtain ⟨cur, hc⟩ := h2.bf.typ g hg
    exact typ_ne hc h2.tb (by decide)
  · rw [heap_setCell_other _ _ _ _ (show k ≠ T from hkT)]
    exact hb.block k hk
theorem St.setwm (h : St w0 w T t a o) (hb : Below w.heap.size w w2) (x : Int) : St w0 (w2.setCell ⟨T, 1, none⟩ (.int .i64 x)) T { t with wm := x } a o ∧ Fr w (w2.setCell ⟨T, 1, none⟩ (.int .i64 x)) T o := by
  have h2 := h.below hb
  have low : ∀ k, k < w0.heap.size → (w2.setCell ⟨T, 1, none⟩ (.int .i64 x)).heap[k]? = w2.heap[k]? := fun k hk => heap_setCell_other _ _ _ _ (by have := h.ge; show k ≠ T; omega)
  refine ⟨⟨h2.be.setCell h.ge _, h.ge, Tk6.set h2.tb 1 _, ?_, ?_, ?_, ?_, h.ul, h.ne⟩, fun k hk hkT _ _ _ _ => ?_⟩
  · refine h2.sp.keep low fun g hg => heap_setCell_other _ _ _ _ ?_
    obtain ⟨cur, hc⟩ := h2.sp.typ g hg
    exact typ_ne hc h2.tb (by decide)
  · refine h2.ci.keep low fun g hg => heap_setCell_other _ _ _ _ ?_
    obtain ⟨cur, hc⟩ := h2.ci.typ g hg
    exact typ_ne hc h2.tb (by decide)
  · refine h2.no.keep low fun g hg => heap_setCell_other _ _ _ _ ?_
    obtain ⟨cur, hc⟩ := h2.no.typ g hg
    exact typ_ne hc h2.tb (by decide)
  · refine h2.bf.keep low fun g hg => heap_setCell_other _ _ _ _ ?_
    obtain ⟨cur, hc⟩ := h2.bf.typ g hg
    exact typ_ne hc h2.tb (by decide)
  · rw [heap_setCell_other _ _ _ _ (show k ≠ T from hkT)]
    exact hb.block k hk
end
end Go.Proofs.YtmjneokjgcgchaaGreat
