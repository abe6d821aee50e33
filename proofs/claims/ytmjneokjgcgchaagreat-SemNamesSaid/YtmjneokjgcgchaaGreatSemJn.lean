/-
  A table's block whose lists are read; what putting a list together does: the program's closures.
-/
import Derived.Test.YtmjneokjgcgchaaGreatSemLst
import Derived.Test.YtmjneokjgcgchaaGreatPart1
import Derived.Test.YtmjneokjgcgchaaGreatSpanBuild
import Derived.Test.YtmjneokjgcgchaaGreatDestBuild
namespace Go.Proofs.YtmjneokjgcgchaaGreat
open Go.RowKit

/-- A block that has a table's shape. -/
def Tab (w : World) (b : Nat) : Prop := ∃ tz az, Tk6 w b tz az
/-- All blocks but tables' from B on. -/
abbrev Kt (B : Nat) (w w' : World) : Prop := Kp w w' (fun b => B ≤ b ∧ Tab w b)
theorem Tab.same {w w' : World} {b : Nat} (h : w'.heap[b]? = w.heap[b]?) : Tab w' b ↔ Tab w b := by
  unfold Tab Tk6
  rw [h]
theorem Kt.trans {B : Nat} {w w' w'' : World} (h : Kt B w w') (k : Kt B w' w'') : Kt B w w'' := ⟨Nat.le_trans h.size k.size, fun b hb hn => by
  have e := h.block b hb hn
  exact (k.block b (Nat.lt_of_lt_of_le hb h.size) (fun q => hn ⟨q.1, (Tab.same e).1 q.2⟩)).trans e⟩
theorem Kt.of_below {B : Nat} {w w' : World} (h : Below w.heap.size w w') : Kt B w w' := Kp.of_below h
/-- A table whose lists may be read as long as no block but tables' turns. -/
def Stm (B : Nat) (w : World) (t : Tb) (a : Ta) : Prop := ∀ w', Kt B w w' → Tm w' t a
theorem Stm.kt {B : Nat} {w w' : World} {t : Tb} {a : Ta} (h : Stm B w t a) (k : Kt B w w') : Stm B w' t a := fun _ k2 => h _ (k.trans k2)
theorem Stm.below {B : Nat} {w w' : World} {t : Tb} {a : Ta} (h : Stm B w t a) (k : Below w.heap.size w w') : Stm B w' t a := h.kt (Kt.of_below k)
theorem Stm.now {B : Nat} {w : World} {t : Tb} {a : Ta} (h : Stm B w t a) : Tm w t a := h w (Kp.refl _ _)
theorem Stm.up {B B' : Nat} {w : World} {t : Tb} {a : Ta} (h : Stm B w t a) (hB : B ≤ B') : Stm B' w t a := fun w' k => h w' ⟨k.size, fun b hb hn => k.block b hb (fun q => hn ⟨Nat.le_trans hB q.1, q.2⟩)⟩
/-- The table's block. -/
structure Rtb (w : World) (B T : Nat) (t : Tb) (a : Ta) : Prop where
  tb : Tk6 w T t a
  ge : B ≤ T
  tm : Stm B w t a
/-- But for the table's block. -/
structure Fj (w w' : World) (T : Nat) : Prop where
  below : Below T w w'
  keep : ∀ k, k < w.heap.size → k ≠ T → w'.heap[k]? = w.heap[k]?
theorem Fj.kt {w w' : World} {B T : Nat} (h : Fj w w' T) (hB : B ≤ T) (ht : Tab w T) : Kt B w w' := ⟨h.below.size, fun b hb hn => h.keep b hb (fun e => hn (by subst e; exact ⟨hB, ht⟩))⟩
theorem Fj.refl (w : World) (T : Nat) : Fj w w T := ⟨Below.refl _ _, fun _ _ _ => rfl⟩
theorem Fj.trans {w w' w'' : World} {T : Nat} (h : Fj w w' T) (k : Fj w' w'' T) : Fj w w'' T := ⟨h.below.trans k.below, fun b hb hn => (k.keep b (Nat.lt_of_lt_of_le hb h.below.size) hn).trans (h.keep b hb hn)⟩
theorem Fj.of_below {w w' : World} {T : Nat} (h : Below w.heap.size w w') (hT : T ≤ w.heap.size) : Fj w w' T := ⟨h.mono hT, fun k hk _ => h.block k hk⟩
theorem Fj.set {w : World} {T i : Nat} {v : Value} : Fj w (w.setCell ⟨T, i, none⟩ v) T := ⟨(Below.refl T w).setCell (Nat.le_refl _) _, fun k _ hne => heap_setCell_other _ _ _ _ (show k ≠ T from hne)⟩
section
variable {w w' w0 : World} {B T : Nat} {t : Tb} {a : Ta} {o : To}
theorem Rtb.below (h : Rtb w B T t a) (hb : Below w.heap.size w w') : Rtb w' B T t a := ⟨(hb.block T h.tb.lt).trans h.tb, h.ge, h.tm.below hb⟩
theorem Rtb.now (h : Rtb w B T t a) : Tm w t a := h.tm.now
theorem Kp.cel {X : Nat → Prop} (h : Kp w w' X) {b p : Nat} (hb : b < w.heap.size) (hx : ¬ X b) : w'.cell? ⟨b, p, none⟩ = w.cell? ⟨b, p, none⟩ := h.cell hb hx
/-- No two numbers stand side by side in a table's block. -/
theorem Tk6.no_ints (h : Tk6 w T t a) {p : Nat} {x y : Int} (h0 : w.cell? ⟨T, p, none⟩ = some (.int .i64 x)) (h1 : w.cell? ⟨T, p + 1, none⟩ = some (.int .i64 y)) : False := by
  unfold Tk6 at h
  simp only [World.cell?, h] at h0 h1
  match p, h0, h1 with
  | 0, h0, _ => simp at h0
  | 1, _, h1 => simp at h1
  | 2, h0, _ => simp at h0
  | 3, h0, _ => simp at h0
  | 4, h0, _ => simp at h0
  | 5, h0, _ => simp at h0
  | p + 6, h0, _ => simp at h0
theorem Sr.pst {B' : Nat} {A : Option Addr} {l : List Rc} (h : Sr w B' A l) (hB : B' ≤ w.heap.size) (hk : Kt B w w') : Sr w' w'.heap.size A l := fun hn => by
  obtain ⟨b, p, e, hb, hc⟩ := h hn
  have hne : ¬ (B ≤ b ∧ Tab w b) := by
    have := hc 0 _ (List.getElem?_eq_getElem hn)
    rintro ⟨_, tz, az, hz⟩
    exact hz.no_ints this.c0 this.c1
  exact ⟨b, p, e, Nat.lt_of_lt_of_le hb (Nat.le_trans hB hk.size), fun j x hx => (hc j x hx).keep fun i => hk.cel (by omega) hne⟩
theorem Ss.pst {B' : Nat} {A : Option Addr} {l : List Sp} (h : Ss w B' A l) (hB : B' ≤ w.heap.size) (hk : Kt B w w') : Ss w' w'.heap.size A l := fun hn => by
  obtain ⟨b, p, e, hb, hc⟩ := h hn
  have hne : ¬ (B ≤ b ∧ Tab w b) := by
    have := hc 0 _ (List.getElem?_eq_getElem hn)
    rintro ⟨_, tz, az, hz⟩
    exact hz.no_ints this.c0 this.c1
  exact ⟨b, p, e, Nat.lt_of_lt_of_le hb (Nat.le_trans hB hk.size), fun j x hx => (hc j x hx).keep fun i => hk.cel (by omega) hne⟩
theorem Rd.pst {B' : Nat} {A : Option Addr} {l : List Me} (h : Rd w B' A l) (hB : B' ≤ w.heap.size) (hk : Kt B w w') : Rd w' w'.heap.size A l := fun hn => by
  obtain ⟨b, p, e, hb, hc⟩ := h hn
  have hne : ¬ (B ≤ b ∧ Tab w b) := by
    have := hc 0 _ (List.getElem?_eq_getElem hn)
    rintro ⟨_, tz, az, hz⟩
    exact hz.no_ints this.c0 this.c1
  exact ⟨b, p, e, Nat.lt_of_lt_of_le hb (Nat.le_trans hB hk.size), fun j x hx => (hc j x hx).keep fun i => hk.cel (by omega) hne⟩
theorem Utl.pst {d : List Me} (h : Utl w d) (hk : Kt B w w') : Ul w' d := (h.ik ⟨hk.size, fun b cs f hb => (hk.block b (Array.getElem?_eq_some_iff.1 hb).1 (by
  rintro ⟨_, tz, az, hz⟩
  exact typ_ne hb hz (by decide) rfl)).trans hb⟩).ul
/-- A table whose units are in blocks of ints. -/
theorem Stm.zero (h : Tm w t a) (hu : Utl w t.bf) : Stm 0 w t a := fun _ k => ⟨h.sp.pst (Nat.le_refl _) k, h.ci.pst (Nat.le_refl _) k, h.no.pst (Nat.le_refl _) k, ⟨h.bf.rd.pst (Nat.le_refl _) k, hu.pst k⟩, h.l0, h.l1, h.l2, h.l3⟩
theorem Sr.of_cells {b p B : Nat} {l : List Rc} (hb : b < B) (h : ∀ j u, (rvs l)[j]? = some u → w.cell? ⟨b, p + j, none⟩ = some u) : Sr w B (some ⟨b, p, none⟩) l := fun _ => by
  refine ⟨b, p, rfl, hb, fun j x hx => ?_⟩
  have g : ∀ i u, i < 3 → (rq x)[i]? = some u → w.cell? ⟨b, p + j * 3 + i, none⟩ = some u := fun i u hi hu => by
    have := h (j * 3 + i) u ((rvs_get l j i x hx hi).trans hu)
    rwa [← Nat.add_assoc] at this
  exact ⟨g 0 _ (by omega) rfl, g 1 _ (by omega) rfl, g 2 _ (by omega) rfl⟩
theorem Ss.of_cells {b p B : Nat} {l : List Sp} (hb : b < B) (h : ∀ j u, (svs l)[j]? = some u → w.cell? ⟨b, p + j, none⟩ = some u) : Ss w B (some ⟨b, p, none⟩) l := fun _ => by
  refine ⟨b, p, rfl, hb, fun j x hx => ?_⟩
  have g : ∀ i u, i < 4 → (sq x)[i]? = some u → w.cell? ⟨b, p + j * 4 + i, none⟩ = some u := fun i u hi hu => by
    have := h (j * 4 + i) u ((svs_get l j i x hx hi).trans hu)
    rwa [← Nat.add_assoc] at this
  exact ⟨g 0 _ (by omega) rfl, g 1 _ (by omega) rfl, g 2 _ (by omega) rfl, g 3 _ (by omega) rfl⟩
theorem Rd.of_cells {b p B : Nat} {l : List Me} (hb : b < B) (h : ∀ j u, (dvs l)[j]? = some u → w.cell? ⟨b, p + j, none⟩ = some u) : Rd w B (some ⟨b, p, none⟩) l := fun _ => by
  refine ⟨b, p, rfl, hb, fun j x hx => ?_⟩
  have g : ∀ i u, i < 4 → (fq x)[i]? = some u → w.cell? ⟨b, p + j * 4 + i, none⟩ = some u := fun i u hi hu => by
    have := h (j * 4 + i) u ((dvs_get l j i x hx hi).trans hu)
    rwa [← Nat.add_assoc] at this
  exact ⟨g 0 _ (by omega) rfl, g 1 _ (by omega) rfl, g 2 _ (by omega) rfl, g 3 _ (by omega) rfl⟩
theorem Un.low {a : Option Addr} {c : Nat} {u : List Int} (h : Un w0 a c u) (hs : w0.heap.size ≤ w'.heap.size) (hk : ∀ b, b < w0.heap.size → w'.heap[b]? = w0.heap[b]?) : Un w' a c u :=
  ⟨h.c0, h.c1, (h.si.keep fun p hp => World.cell?_of_block (hk p.block hp)).more hs⟩
/-- What may be appended to may be read. -/
theorem St.rt (h : St w0 w T t a o) : Rtb w w0.heap.size T t a := by
  refine ⟨h.tb, h.ge, fun w2 k => ?_⟩
  have hs := h.be.size
  have hs2 := k.size
  refine ⟨fun hn => ?_, fun hn => ?_, fun hn => ?_, ⟨fun hn => ?_, fun m hm => ?_⟩, h.sp.cap, h.ci.cap, h.no.cap, h.bf.cap⟩
  · obtain ⟨b, p, e, hb, hc, hT⟩ := h.sp.cells hs hn
    rw [e]
    exact Sr.of_cells (by omega) (fun j u hu => (k.cel hb (by rintro ⟨hge, tz, az, hz⟩; exact hT b _ _ _ hz hge (by decide) rfl)).trans (hc j u hu)) hn
  · obtain ⟨b, p, e, hb, hc, hT⟩ := h.ci.cells hs hn
    rw [e]
    exact Ss.of_cells (by omega) (fun j u hu => (k.cel hb (by rintro ⟨hge, tz, az, hz⟩; exact hT b _ _ _ hz hge (by decide) rfl)).trans (hc j u hu)) hn
  · obtain ⟨b, p, e, hb, hc, hT⟩ := h.no.cells hs hn
    rw [e]
    exact Ss.of_cells (by omega) (fun j u hu => (k.cel hb (by rintro ⟨hge, tz, az, hz⟩; exact hT b _ _ _ hz hge (by decide) rfl)).trans (hc j u hu)) hn
  · obtain ⟨b, p, e, hb, hc, hT⟩ := h.bf.cells hs hn
    rw [e]
    exact Rd.of_cells (by omega) (fun j u hu => (k.cel hb (by rintro ⟨hge, tz, az, hz⟩; exact hT b _ _ _ hz hge (by decide) rfl)).trans (hc j u hu)) hn
  · exact (h.ul m hm).low (by omega) fun b hb => (k.block b (by omega) (by rintro ⟨hge, _⟩; omega)).trans (h.be.block b hb)
theorem Rtb.put0 {w2 : World} {l : List Rc} {A : Option Addr} {c : Nat} (h : Rtb w B T t a) (hb : Below w.heap.size w w2) (hc : l.length ≤ c) (hl : Sr w2 w2.heap.size A l) : Rtb (w2.setCell ⟨T, 2, none⟩ (.slice A l.length c)) B T { t with sp := l } { a with a0 := A, c0 := c } ∧ Fj w (w2.setCell ⟨T, 2, none⟩ (.slice A l.length c)) T := by
  have h2 := h.below hb
  have hset : Fj w2 (w2.setCell ⟨T, 2, none⟩ (.slice A l.length c)) T := Fj.set
  refine ⟨⟨Tk6.set h2.tb 2 _, h.ge, fun w4 k => ?_⟩, (Fj.of_below hb (Nat.le_of_lt h.tb.lt)).trans hset⟩
  have hk4 := (hset.kt h.ge ⟨_, _, h2.tb⟩).trans k
  have q := h2.tm w4 hk4
  exact ⟨hl.pst (Nat.le_refl _) hk4, q.ci, q.no, q.bf, hc, q.l1, q.l2, q.l3⟩
theorem Rtb.put1 {w2 : World} {l : List Sp} {A : Option Addr} {c : Nat} (h : Rtb w B T t a) (hb : Below w.heap.size w w2) (hc : l.length ≤ c) (hl : Ss w2 w2.heap.size A l) : Rtb (w2.setCell ⟨T, 3, none⟩ (.slice A l.length c)) B T { t with ci := l } { a with a1 := A, c1 := c } ∧ Fj w (w2.setCell ⟨T, 3, none⟩ (.slice A l.length c)) T := by
  have h2 := h.below hb
  have hset : Fj w2 (w2.setCell ⟨T, 3, none⟩ (.slice A l.length c)) T := Fj.set
  refine ⟨⟨Tk6.set h2.tb 3 _, h.ge, fun w4 k => ?_⟩, (Fj.of_below hb (Nat.le_of_lt h.tb.lt)).trans hset⟩
  have hk4 := (hset.kt h.ge ⟨_, _, h2.tb⟩).trans k
  have q := h2.tm w4 hk4
  exact ⟨q.sp, hl.pst (Nat.le_refl _) hk4, q.no, q.bf, q.l0, hc, q.l2, q.l3⟩
theorem Rtb.put2 {w2 : World} {l : List Sp} {A : Option Addr} {c : Nat} (h : Rtb w B T t a) (hb : Below w.heap.size w w2) (hc : l.length ≤ c) (hl : Ss w2 w2.heap.size A l) : Rtb (w2.setCell ⟨T, 4, none⟩ (.slice A l.length c)) B T { t with no := l } { a with a2 := A, c2 := c } ∧ Fj w (w2.setCell ⟨T, 4, none⟩ (.slice A l.length c)) T := by
  have h2 := h.below hb
  have hset : Fj w2 (w2.setCell ⟨T, 4, none⟩ (.slice A l.length c)) T := Fj.set
  refine ⟨⟨Tk6.set h2.tb 4 _, h.ge, fun w4 k => ?_⟩, (Fj.of_below hb (Nat.le_of_lt h.tb.lt)).trans hset⟩
  have hk4 := (hset.kt h.ge ⟨_, _, h2.tb⟩).trans k
  have q := h2.tm w4 hk4
  exact ⟨q.sp, q.ci, hl.pst (Nat.le_refl _) hk4, q.bf, q.l0, q.l1, hc, q.l3⟩
theorem Rtb.put3 {w2 : World} {l : List Me} {A : Option Addr} {c : Nat} (h : Rtb w B T t a) (hb : Below w.heap.size w w2) (hc : l.length ≤ c) (hl : Rd w2 w2.heap.size A l) (hu : ∀ w4, Kt B w2 w4 → Ul w4 l) : Rtb (w2.setCell ⟨T, 5, none⟩ (.slice A l.length c)) B T { t with bf := l } { a with a3 := A, c3 := c } ∧ Fj w (w2.setCell ⟨T, 5, none⟩ (.slice A l.length c)) T := by
  have h2 := h.below hb
  have hset : Fj w2 (w2.setCell ⟨T, 5, none⟩ (.slice A l.length c)) T := Fj.set
  refine ⟨⟨Tk6.set h2.tb 5 _, h.ge, fun w4 k => ?_⟩, (Fj.of_below hb (Nat.le_of_lt h.tb.lt)).trans hset⟩
  have hk4 := (hset.kt h.ge ⟨_, _, h2.tb⟩).trans k
  have q := h2.tm w4 hk4
  exact ⟨q.sp, q.ci, q.no, ⟨hl.pst (Nat.le_refl _) hk4, hu _ hk4⟩, q.l0, q.l1, q.l2, hc⟩
end
/-- What a call that puts together leaves. -/
def Jnd (w : World) (B T : Nat) (k : Int) (t : Tb) (e : Ending) (w' : World) : Prop := e = .returned (.tuple #[]) ∧ ∃ t' a', Blt k (Tp t) (Tp t') ∧ Rtb w' B T t' a' ∧ Fj w w' T ∧ (k = 7 → Utl w' t'.bf)
theorem blt_sp {p : Pg} {l : List Rc} (h : CR p.sp l) : Blt 2 p { p with sp := l } := ⟨rfl, rfl, by rw [if_pos rfl]; exact h, rfl, rfl, rfl⟩
theorem blt_ci {p : Pg} {l : List Sp} {k : Int} (hk : k = 3 ∨ k = 4) (h : IsS true p.ci l) : Blt k p { p with ci := l } := ⟨rfl, rfl, by rw [if_neg (by omega)], by rw [if_pos hk]; exact h, by rw [if_neg (by omega)], by rw [if_neg (by omega)]⟩
theorem blt_no {p : Pg} {l : List Sp} {k : Int} (hk : k = 5 ∨ k = 6) (h : IsS false p.no l) : Blt k p { p with no := l } := ⟨rfl, rfl, by rw [if_neg (by omega)], by rw [if_neg (by omega)], by rw [if_pos hk]; exact h, by rw [if_neg (by omega)]⟩
theorem blt_bf {p : Pg} {l : List Bp} {k : Int} (hk : k = 7 ∨ k = 8) (h : IsB p.bf l) : Blt k p { p with bf := l } := ⟨rfl, rfl, by rw [if_neg (by omega)], by rw [if_neg (by omega)], by rw [if_neg (by omega)], by rw [if_pos hk]; exact h⟩
theorem blt_none {p : Pg} {k : Int} (hk : k < 2 ∨ 8 < k) : Blt k p p := ⟨rfl, rfl, by rw [if_neg (by omega)], by rw [if_neg (by omega)], by rw [if_neg (by omega)], by rw [if_neg (by omega)]⟩
set_option maxRecDepth 100000 in
set_option maxHeartbeats 4000000 in
theorem jn0_any {w : World} {B T P : Nat} {t : Tb} {a : Ta} {k : Int} (h : Rtb w B T t a) (hP : Pk w P T) (hk : k = 2) (hl : t.sp.length ≤ 1000) :
    Calls Tryz.prog 72 #[.pointer (some ⟨P, 0, none⟩)] w (Jnd w B T k t) := by
  have KC : Hid (∀ W, (Sr W W.heap.size a.a0 t.sp) → Calls Tryz.prog 46 #[.slice a.a0 t.sp.length a.c0] W (Rcn W t.sp)) := Lib.hid fun W hT => Canon_any a.a0 a.c0 t.sp W hT (by omega)
  have hR : Rtb w.drew B T t a := ⟨h.tb, h.ge, fun w' k => h.tm w' ⟨k.size, k.block⟩⟩
  have HN := Lib.hid hR.now.sp
  have HR := Lib.hid hR
  have HPP : Hid (Pk w.drew P T) := Lib.hid hP
  have HTT : Hid (Tk6 w.drew T t a) := Lib.hid h.tb
  have HPL : Hid (P < w.drew.heap.size ∧ T < w.drew.heap.size) := Lib.hid ⟨(Array.getElem?_eq_some_iff.1 hP).1, h.tb.lt⟩
  have hPc : w.drew.cell? ⟨P, 0, none⟩ = some (.pointer (some ⟨T, 0, none⟩)) := Pk.cell hP
  have hTc : w.drew.cell? ⟨T, 2, none⟩ = some (.slice a.a0 t.sp.length a.c0) := h.tb.cells.2.2.1
  have HK := Lib.hid hk
  have HW0 : Hid (∀ w', Fj w.drew w' T → Fj w w' T) := Lib.hid fun w' k => ⟨(Below.refl T w).drew.trans k.below, k.keep⟩
  clear h hP hk hl hR
  go_enter Tryz.func72, Tryz.ntmps72
  go_wp2
  refine wp_region_held_drew (S := fun w' => w'.cell? ⟨P, 0, none⟩ = some (.pointer (some ⟨T, 0, none⟩))) (by kernel_rfl) (hPc) (fun hS0 => ?_)
  try dsimp only at hS0
  refine wpAnyH_take (i := 0) (oi := { dst := some 1, op := Op.load 82 (Operand.tmp 0), type := 82, pos := "sem.go:56", after := #[], guard := none }) (v := ?_) rfl (by kernel_rfl) (by kernel_rfl) (by kernel_rfl) (fun _ _ _ h => h) (Or.inl ⟨by rfl, ?_⟩) (by assumption) ?_
  rotate_left
  · intro w' hSw; obtain d0 := hSw; go_simp; try with_reducible rfl
  simp only [Act.put, List.setIfInBounds_toArray, List.set_cons_zero, List.set_cons_succ]
  refine wpAnyH_take (i := 1) (oi := { dst := some 2, op := Op.load 82 (Operand.tmp 0), type := 82, pos := "sem.go:56", after := #[], guard := none }) (v := ?_) rfl (by kernel_rfl) (by kernel_rfl) (by kernel_rfl) (fun _ _ _ h => h) (Or.inl ⟨by rfl, ?_⟩) (by assumption) ?_
  rotate_left
  · intro w' hSw; obtain d0 := hSw; go_simp; try with_reducible rfl
  simp only [Act.put, List.setIfInBounds_toArray, List.set_cons_zero, List.set_cons_succ]
  refine wpAnyH_take (i := 2) (oi := { dst := some 3, op := Op.nilCheck (Operand.tmp 2), type := 0, pos := "sem.go:56", after := #[{ on := 1, ground := Ground.data }], guard := none }) (v := ?_) rfl (by kernel_rfl) (by kernel_rfl) (by kernel_rfl) (fun _ _ _ h => h) (Or.inl ⟨by rfl, ?_⟩) (by assumption) ?_
  rotate_left
  · intro w' hSw; obtain d0 := hSw; go_simp; try with_reducible rfl
  simp only [Act.put, List.setIfInBounds_toArray, List.set_cons_zero, List.set_cons_succ]
  refine wpAnyH_take (i := 3) (oi := { dst := some 4, op := Op.fieldAddr 33 (Operand.tmp 3) 2, type := 0, pos := "sem.go:56", after := #[{ on := 2, ground := Ground.data }], guard := none }) (v := ?_) rfl (by kernel_rfl) (by kernel_rfl) (by kernel_rfl) (fun _ _ _ h => h) (Or.inl ⟨by rfl, ?_⟩) (by assumption) ?_
  rotate_left
  · intro w' hSw; obtain d0 := hSw; go_simp; try with_reducible rfl
  simp only [Act.put, List.setIfInBounds_toArray, List.set_cons_zero, List.set_cons_succ]
  refine wpAnyH_ready (rs := [4]) (by kernel_rfl) (by simp) (AllReadyH.cons rfl (fun K hK => ?_) AllReadyH.nil)
  go_simp
  go_wp2_with fail
  refine hK.out _ _ hPc (fun hS4 => ?_)
  clear hK K hS4
  refine wpAnyH_ready (rs := [5]) (by kernel_rfl) (by simp) (AllReadyH.cons rfl (fun K hK => ?_) AllReadyH.nil)
  go_simp
  go_wp2_with (go_at_call 46; (with_reducible refine (KC.out _ HN.out).mono ?_); rintro e w2 ⟨m, hm, hml, A, c, rfl, hc, hsr, hb2⟩)
  have hP2 := (hb2.block P HPL.out.1).trans HPP.out
  have hT2 := (hb2.block T HPL.out.2).trans HTT.out
  have q5 := (Tk6.cells hT2).2.2.1
  have q6 := Tk6.frozen hT2 2
  have hP3 := Pk.cell hP2
  refine hK.out _ _ hP3 (fun hS5 => ?_)
  clear hK K
  refine wpAnyH_take (i := 6) (oi := { dst := some 7, op := Op.nilCheck (Operand.tmp 1), type := 0, pos := "sem.go:56", after := #[{ on := 0, ground := Ground.data }, { on := 0, ground := Ground.phase }, { on := 1, ground := Ground.phase }, { on := 2, ground := Ground.phase }, { on := 3, ground := Ground.phase }, { on := 4, ground := Ground.phase }, { on := 5, ground := Ground.phase }], guard := none }) (v := ?_) rfl (by kernel_rfl) (by kernel_rfl) (by kernel_rfl) (fun _ _ _ h => h) (Or.inl ⟨by rfl, ?_⟩) (by assumption) ?_
  rotate_left
  · intro w' hSw; obtain d0 := hSw; go_simp; try with_reducible rfl
  refine wpAnyH_take (i := 7) (oi := { dst := some 8, op := Op.fieldAddr 33 (Operand.tmp 7) 2, type := 0, pos := "sem.go:56", after := #[{ on := 6, ground := Ground.data }, { on := 0, ground := Ground.phase }, { on := 1, ground := Ground.phase }, { on := 2, ground := Ground.phase }, { on := 3, ground := Ground.phase }, { on := 4, ground := Ground.phase }, { on := 5, ground := Ground.phase }], guard := none }) (v := ?_) rfl (by kernel_rfl) (by kernel_rfl) (by kernel_rfl) (fun _ _ _ h => h) (Or.inl ⟨by rfl, ?_⟩) (by assumption) ?_
  rotate_left
  · intro w' hSw; obtain d0 := hSw; go_simp; try with_reducible rfl
  have KP := Lib.hid (HR.out.put0 (l := m) (c := c) hb2 hc hsr)
  have hP4 : (w2.setCell ⟨T, 2, none⟩ (.slice A m.length c)).cell? ⟨P, 0, none⟩ = some (.pointer (some ⟨T, 0, none⟩)) := Pk.cell ((heap_setCell_other _ _ _ _ (show P ≠ T from typ_ne hP2 hT2 (by decide))).trans hP2)
  clear hS5
  refine wpAnyH_ready (rs := [8]) (by kernel_rfl) (by simp) (AllReadyH.cons rfl (fun K hK => ?_) AllReadyH.nil)
  go_simp
  go_wp2_with fail
  refine hK.out _ _ hP4 (fun hS8 => ?_)
  clear hK K hS8 q5 q6 hP3 hP4
  refine wpAnyH_done (by kernel_rfl) ?_ _
  go_wp2
  go_end0
  refine ⟨rfl, _, _, ?_, KP.out.1, HW0.out _ KP.out.2, (fun e => absurd e (by have := HK.out; omega))⟩
  exact by rw [HK.out]; exact blt_sp hm
set_option maxRecDepth 100000 in
set_option maxHeartbeats 4000000 in
theorem jn1_any {w : World} {B T P : Nat} {t : Tb} {a : Ta} {k : Int} (h : Rtb w B T t a) (hP : Pk w P T) (hk : k = 3 ∨ k = 4) (hl : t.ci.length ≤ 4000) :
    Calls Tryz.prog 75 #[.pointer (some ⟨P, 0, none⟩)] w (Jnd w B T k t) := by
  have KC : Hid (∀ W, (Ss W W.heap.size a.a1 t.ci) → Calls Tryz.prog 76 #[.slice a.a1 t.ci.length a.c1, .bool true] W (Bld W true t.ci)) := Lib.hid fun W hT => Build_any true t.ci (by omega) a.a1 a.c1 W hT
  have hR : Rtb w.drew B T t a := ⟨h.tb, h.ge, fun w' k => h.tm w' ⟨k.size, k.block⟩⟩
  have HN := Lib.hid hR.now.ci
  have HR := Lib.hid hR
  have HPP : Hid (Pk w.drew P T) := Lib.hid hP
  have HTT : Hid (Tk6 w.drew T t a) := Lib.hid h.tb
  have HPL : Hid (P < w.drew.heap.size ∧ T < w.drew.heap.size) := Lib.hid ⟨(Array.getElem?_eq_some_iff.1 hP).1, h.tb.lt⟩
  have hPc : w.drew.cell? ⟨P, 0, none⟩ = some (.pointer (some ⟨T, 0, none⟩)) := Pk.cell hP
  have hTc : w.drew.cell? ⟨T, 3, none⟩ = some (.slice a.a1 t.ci.length a.c1) := h.tb.cells.2.2.2.1
  have HK := Lib.hid hk
  have HW0 : Hid (∀ w', Fj w.drew w' T → Fj w w' T) := Lib.hid fun w' k => ⟨(Below.refl T w).drew.trans k.below, k.keep⟩
  clear h hP hk hl hR
  go_enter Tryz.func75, Tryz.ntmps75
  go_wp2
  refine wp_region_held_drew (S := fun w' => w'.cell? ⟨P, 0, none⟩ = some (.pointer (some ⟨T, 0, none⟩))) (by kernel_rfl) (hPc) (fun hS0 => ?_)
  try dsimp only at hS0
  refine wpAnyH_take (i := 0) (oi := { dst := some 1, op := Op.load 82 (Operand.tmp 0), type := 82, pos := "sem.go:61", after := #[], guard := none }) (v := ?_) rfl (by kernel_rfl) (by kernel_rfl) (by kernel_rfl) (fun _ _ _ h => h) (Or.inl ⟨by rfl, ?_⟩) (by assumption) ?_
  rotate_left
  · intro w' hSw; obtain d0 := hSw; go_simp; try with_reducible rfl
  simp only [Act.put, List.setIfInBounds_toArray, List.set_cons_zero, List.set_cons_succ]
  refine wpAnyH_take (i := 1) (oi := { dst := some 2, op := Op.load 82 (Operand.tmp 0), type := 82, pos := "sem.go:61", after := #[], guard := none }) (v := ?_) rfl (by kernel_rfl) (by kernel_rfl) (by kernel_rfl) (fun _ _ _ h => h) (Or.inl ⟨by rfl, ?_⟩) (by assumption) ?_
  rotate_left
  · intro w' hSw; obtain d0 := hSw; go_simp; try with_reducible rfl
  simp only [Act.put, List.setIfInBounds_toArray, List.set_cons_zero, List.set_cons_succ]
  refine wpAnyH_take (i := 2) (oi := { dst := some 3, op := Op.nilCheck (Operand.tmp 2), type := 0, pos := "sem.go:61", after := #[{ on := 1, ground := Ground.data }], guard := none }) (v := ?_) rfl (by kernel_rfl) (by kernel_rfl) (by kernel_rfl) (fun _ _ _ h => h) (Or.inl ⟨by rfl, ?_⟩) (by assumption) ?_
  rotate_left
  · intro w' hSw; obtain d0 := hSw; go_simp; try with_reducible rfl
  simp only [Act.put, List.setIfInBounds_toArray, List.set_cons_zero, List.set_cons_succ]
  refine wpAnyH_take (i := 3) (oi := { dst := some 4, op := Op.fieldAddr 33 (Operand.tmp 3) 3, type := 0, pos := "sem.go:61", after := #[{ on := 2, ground := Ground.data }], guard := none }) (v := ?_) rfl (by kernel_rfl) (by kernel_rfl) (by kernel_rfl) (fun _ _ _ h => h) (Or.inl ⟨by rfl, ?_⟩) (by assumption) ?_
  rotate_left
  · intro w' hSw; obtain d0 := hSw; go_simp; try with_reducible rfl
  simp only [Act.put, List.setIfInBounds_toArray, List.set_cons_zero, List.set_cons_succ]
  refine wpAnyH_ready (rs := [4]) (by kernel_rfl) (by simp) (AllReadyH.cons rfl (fun K hK => ?_) AllReadyH.nil)
  go_simp
  go_wp2_with fail
  refine hK.out _ _ hPc (fun hS4 => ?_)
  clear hK K hS4
  refine wpAnyH_ready (rs := [5]) (by kernel_rfl) (by simp) (AllReadyH.cons rfl (fun K hK => ?_) AllReadyH.nil)
  go_simp
  go_wp2_with (go_at_call 76; (with_reducible refine (KC.out _ HN.out).mono ?_); rintro e w2 ⟨m, hm, hml, A, c, rfl, hc, hnil, hsr, hb2⟩)
  have hP2 := (hb2.block P HPL.out.1).trans HPP.out
  have hT2 := (hb2.block T HPL.out.2).trans HTT.out
  have q5 := (Tk6.cells hT2).2.2.2.1
  have q6 := Tk6.frozen hT2 3
  have hP3 := Pk.cell hP2
  refine hK.out _ _ hP3 (fun hS5 => ?_)
  clear hK K
  refine wpAnyH_take (i := 6) (oi := { dst := some 7, op := Op.nilCheck (Operand.tmp 1), type := 0, pos := "sem.go:61", after := #[{ on := 0, ground := Ground.data }, { on := 0, ground := Ground.phase }, { on := 1, ground := Ground.phase }, { on := 2, ground := Ground.phase }, { on := 3, ground := Ground.phase }, { on := 4, ground := Ground.phase }, { on := 5, ground := Ground.phase }], guard := none }) (v := ?_) rfl (by kernel_rfl) (by kernel_rfl) (by kernel_rfl) (fun _ _ _ h => h) (Or.inl ⟨by rfl, ?_⟩) (by assumption) ?_
  rotate_left
  · intro w' hSw; obtain d0 := hSw; go_simp; try with_reducible rfl
  refine wpAnyH_take (i := 7) (oi := { dst := some 8, op := Op.fieldAddr 33 (Operand.tmp 7) 3, type := 0, pos := "sem.go:61", after := #[{ on := 6, ground := Ground.data }, { on := 0, ground := Ground.phase }, { on := 1, ground := Ground.phase }, { on := 2, ground := Ground.phase }, { on := 3, ground := Ground.phase }, { on := 4, ground := Ground.phase }, { on := 5, ground := Ground.phase }], guard := none }) (v := ?_) rfl (by kernel_rfl) (by kernel_rfl) (by kernel_rfl) (fun _ _ _ h => h) (Or.inl ⟨by rfl, ?_⟩) (by assumption) ?_
  rotate_left
  · intro w' hSw; obtain d0 := hSw; go_simp; try with_reducible rfl
  have KP := Lib.hid (HR.out.put1 (l := m) (c := c) hb2 hc hsr)
  have hP4 : (w2.setCell ⟨T, 3, none⟩ (.slice A m.length c)).cell? ⟨P, 0, none⟩ = some (.pointer (some ⟨T, 0, none⟩)) := Pk.cell ((heap_setCell_other _ _ _ _ (show P ≠ T from typ_ne hP2 hT2 (by decide))).trans hP2)
  clear hS5
  refine wpAnyH_ready (rs := [8]) (by kernel_rfl) (by simp) (AllReadyH.cons rfl (fun K hK => ?_) AllReadyH.nil)
  go_simp
  go_wp2_with fail
  refine hK.out _ _ hP4 (fun hS8 => ?_)
  clear hK K hS8 q5 q6 hP3 hP4
  refine wpAnyH_done (by kernel_rfl) ?_ _
  go_wp2
  go_end0
  refine ⟨rfl, _, _, ?_, KP.out.1, HW0.out _ KP.out.2, (fun e => absurd e (by have := HK.out; omega))⟩
  exact blt_ci HK.out ⟨hm, hml⟩
set_option maxRecDepth 100000 in
set_option maxHeartbeats 4000000 in
theorem jn2_any {w : World} {B T P : Nat} {t : Tb} {a : Ta} {k : Int} (h : Rtb w B T t a) (hP : Pk w P T) (hk : k = 5 ∨ k = 6) (hl : t.no.length ≤ 4000) :
    Calls Tryz.prog 78 #[.pointer (some ⟨P, 0, none⟩)] w (Jnd w B T k t) := by
  have KC : Hid (∀ W, (Ss W W.heap.size a.a2 t.no) → Calls Tryz.prog 76 #[.slice a.a2 t.no.length a.c2, .bool false] W (Bld W false t.no)) := Lib.hid fun W hT => Build_any false t.no (by omega) a.a2 a.c2 W hT
  have hR : Rtb w.drew B T t a := ⟨h.tb, h.ge, fun w' k => h.tm w' ⟨k.size, k.block⟩⟩
  have HN := Lib.hid hR.now.no
  have HR := Lib.hid hR
  have HPP : Hid (Pk w.drew P T) := Lib.hid hP
  have HTT : Hid (Tk6 w.drew T t a) := Lib.hid h.tb
  have HPL : Hid (P < w.drew.heap.size ∧ T < w.drew.heap.size) := Lib.hid ⟨(Array.getElem?_eq_some_iff.1 hP).1, h.tb.lt⟩
  have hPc : w.drew.cell? ⟨P, 0, none⟩ = some (.pointer (some ⟨T, 0, none⟩)) := Pk.cell hP
  have hTc : w.drew.cell? ⟨T, 4, none⟩ = some (.slice a.a2 t.no.length a.c2) := h.tb.cells.2.2.2.2.1
  have HK := Lib.hid hk
  have HW0 : Hid (∀ w', Fj w.drew w' T → Fj w w' T) := Lib.hid fun w' k => ⟨(Below.refl T w).drew.trans k.below, k.keep⟩
  clear h hP hk hl hR
  go_enter Tryz.func78, Tryz.ntmps78
  go_wp2
  refine wp_region_held_drew (S := fun w' => w'.cell? ⟨P, 0, none⟩ = some (.pointer (some ⟨T, 0, none⟩))) (by kernel_rfl) (hPc) (fun hS0 => ?_)
  try dsimp only at hS0
  refine wpAnyH_take (i := 0) (oi := { dst := some 1, op := Op.load 82 (Operand.tmp 0), type := 82, pos := "sem.go:66", after := #[], guard := none }) (v := ?_) rfl (by kernel_rfl) (by kernel_rfl) (by kernel_rfl) (fun _ _ _ h => h) (Or.inl ⟨by rfl, ?_⟩) (by assumption) ?_
  rotate_left
  · intro w' hSw; obtain d0 := hSw; go_simp; try with_reducible rfl
  simp only [Act.put, List.setIfInBounds_toArray, List.set_cons_zero, List.set_cons_succ]
  refine wpAnyH_take (i := 1) (oi := { dst := some 2, op := Op.load 82 (Operand.tmp 0), type := 82, pos := "sem.go:66", after := #[], guard := none }) (v := ?_) rfl (by kernel_rfl) (by kernel_rfl) (by kernel_rfl) (fun _ _ _ h => h) (Or.inl ⟨by rfl, ?_⟩) (by assumption) ?_
  rotate_left
  · intro w' hSw; obtain d0 := hSw; go_simp; try with_reducible rfl
  simp only [Act.put, List.setIfInBounds_toArray, List.set_cons_zero, List.set_cons_succ]
  refine wpAnyH_take (i := 2) (oi := { dst := some 3, op := Op.nilCheck (Operand.tmp 2), type := 0, pos := "sem.go:66", after := #[{ on := 1, ground := Ground.data }], guard := none }) (v := ?_) rfl (by kernel_rfl) (by kernel_rfl) (by kernel_rfl) (fun _ _ _ h => h) (Or.inl ⟨by rfl, ?_⟩) (by assumption) ?_
  rotate_left
  · intro w' hSw; obtain d0 := hSw; go_simp; try with_reducible rfl
  simp only [Act.put, List.setIfInBounds_toArray, List.set_cons_zero, List.set_cons_succ]
  refine wpAnyH_take (i := 3) (oi := { dst := some 4, op := Op.fieldAddr 33 (Operand.tmp 3) 4, type := 0, pos := "sem.go:66", after := #[{ on := 2, ground := Ground.data }], guard := none }) (v := ?_) rfl (by kernel_rfl) (by kernel_rfl) (by kernel_rfl) (fun _ _ _ h => h) (Or.inl ⟨by rfl, ?_⟩) (by assumption) ?_
  rotate_left
  · intro w' hSw; obtain d0 := hSw; go_simp; try with_reducible rfl
  simp only [Act.put, List.setIfInBounds_toArray, List.set_cons_zero, List.set_cons_succ]
  refine wpAnyH_ready (rs := [4]) (by kernel_rfl) (by simp) (AllReadyH.cons rfl (fun K hK => ?_) AllReadyH.nil)
  go_simp
  go_wp2_with fail
  refine hK.out _ _ hPc (fun hS4 => ?_)
  clear hK K hS4
  refine wpAnyH_ready (rs := [5]) (by kernel_rfl) (by simp) (AllReadyH.cons rfl (fun K hK => ?_) AllReadyH.nil)
  go_simp
  go_wp2_with (go_at_call 76; (with_reducible refine (KC.out _ HN.out).mono ?_); rintro e w2 ⟨m, hm, hml, A, c, rfl, hc, hnil, hsr, hb2⟩)
  have hP2 := (hb2.block P HPL.out.1).trans HPP.out
  have hT2 := (hb2.block T HPL.out.2).trans HTT.out
  have q5 := (Tk6.cells hT2).2.2.2.2.1
  have q6 := Tk6.frozen hT2 4
  have hP3 := Pk.cell hP2
  refine hK.out _ _ hP3 (fun hS5 => ?_)
  clear hK K
  refine wpAnyH_take (i := 6) (oi := { dst := some 7, op := Op.nilCheck (Operand.tmp 1), type := 0, pos := "sem.go:66", after := #[{ on := 0, ground := Ground.data }, { on := 0, ground := Ground.phase }, { on := 1, ground := Ground.phase }, { on := 2, ground := Ground.phase }, { on := 3, ground := Ground.phase }, { on := 4, ground := Ground.phase }, { on := 5, ground := Ground.phase }], guard := none }) (v := ?_) rfl (by kernel_rfl) (by kernel_rfl) (by kernel_rfl) (fun _ _ _ h => h) (Or.inl ⟨by rfl, ?_⟩) (by assumption) ?_
  rotate_left
  · intro w' hSw; obtain d0 := hSw; go_simp; try with_reducible rfl
  refine wpAnyH_take (i := 7) (oi := { dst := some 8, op := Op.fieldAddr 33 (Operand.tmp 7) 4, type := 0, pos := "sem.go:66", after := #[{ on := 6, ground := Ground.data }, { on := 0, ground := Ground.phase }, { on := 1, ground := Ground.phase }, { on := 2, ground := Ground.phase }, { on := 3, ground := Ground.phase }, { on := 4, ground := Ground.phase }, { on := 5, ground := Ground.phase }], guard := none }) (v := ?_) rfl (by kernel_rfl) (by kernel_rfl) (by kernel_rfl) (fun _ _ _ h => h) (Or.inl ⟨by rfl, ?_⟩) (by assumption) ?_
  rotate_left
  · intro w' hSw; obtain d0 := hSw; go_simp; try with_reducible rfl
  have KP := Lib.hid (HR.out.put2 (l := m) (c := c) hb2 hc hsr)
  have hP4 : (w2.setCell ⟨T, 4, none⟩ (.slice A m.length c)).cell? ⟨P, 0, none⟩ = some (.pointer (some ⟨T, 0, none⟩)) := Pk.cell ((heap_setCell_other _ _ _ _ (show P ≠ T from typ_ne hP2 hT2 (by decide))).trans hP2)
  clear hS5
  refine wpAnyH_ready (rs := [8]) (by kernel_rfl) (by simp) (AllReadyH.cons rfl (fun K hK => ?_) AllReadyH.nil)
  go_simp
  go_wp2_with fail
  refine hK.out _ _ hP4 (fun hS8 => ?_)
  clear hK K hS8 q5 q6 hP3 hP4
  refine wpAnyH_done (by kernel_rfl) ?_ _
  go_wp2
  go_end0
  refine ⟨rfl, _, _, ?_, KP.out.1, HW0.out _ KP.out.2, (fun e => absurd e (by have := HK.out; omega))⟩
  exact blt_no HK.out ⟨hm, hml⟩
set_option maxRecDepth 100000 in
set_option maxHeartbeats 4000000 in
theorem jn3_any {w : World} {B T P : Nat} {t : Tb} {a : Ta} {k : Int} (h : Rtb w B T t a) (hP : Pk w P T) (hk : k = 7 ∨ k = 8) (hl : t.bf.length ≤ 10000) :
    Calls Tryz.prog 81 #[.pointer (some ⟨P, 0, none⟩)] w (Jnd w B T k t) := by
  have KC : Hid (∀ W, (Sd W a.a3 t.bf) → Calls Tryz.prog 82 #[.slice a.a3 t.bf.length a.c3] W (BuiltB W (pl t.bf))) := Lib.hid fun W hT => DBuild_any t.bf (by omega) a.a3 a.c3 W hT
  have hR : Rtb w.drew B T t a := ⟨h.tb, h.ge, fun w' k => h.tm w' ⟨k.size, k.block⟩⟩
  have HN := Lib.hid hR.now.bf
  have HR := Lib.hid hR
  have HPP : Hid (Pk w.drew P T) := Lib.hid hP
  have HTT : Hid (Tk6 w.drew T t a) := Lib.hid h.tb
  have HPL : Hid (P < w.drew.heap.size ∧ T < w.drew.heap.size) := Lib.hid ⟨(Array.getElem?_eq_some_iff.1 hP).1, h.tb.lt⟩
  have hPc : w.drew.cell? ⟨P, 0, none⟩ = some (.pointer (some ⟨T, 0, none⟩)) := Pk.cell hP
  have hTc : w.drew.cell? ⟨T, 5, none⟩ = some (.slice a.a3 t.bf.length a.c3) := h.tb.cells.2.2.2.2.2
  have HK := Lib.hid hk
  have HW0 : Hid (∀ w', Fj w.drew w' T → Fj w w' T) := Lib.hid fun w' k => ⟨(Below.refl T w).drew.trans k.below, k.keep⟩
  clear h hP hk hl hR
  go_enter Tryz.func81, Tryz.ntmps81
  go_wp2
  refine wp_region_held_drew (S := fun w' => w'.cell? ⟨P, 0, none⟩ = some (.pointer (some ⟨T, 0, none⟩))) (by kernel_rfl) (hPc) (fun hS0 => ?_)
  try dsimp only at hS0
  refine wpAnyH_take (i := 0) (oi := { dst := some 1, op := Op.load 82 (Operand.tmp 0), type := 82, pos := "sem.go:71", after := #[], guard := none }) (v := ?_) rfl (by kernel_rfl) (by kernel_rfl) (by kernel_rfl) (fun _ _ _ h => h) (Or.inl ⟨by rfl, ?_⟩) (by assumption) ?_
  rotate_left
  · intro w' hSw; obtain d0 := hSw; go_simp; try with_reducible rfl
  simp only [Act.put, List.setIfInBounds_toArray, List.set_cons_zero, List.set_cons_succ]
  refine wpAnyH_take (i := 1) (oi := { dst := some 2, op := Op.load 82 (Operand.tmp 0), type := 82, pos := "sem.go:71", after := #[], guard := none }) (v := ?_) rfl (by kernel_rfl) (by kernel_rfl) (by kernel_rfl) (fun _ _ _ h => h) (Or.inl ⟨by rfl, ?_⟩) (by assumption) ?_
  rotate_left
  · intro w' hSw; obtain d0 := hSw; go_simp; try with_reducible rfl
  simp only [Act.put, List.setIfInBounds_toArray, List.set_cons_zero, List.set_cons_succ]
  refine wpAnyH_take (i := 2) (oi := { dst := some 3, op := Op.nilCheck (Operand.tmp 2), type := 0, pos := "sem.go:71", after := #[{ on := 1, ground := Ground.data }], guard := none }) (v := ?_) rfl (by kernel_rfl) (by kernel_rfl) (by kernel_rfl) (fun _ _ _ h => h) (Or.inl ⟨by rfl, ?_⟩) (by assumption) ?_
  rotate_left
  · intro w' hSw; obtain d0 := hSw; go_simp; try with_reducible rfl
  simp only [Act.put, List.setIfInBounds_toArray, List.set_cons_zero, List.set_cons_succ]
  refine wpAnyH_take (i := 3) (oi := { dst := some 4, op := Op.fieldAddr 33 (Operand.tmp 3) 5, type := 0, pos := "sem.go:71", after := #[{ on := 2, ground := Ground.data }], guard := none }) (v := ?_) rfl (by kernel_rfl) (by kernel_rfl) (by kernel_rfl) (fun _ _ _ h => h) (Or.inl ⟨by rfl, ?_⟩) (by assumption) ?_
  rotate_left
  · intro w' hSw; obtain d0 := hSw; go_simp; try with_reducible rfl
  simp only [Act.put, List.setIfInBounds_toArray, List.set_cons_zero, List.set_cons_succ]
  refine wpAnyH_ready (rs := [4]) (by kernel_rfl) (by simp) (AllReadyH.cons rfl (fun K hK => ?_) AllReadyH.nil)
  go_simp
  go_wp2_with fail
  refine hK.out _ _ hPc (fun hS4 => ?_)
  clear hK K hS4
  refine wpAnyH_ready (rs := [5]) (by kernel_rfl) (by simp) (AllReadyH.cons rfl (fun K hK => ?_) AllReadyH.nil)
  go_simp
  go_wp2_with (go_at_call 82; (with_reducible refine (KC.out _ HN.out).mono ?_); rintro e w2 ⟨m, A, c, rfl, hc, hnil, hsd, hut, hct, htell, hb2⟩)
  have hP2 := (hb2.block P HPL.out.1).trans HPP.out
  have hT2 := (hb2.block T HPL.out.2).trans HTT.out
  have q5 := (Tk6.cells hT2).2.2.2.2.2
  have q6 := Tk6.frozen hT2 5
  have hP3 := Pk.cell hP2
  refine hK.out _ _ hP3 (fun hS5 => ?_)
  clear hK K
  refine wpAnyH_take (i := 6) (oi := { dst := some 7, op := Op.nilCheck (Operand.tmp 1), type := 0, pos := "sem.go:71", after := #[{ on := 0, ground := Ground.data }, { on := 0, ground := Ground.phase }, { on := 1, ground := Ground.phase }, { on := 2, ground := Ground.phase }, { on := 3, ground := Ground.phase }, { on := 4, ground := Ground.phase }, { on := 5, ground := Ground.phase }], guard := none }) (v := ?_) rfl (by kernel_rfl) (by kernel_rfl) (by kernel_rfl) (fun _ _ _ h => h) (Or.inl ⟨by rfl, ?_⟩) (by assumption) ?_
  rotate_left
  · intro w' hSw; obtain d0 := hSw; go_simp; try with_reducible rfl
  refine wpAnyH_take (i := 7) (oi := { dst := some 8, op := Op.fieldAddr 33 (Operand.tmp 7) 5, type := 0, pos := "sem.go:71", after := #[{ on := 6, ground := Ground.data }, { on := 0, ground := Ground.phase }, { on := 1, ground := Ground.phase }, { on := 2, ground := Ground.phase }, { on := 3, ground := Ground.phase }, { on := 4, ground := Ground.phase }, { on := 5, ground := Ground.phase }], guard := none }) (v := ?_) rfl (by kernel_rfl) (by kernel_rfl) (by kernel_rfl) (fun _ _ _ h => h) (Or.inl ⟨by rfl, ?_⟩) (by assumption) ?_
  rotate_left
  · intro w' hSw; obtain d0 := hSw; go_simp; try with_reducible rfl
  have KP := Lib.hid (HR.out.put3 (l := m) (c := c) hb2 hc hsd.rd (fun _ k => hut.pst k))
  have hP4 : (w2.setCell ⟨T, 5, none⟩ (.slice A m.length c)).cell? ⟨P, 0, none⟩ = some (.pointer (some ⟨T, 0, none⟩)) := Pk.cell ((heap_setCell_other _ _ _ _ (show P ≠ T from typ_ne hP2 hT2 (by decide))).trans hP2)
  clear hS5
  have HUT : Hid (Utl (w2.setCell ⟨T, 5, none⟩ (.slice A m.length c)) m) := Lib.hid (hut.ik ⟨by simp, fun b cs f hb => (heap_setCell_other _ _ _ _ (show b ≠ T from typ_ne hb hT2 (by decide))).trans hb⟩)
  refine wpAnyH_ready (rs := [8]) (by kernel_rfl) (by simp) (AllReadyH.cons rfl (fun K hK => ?_) AllReadyH.nil)
  go_simp
  go_wp2_with fail
  refine hK.out _ _ hP4 (fun hS8 => ?_)
  clear hK K hS8 q5 q6 hP3 hP4
  refine wpAnyH_done (by kernel_rfl) ?_ _
  go_wp2
  go_end0
  refine ⟨rfl, _, _, ?_, KP.out.1, HW0.out _ KP.out.2, fun _ => HUT.out⟩
  exact blt_bf HK.out ⟨hct, htell⟩
end Go.Proofs.YtmjneokjgcgchaaGreat
