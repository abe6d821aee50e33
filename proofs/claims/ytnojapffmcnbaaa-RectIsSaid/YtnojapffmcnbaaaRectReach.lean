/-
  The program's own reach: for each of a list the highest code of it and of all ahead of it.
-/
import Derived.Test.YtnojapffmcnbaaaRectIno
import Derived.Laws.MakeOwn
namespace Go.Proofs.Ytnojapffmcnbaaa
open Go.RowKit Go.Sort

theorem infoZ : (Try.prog.info? 62).map (fun i => (i.zero, i.size, i.bytes)) = some (some (.complex .f64 0 0), 1, 16) := by kernel_rfl
/-- A slice at A holds codes as complex numbers. -/
def Sq (w : World) (B : Nat) (A : Option Addr) (F : List (Int × Int)) : Prop :=
  0 < F.length → ∃ b o, A = some ⟨b, o, none⟩ ∧ b < B ∧ ∀ (j : Nat) (p : Int × Int), F[j]? = some p → w.cell? ⟨b, o + j, none⟩ = some (.complex .f64 (flN p.1) (flN p.2))
theorem Sq.below {w w' : World} {B : Nat} {A : Option Addr} {F : List (Int × Int)} (h : Sq w B A F) (hb : Below B w w') : Sq w' B A F := fun hn => by
  obtain ⟨b, o, e, hlt, hc⟩ := h hn
  exact ⟨b, o, e, hlt, fun j p hp => (hb.cell (p := ⟨b, o + j, none⟩) hlt).trans (hc j p hp)⟩
theorem Sq.more {w : World} {B B' : Nat} {A : Option Addr} {F : List (Int × Int)} (h : Sq w B A F) (hB : B ≤ B') : Sq w B' A F := fun hn => by
  obtain ⟨b, o, e, hlt, hc⟩ := h hn
  exact ⟨b, o, e, by omega, hc⟩
theorem Sq.over {w w' : World} {A : Option Addr} {F : List (Int × Int)} (h : Sq w w.heap.size A F) (hb : Below w.heap.size w w') : Sq w' w'.heap.size A F := (h.below hb).more hb.size
theorem Sq.at {w : World} {B : Nat} {A : Option Addr} {F : List (Int × Int)} (h : Sq w B A F) {j : Nat} {p : Int × Int} (hp : F[j]? = some p) : ∃ b o, A = some ⟨b, o, none⟩ ∧ b < B ∧ w.cell? ⟨b, o + j, none⟩ = some (.complex .f64 (flN p.1) (flN p.2)) := by
  obtain ⟨b, o, e, hlt, hc⟩ := h (by have := (List.getElem?_eq_some_iff.1 hp).1; omega)
  exact ⟨b, o, e, hlt, hc j p hp⟩
theorem Gw.below {a b : World} (h : Gw a b) : Below a.heap.size a b := by
  obtain ⟨q, os, rfl⟩ := h
  exact ⟨rfl, rfl, rfl, by rw [size_grow]; exact Nat.le_add_right _ _, fun k hk => heap_grow_old _ _ hk⟩
/-- For each of a list, the highest code of it and of all ahead of it. -/
def Rch (F : List (Int × Int)) (l : List Rc) : Prop := ∀ (i : Nat) (p : Int × Int), F[i]? = some p →
  (∃ (j : Nat) (x : Rc), j ≤ i ∧ l[j]? = some x ∧ p = (x.n, x.hi)) ∧ ∀ (j : Nat) (x : Rc), j ≤ i → l[j]? = some x → ahB p.1 p.2 x.n x.hi = false
theorem ahB_iff (a b c d : Int) : ahB a b c d = true ↔ (a < c ∨ (a = c ∧ b < d)) := by unfold ahB; exact decide_eq_true_iff
theorem ahB_not (a b c d : Int) : ahB a b c d = false ↔ ¬ (a < c ∨ (a = c ∧ b < d)) := by unfold ahB; exact decide_eq_false_iff_not
theorem Rch.step {F : List (Int × Int)} {l : List Rc} {x : Rc} {p q : Int × Int} (h : Rch F l) (hl : F.length = l.length) (hp : F.length ≠ 0 → F[F.length - 1]? = some p) (hq : q = if F.length ≠ 0 ∧ ahB x.n x.hi p.1 p.2 = true then p else (x.n, x.hi)) : Rch (F ++ [q]) (l ++ [x]) := by
  intro i r hr
  have hi := (List.getElem?_eq_some_iff.1 hr).1
  rw [List.length_append, List.length_singleton] at hi
  by_cases e : i < F.length
  · rw [List.getElem?_append_left e] at hr
    obtain ⟨⟨j, y, hj, hy, ey⟩, h2⟩ := h i r hr
    refine ⟨⟨j, y, hj, by rw [List.getElem?_append_left (by omega)]; exact hy, ey⟩, fun j y hj hy => ?_⟩
    rw [List.getElem?_append_left (by omega)] at hy
    exact h2 j y hj hy
  · have ei : i = F.length := by omega
    subst ei
    rw [List.getElem?_append_right (Nat.le_refl _), Nat.sub_self, List.getElem?_cons_zero] at hr
    cases hr
    have hx : (l ++ [x])[F.length]? = some x := by rw [hl, List.getElem?_append_right (Nat.le_refl _), Nat.sub_self]; rfl
    by_cases hc : F.length ≠ 0 ∧ ahB x.n x.hi p.1 p.2 = true
    · rw [if_pos hc] at hq
      subst hq
      obtain ⟨⟨j, y, hj, hy, ey⟩, h2⟩ := h _ _ (hp hc.1)
      refine ⟨⟨j, y, by omega, by rw [List.getElem?_append_left (by omega)]; exact hy, ey⟩, fun j y hj hy => ?_⟩
      by_cases e2 : j < l.length
      · rw [List.getElem?_append_left e2] at hy
        exact h2 j y (by omega) hy
      · have : j = F.length := by omega
        subst this
        rw [hx] at hy
        cases hy
        have q1 := (ahB_iff _ _ _ _).1 hc.2
        exact (ahB_not _ _ _ _).2 (by omega)
    · rw [if_neg hc] at hq
      subst hq
      refine ⟨⟨F.length, x, Nat.le_refl _, hx, rfl⟩, fun j y hj hy => ?_⟩
      by_cases e2 : j < l.length
      · rw [List.getElem?_append_left e2] at hy
        have hn : F.length ≠ 0 := by omega
        have q1 : ahB x.n x.hi p.1 p.2 = false := by
          cases hb : ahB x.n x.hi p.1 p.2 with
          | false => rfl
          | true => exact absurd ⟨hn, hb⟩ hc
        have q2 := (h _ _ (hp hn)).2 j y (by omega) hy
        have r1 := (ahB_not _ _ _ _).1 q1
        have r2 := (ahB_not _ _ _ _).1 q2
        exact (ahB_not _ _ _ _).2 (by omega)
      · have : j = F.length := by omega
        subst this
        rw [hx] at hy
        cases hy
        exact (ahB_not _ _ _ _).2 (by simp)
theorem Rch.small {F : List (Int × Int)} {l : List Rc} (h : Rch F l) (hs : ∀ x ∈ l, Sml x) {i : Nat} {p : Int × Int} (hp : F[i]? = some p) : (0 ≤ p.1 ∧ p.1 < 4294967296) ∧ 0 ≤ p.2 ∧ p.2 < 4294967296 := by
  obtain ⟨⟨j, x, _, hx, rfl⟩, _⟩ := h i p hp
  have := hs x (List.mem_of_getElem? hx)
  exact ⟨⟨this.n0, this.n1⟩, this.h0, this.h1⟩
/-- What reach hands back. -/
def RetQ (w : World) (l : List Rc) (e : Ending) (w' : World) : Prop :=
  ∃ F A c, e = .returned (.slice A F.length c) ∧ F.length = l.length ∧ Rch F l ∧ Sq w' w'.heap.size A F ∧ Below w.heap.size w w'
/-- Cells of a block that may be written, the first ones known. -/
structure Qr (w : World) (g n : Nat) (F : List (Int × Int)) : Prop where
  sm : ∀ j, j < n → (w.cell? ⟨g, j, none⟩).isSome = true
  fz : ∀ j, j < n → w.frozen? ⟨g, j, none⟩ = false
  val : ∀ (j : Nat) (p : Int × Int), F[j]? = some p → w.cell? ⟨g, j, none⟩ = some (.complex .f64 (flN p.1) (flN p.2))
theorem Qr.below {w w' : World} {g n B : Nat} {F : List (Int × Int)} (h : Qr w g n F) (hb : Below B w w') (hB : g < B) : Qr w' g n F :=
  ⟨fun j hj => by rw [hb.cell (p := ⟨g, j, none⟩) hB]; exact h.sm j hj, fun j hj => (hb.frozen (p := ⟨g, j, none⟩) hB).trans (h.fz j hj), fun j p hp => (hb.cell (p := ⟨g, j, none⟩) hB).trans (h.val j p hp)⟩
theorem Qr.set {w : World} {g n : Nat} {F : List (Int × Int)} (h : Qr w g n F) (hn : F.length < n) (p : Int × Int) : Qr (w.setCell ⟨g, F.length, none⟩ (.complex .f64 (flN p.1) (flN p.2))) g n (F ++ [p]) := by
  have ne : ∀ j, j ≠ F.length → (⟨g, F.length, none⟩ : Addr) ≠ ⟨g, j, none⟩ := fun j hj e => by injection e with _ e2; exact hj e2.symm
  obtain ⟨u, hu⟩ := Option.isSome_iff_exists.1 (h.sm F.length hn)
  refine ⟨fun j hj => ?_, fun j hj => by rw [World.frozen?_setCell]; exact h.fz j hj, fun j q hq => ?_⟩
  · by_cases e : j = F.length
    · subst e
      rw [World.cell?_setCell_same _ _ _ hu]
      rfl
    · rw [World.cell?_setCell_other _ _ _ _ (ne j e)]
      exact h.sm j hj
  · by_cases e : j = F.length
    · subst e
      rw [List.getElem?_append_right (Nat.le_refl _), Nat.sub_self, List.getElem?_cons_zero] at hq
      cases hq
      exact World.cell?_setCell_same _ _ _ hu
    · rw [World.cell?_setCell_other _ _ _ _ (ne j e)]
      have hj := (List.getElem?_eq_some_iff.1 hq).1
      rw [List.length_append, List.length_singleton] at hj
      rw [List.getElem?_append_left (by omega)] at hq
      exact h.val j q hq
/-- The last one put anew. -/
theorem Qr.reset {w : World} {g n : Nat} {F : List (Int × Int)} {q : Int × Int} (h : Qr w g n (F ++ [q])) (hn : F.length < n) (p : Int × Int) : Qr (w.setCell ⟨g, F.length, none⟩ (.complex .f64 (flN p.1) (flN p.2))) g n (F ++ [p]) :=
  Qr.set (F := F) ⟨h.sm, h.fz, fun j r hr => h.val j r (by have := (List.getElem?_eq_some_iff.1 hr).1; rw [List.getElem?_append_left this]; exact hr)⟩ hn p
end Go.Proofs.Ytnojapffmcnbaaa
