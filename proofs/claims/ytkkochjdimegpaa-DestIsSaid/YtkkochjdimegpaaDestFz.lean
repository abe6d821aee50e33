/-
  What overlaying leaves alone: all blocks but one, and of that one all cells but those between two places.
-/
import Derived.Test.YtkkochjdimegpaaDestAdd
namespace Go.Proofs.Ytkkochjdimegpaa
open Go.RowKit

/-- Only cells of one block, between lo and hi, are written. -/
structure Fz (w w' : World) (bt lo hi : Nat) : Prop where
  os : w'.os = w.os
  tape : w'.tape = w.tape
  output : w'.output = w.output
  size : w.heap.size ≤ w'.heap.size
  keep : ∀ b : Nat, b < w.heap.size → b ≠ bt → w'.heap[b]? = w.heap[b]?
  part : ∀ cs, w.heap[bt]? = some (Obj.cells cs 25 (0, 0)) → ∃ cs', w'.heap[bt]? = some (Obj.cells cs' 25 (0, 0)) ∧ cs'.size = cs.size ∧ ∀ i : Nat, i < lo ∨ hi ≤ i → cs'[i]? = cs[i]?
/-- Entries of a block, from a place on. -/
def Rt (w : World) (b o : Nat) (d : List Me) : Prop := ∃ cs : Array Value, w.heap[b]? = some (Obj.cells cs 25 (0, 0)) ∧ ∀ (j : Nat) (x : Me), d[j]? = some x → ∀ i u, (fq x)[i]? = some u → cs[o + j * 4 + i]? = some u
theorem cell_cs {w : World} {b i : Nat} {cs : Array Value} {t : TypeId} {f : Nat × Nat} (h : w.heap[b]? = some (Obj.cells cs t f)) : w.cell? ⟨b, i, none⟩ = cs[i]? := by simp [World.cell?, h]
theorem frozen_cs {w : World} {b i : Nat} {cs : Array Value} {t : TypeId} (h : w.heap[b]? = some (Obj.cells cs t (0, 0))) : w.frozen? ⟨b, i, none⟩ = false := by simp [World.frozen?, h]
section
variable {w w' w'' : World} {bt lo hi b o : Nat} {d : List Me}
theorem Fz.refl (w : World) (bt lo hi : Nat) : Fz w w bt lo hi := ⟨rfl, rfl, rfl, Nat.le_refl _, fun _ _ _ => rfl, fun cs h => ⟨cs, h, rfl, fun _ _ => rfl⟩⟩
theorem Fz.below (h : Fz w w' bt lo hi) (k : Below w'.heap.size w' w'') : Fz w w'' bt lo hi := ⟨k.os.trans h.os, k.tape.trans h.tape, k.output.trans h.output, Nat.le_trans h.size k.size, fun b hb hn => (k.block b (Nat.lt_of_lt_of_le hb h.size)).trans (h.keep b hb hn), fun cs hc => by
  obtain ⟨cs', h1, h2, h3⟩ := h.part cs hc
  exact ⟨cs', (k.block bt (Array.getElem?_eq_some_iff.1 h1).1).trans h1, h2, h3⟩⟩
theorem Fz.grown (h : Fz w w' bt lo hi) {row : Option Nat} (k : w'.grownBy w'' row) (hr : ∀ g, row = some g → w.heap.size ≤ g) : Fz w w'' bt lo hi := ⟨k.os.trans h.os, k.tape.trans h.tape, k.output.trans h.output, Nat.le_trans h.size k.size, fun b hb hn => (k.block b (Nat.lt_of_lt_of_le hb h.size) (fun e => by have := hr b e.symm; omega)).trans (h.keep b hb hn), fun cs hc => by
  obtain ⟨cs', h1, h2, h3⟩ := h.part cs hc
  have hb : bt < w.heap.size := (Array.getElem?_eq_some_iff.1 hc).1
  exact ⟨cs', (k.block bt (Array.getElem?_eq_some_iff.1 h1).1 (fun e => by have := hr bt e.symm; omega)).trans h1, h2, h3⟩⟩
theorem Fz.set (h : Fz w w' bt lo hi) (i : Nat) (v : Value) (h1 : lo ≤ i) (h2 : i < hi) : Fz w (w'.setCell ⟨bt, i, none⟩ v) bt lo hi := ⟨by rw [← h.os]; rfl, by rw [← h.tape]; rfl, by rw [← h.output]; rfl, by simpa using h.size, fun b hb hn => (heap_setCell_other _ _ _ _ hn).trans (h.keep b hb hn), fun cs hc => by
  obtain ⟨cs', k1, k2, k3⟩ := h.part cs hc
  refine ⟨cs'.setIfInBounds i v, heap_setCell_same _ _ _ _ _ _ k1, by simpa using k2, fun j hj => ?_⟩
  rw [Array.getElem?_setIfInBounds_ne (by omega)]
  exact k3 j hj⟩
theorem Fz.tq (h : Fz w w' bt lo hi) (ht : Tq w bt) : Tq w' bt := by
  obtain ⟨cs, hc⟩ := ht
  obtain ⟨cs', h1, _⟩ := h.part cs hc
  exact ⟨cs', h1⟩
theorem tq_int {w : World} {b : Nat} {cs : Array Value} {f : Nat × Nat} (h : Tq w b) (k : w.heap[b]? = some (Obj.cells cs 3 f)) : False := by
  obtain ⟨cs', h2⟩ := h
  rw [k] at h2
  injection h2 with h2
  injection h2 with _ h2
  revert h2
  decide
theorem Fz.ik (h : Fz w w' bt lo hi) (ht : Tq w bt) : Ik w w' := ⟨h.size, fun b cs f hb => (h.keep b (Array.getElem?_eq_some_iff.1 hb).1 (by rintro rfl; exact tq_int ht hb)).trans hb⟩
theorem Fz.toBelow (h : Fz w w' bt lo hi) {S : Nat} (hS : S ≤ bt) (hz : S ≤ w.heap.size) : Below S w w' := ⟨h.os, h.tape, h.output, h.size, fun b hb => h.keep b (by omega) (by omega)⟩
theorem Rt.tq (h : Rt w b o d) : Tq w b := by obtain ⟨cs, h1, _⟩ := h; exact ⟨cs, h1⟩
theorem Rt.lt (h : Rt w b o d) : b < w.heap.size := by obtain ⟨cs, h1, _⟩ := h; exact (Array.getElem?_eq_some_iff.1 h1).1
theorem Rt.f4 (h : Rt w b o d) {j : Nat} {x : Me} (hx : d[j]? = some x) : F4 w b (o + j * 4) x := by
  obtain ⟨cs, h1, h2⟩ := h
  exact ⟨by rw [cell_cs h1]; exact h2 j x hx 0 _ rfl, by rw [cell_cs h1]; exact h2 j x hx 1 _ rfl, by rw [cell_cs h1]; exact h2 j x hx 2 _ rfl, by rw [cell_cs h1]; exact h2 j x hx 3 _ rfl⟩
theorem Rt.frozen (h : Rt w b o d) (i : Nat) : w.frozen? ⟨b, i, none⟩ = false := by
  obtain ⟨cs, h1, _⟩ := h
  exact frozen_cs h1
theorem Rt.below (h : Rt w b o d) (k : Below w.heap.size w w') : Rt w' b o d := by
  have := h.lt
  obtain ⟨cs, h1, h2⟩ := h
  exact ⟨cs, (k.block b this).trans h1, h2⟩
theorem Rt.grown (h : Rt w b o d) {row : Option Nat} (k : w.grownBy w' row) (hr : ∀ g, row = some g → g ≠ b) : Rt w' b o d := by
  have := h.lt
  obtain ⟨cs, h1, h2⟩ := h
  exact ⟨cs, (k.block b this (fun e => hr b e.symm rfl)).trans h1, h2⟩
theorem Rt.fz (h : Rt w b o d) (k : Fz w w' bt lo hi) (hd : b ≠ bt ∨ o + d.length * 4 ≤ lo ∨ hi ≤ o) : Rt w' b o d := by
  have := h.lt
  obtain ⟨cs, h1, h2⟩ := h
  by_cases hb : b = bt
  · subst hb
    obtain ⟨cs', k1, k2, k3⟩ := k.part cs h1
    refine ⟨cs', k1, fun j x hx i u hu => ?_⟩
    have hj := (List.getElem?_eq_some_iff.1 hx).1
    have hi4 : i < 4 := (List.getElem?_eq_some_iff.1 hu).1
    rw [k3 _ (by rcases hd with h | h | h; exact absurd rfl h; left; omega; right; omega)]
    exact h2 j x hx i u hu
  · exact ⟨cs, (k.keep b this hb).trans h1, h2⟩
theorem Rt.tail {x : Me} (h : Rt w b o (x :: d)) : Rt w b (o + 4) d := by
  obtain ⟨cs, h1, h2⟩ := h
  refine ⟨cs, h1, fun j y hy i u hu => ?_⟩
  have := h2 (j + 1) y (by rw [List.getElem?_cons_succ]; exact hy) i u hu
  rwa [show o + (j + 1) * 4 + i = o + 4 + j * 4 + i by omega] at this
theorem Rt.rd (h : Rt w b o d) : Rd w w.heap.size (some ⟨b, o, none⟩) d := fun _ => ⟨b, o, rfl, h.lt, fun _ _ hx => h.f4 hx⟩
theorem Rt.take (h : Rt w b o d) (k : Nat) : Rt w b o (d.take k) := by
  obtain ⟨cs, h1, h2⟩ := h
  refine ⟨cs, h1, fun j x hx => h2 j x ?_⟩
  rw [List.getElem?_take] at hx
  split at hx
  · exact hx
  · cases hx
theorem Rt.drop (h : Rt w b o d) (k : Nat) : Rt w b (o + k * 4) (d.drop k) := by
  obtain ⟨cs, h1, h2⟩ := h
  refine ⟨cs, h1, fun j x hx i u hu => ?_⟩
  rw [List.getElem?_drop] at hx
  have := h2 _ x hx i u hu
  rwa [show o + (k + j) * 4 + i = o + k * 4 + j * 4 + i by omega] at this
theorem Rt.of_own {base n cap g : Nat} (h : w.ownsRow base 25 4 (.slice (some ⟨g, 0, none⟩) n cap) n (dvs d)) : Rt w g 0 d := by
  rcases h.2 with ⟨h', _⟩ | ⟨g', cap', cur, h', hb, hg, hnc, hcm, hcs, htake⟩
  · simp at h'
  · injection h' with h' h3 h4
    injection h' with h'
    injection h' with h'
    subst h'
    refine ⟨cur, hg, fun j x hx i u hu => ?_⟩
    have hi4 : i < 4 := (List.getElem?_eq_some_iff.1 hu).1
    have := h.cells (g := g) rfl (j * 4 + i) u ((dvs_get d j i x hx hi4).trans hu)
    rw [addr_add, cell_cs hg] at this
    rwa [← Nat.add_assoc] at this
/-- The first one is written anew. -/
theorem Rt.head {x y : Me} (h : Rt w b o (x :: d)) : Rt ((((w.setCell ⟨b, o, none⟩ (.int .i64 y.b.n)).setCell ⟨b, o + 1, none⟩ (.int .i64 y.b.lo)).setCell ⟨b, o + 2, none⟩ (.int .i64 y.b.hi)).setCell ⟨b, o + 3, none⟩ (.slice y.a y.b.u.length y.c)) b o (y :: d) := by
  obtain ⟨cs, h1, h2⟩ := h
  have e1 := heap_setCell_same _ b o cs _ (.int .i64 y.b.n) h1
  have e2 := heap_setCell_same _ b (o + 1) _ _ (.int .i64 y.b.lo) e1
  have e3 := heap_setCell_same _ b (o + 2) _ _ (.int .i64 y.b.hi) e2
  have e4 := heap_setCell_same _ b (o + 3) _ _ (.slice y.a y.b.u.length y.c) e3
  refine ⟨_, e4, fun j z hz i u hu => ?_⟩
  have hi4 : i < 4 := (List.getElem?_eq_some_iff.1 hu).1
  cases j with
  | zero =>
    cases hz
    have s0 := h2 0 x rfl 0 _ rfl
    have s1 := h2 0 x rfl 1 _ rfl
    have s2 := h2 0 x rfl 2 _ rfl
    have s3 := h2 0 x rfl 3 _ rfl
    have b3 : o + 3 < cs.size := by have := (Array.getElem?_eq_some_iff.1 s3).1; omega
    rcases (show i = 0 ∨ i = 1 ∨ i = 2 ∨ i = 3 by omega) with rfl | rfl | rfl | rfl
    all_goals
      cases hu
      simp [Array.getElem?_setIfInBounds]
      try omega
  | succ j =>
    have := h2 (j + 1) z (by simpa using hz) i u hu
    rw [Array.getElem?_setIfInBounds_ne (by omega), Array.getElem?_setIfInBounds_ne (by omega), Array.getElem?_setIfInBounds_ne (by omega), Array.getElem?_setIfInBounds_ne (by omega)]
    exact this
/-- One frame and another, in the same block. -/
theorem Fz.trans {lo1 hi1 lo2 hi2 : Nat} (h : Fz w w' b lo1 hi1) (k : Fz w' w'' b lo2 hi2) (h1 : lo ≤ lo1) (h2 : hi1 ≤ hi) (h3 : lo ≤ lo2) (h4 : hi2 ≤ hi) : Fz w w'' b lo hi := ⟨k.os.trans h.os, k.tape.trans h.tape, k.output.trans h.output, Nat.le_trans h.size k.size, fun j hj hn => (k.keep j (Nat.lt_of_lt_of_le hj h.size) hn).trans (h.keep j hj hn), fun cs hc => by
  obtain ⟨cs1, a1, a2, a3⟩ := h.part cs hc
  obtain ⟨cs2, b1, b2, b3⟩ := k.part cs1 a1
  exact ⟨cs2, b1, b2.trans a2, fun i hi => (b3 i (by omega)).trans (a3 i (by omega))⟩⟩
/-- A frame, and one in a block that is new. -/
theorem Fz.trans_new {bn lo2 hi2 : Nat} (h : Fz w w' b lo hi) (k : Fz w' w'' bn lo2 hi2) (hn : w.heap.size ≤ bn) : Fz w w'' b lo hi := ⟨k.os.trans h.os, k.tape.trans h.tape, k.output.trans h.output, Nat.le_trans h.size k.size, fun j hj hne => (k.keep j (Nat.lt_of_lt_of_le hj h.size) (by omega)).trans (h.keep j hj hne), fun cs hc => by
  have hb : b < w.heap.size := (Array.getElem?_eq_some_iff.1 hc).1
  obtain ⟨cs1, a1, a2, a3⟩ := h.part cs hc
  exact ⟨cs1, (k.keep b (Nat.lt_of_lt_of_le hb h.size) (by omega)).trans a1, a2, a3⟩⟩
theorem Fz.of_below (h : Below w.heap.size w w') : Fz w w' b lo hi := (Fz.refl w b lo hi).below h
end
end Go.Proofs.Ytkkochjdimegpaa
