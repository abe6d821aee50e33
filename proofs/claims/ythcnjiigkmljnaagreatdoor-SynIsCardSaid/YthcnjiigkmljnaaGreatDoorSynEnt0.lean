/-
  The program's parser: what a method that takes an entry leaves; its result's block.
-/
import Derived.Test.YthcnjiigkmljnaaGreatDoorSynDev8
namespace Go.Proofs.YthcnjiigkmljnaaGreatDoor
open Go.RowKit

/-- An entry as a value. -/
def entV (p : En × Value × Value) : Value := .agg #[.int .i64 p.1.lo.n, .int .i64 p.1.lo.v, .int .i64 p.1.hi.n, .int .i64 p.1.hi.v, .int .i64 p.1.to, p.2.1, p.2.2]
/-- What a method that takes an entry leaves. -/
def Ep (w : World) (P : Nat) (A : Option Addr) (c : Nat) (L : List Tk) (en : Int) (vc vi : Value) (kind : Int) (i : Nat) (a e : Int) (r : Ending) (w' : World) : Prop :=
  ∃ (p : En × Value × Value) (i' : Nat) (a' e' : Int), r = .returned (entV p) ∧ Eo w' (fun b => b < w.heap.size) p ∧ Qs w' P A c L i' en vc vi a' e' ∧ i' ≤ L.length ∧ Fr w w' P ∧ Oc (entT L en kind i) (fun _ => True) i a e p.1 i' a' e'
@[go_sem] theorem bldE2 (ln lv hn hv : Int) (w : World) : (Instr.build 51 #[(0, .agg #[.int .i64 ln, .int .i64 lv]), (1, .agg #[.int .i64 hn, .int .i64 hv])]).run Tryz.prog w = .ok (.agg #[.int .i64 ln, .int .i64 lv, .int .i64 hn, .int .i64 hv, .int .i64 0, .slice none 0 0, .slice none 0 0]) w := run_build w 51 _ _ (by kernel_rfl)
@[go_sem] theorem bldE3 (ln lv hn hv t : Int) (w : World) : (Instr.build 51 #[(0, .agg #[.int .i64 ln, .int .i64 lv]), (1, .agg #[.int .i64 hn, .int .i64 hv]), (2, .int .i64 t)]).run Tryz.prog w = .ok (.agg #[.int .i64 ln, .int .i64 lv, .int .i64 hn, .int .i64 hv, .int .i64 t, .slice none 0 0, .slice none 0 0]) w := run_build w 51 _ _ (by kernel_rfl)
@[go_sem] theorem bldE4 (ln lv hn hv : Int) (A : Option Addr) (n c : Nat) (w : World) : (Instr.build 51 #[(0, .agg #[.int .i64 ln, .int .i64 lv]), (1, .agg #[.int .i64 hn, .int .i64 hv]), (3, .slice A n c)]).run Tryz.prog w = .ok (.agg #[.int .i64 ln, .int .i64 lv, .int .i64 hn, .int .i64 hv, .int .i64 0, .slice A n c, .slice none 0 0]) w := run_build w 51 _ _ (by kernel_rfl)
@[go_sem] theorem bldE5 (ln lv hn hv : Int) (A : Option Addr) (n c : Nat) (w : World) : (Instr.build 51 #[(0, .agg #[.int .i64 ln, .int .i64 lv]), (1, .agg #[.int .i64 hn, .int .i64 hv]), (4, .slice A n c)]).run Tryz.prog w = .ok (.agg #[.int .i64 ln, .int .i64 lv, .int .i64 hn, .int .i64 hv, .int .i64 0, .slice none 0 0, .slice A n c]) w := run_build w 51 _ _ (by kernel_rfl)
/-- A call that hands back an entry, out of its result's block. -/
theorem ent_ret {W : World} {fn : Func} {R : Ending → World → Prop} {act : Act} {S : Nat} {x0 x1 x2 x3 x4 x5 x6 : Value} (hres : fn.results = #[.cell 2 51]) (hd : act.defers = []) (h2 : act.tmps[2]?.getD undef = .pointer (some ⟨S, 0, none⟩))
    (g0 : W.cell? ⟨S, 0, none⟩ = some x0) (g1 : W.cell? ⟨S, 1, none⟩ = some x1) (g2 : W.cell? ⟨S, 2, none⟩ = some x2) (g3 : W.cell? ⟨S, 3, none⟩ = some x3) (g4 : W.cell? ⟨S, 4, none⟩ = some x4) (g5 : W.cell? ⟨S, 5, none⟩ = some x5) (g6 : W.cell? ⟨S, 6, none⟩ = some x6)
    (hR : R (.returned (.agg #[x0, x1, x2, x3, x4, x5, x6])) W) : bodyPost Tryz.prog fn R .ret act W :=
  bodyPost_ret (v := _) (by simp [results, hres, go_sem, h2, g0, g1, g2, g3, g4, g5, g6]; try rfl) hd hR
section
variable {w : World} {P : Nat} {A : Option Addr} {c : Nat} {L : List Tk} {i : Nat} {en a e : Int} {vc vi : Value}
/-- The result's block, over methods of the parser. -/
theorem kept7 {w2 : World} (h : Fr (w.alloc (.cells #[.int .i64 0, .int .i64 0, .int .i64 0, .int .i64 0, .int .i64 0, .slice none 0 0, .slice none 0 0] 51)) w2 P) (hP : P < w.heap.size) :
    (w2.cell? ⟨w.heap.size, 0, none⟩ = some (.int .i64 0) ∧ w2.cell? ⟨w.heap.size, 1, none⟩ = some (.int .i64 0) ∧ w2.cell? ⟨w.heap.size, 2, none⟩ = some (.int .i64 0) ∧ w2.cell? ⟨w.heap.size, 3, none⟩ = some (.int .i64 0) ∧ w2.cell? ⟨w.heap.size, 4, none⟩ = some (.int .i64 0) ∧ w2.cell? ⟨w.heap.size, 5, none⟩ = some (.slice none 0 0) ∧ w2.cell? ⟨w.heap.size, 6, none⟩ = some (.slice none 0 0)) ∧
    (w2.frozen? ⟨w.heap.size, 0, none⟩ = false ∧ w2.frozen? ⟨w.heap.size, 1, none⟩ = false ∧ w2.frozen? ⟨w.heap.size, 2, none⟩ = false ∧ w2.frozen? ⟨w.heap.size, 3, none⟩ = false ∧ w2.frozen? ⟨w.heap.size, 4, none⟩ = false ∧ w2.frozen? ⟨w.heap.size, 5, none⟩ = false ∧ w2.frozen? ⟨w.heap.size, 6, none⟩ = false) ∧ w.heap.size < w2.heap.size ∧ Fr w w2 P := by
  have hs := h.size
  simp at hs
  have g := fun j => h.kept hP j
  refine ⟨⟨(g 0).1.trans (by simp), (g 1).1.trans (by simp), (g 2).1.trans (by simp), (g 3).1.trans (by simp), (g 4).1.trans (by simp), (g 5).1.trans (by simp), (g 6).1.trans (by simp)⟩, ⟨(g 0).2.trans (by simp), (g 1).2.trans (by simp), (g 2).2.trans (by simp), (g 3).2.trans (by simp), (g 4).2.trans (by simp), (g 5).2.trans (by simp), (g 6).2.trans (by simp)⟩, by omega, ((Fr.refl w P).alloc _).trans h⟩
theorem set7 {w1 : World} {S : Nat} {u0 u1 u2 u3 u4 u5 u6 : Value} (f0 : w1.cell? ⟨S, 0, none⟩ = some u0) (f1 : w1.cell? ⟨S, 1, none⟩ = some u1) (f2 : w1.cell? ⟨S, 2, none⟩ = some u2) (f3 : w1.cell? ⟨S, 3, none⟩ = some u3) (f4 : w1.cell? ⟨S, 4, none⟩ = some u4) (f5 : w1.cell? ⟨S, 5, none⟩ = some u5) (f6 : w1.cell? ⟨S, 6, none⟩ = some u6) (x0 x1 x2 x3 x4 x5 x6 : Value) :
    (((((((w1.setCell ⟨S, 0, none⟩ x0).setCell ⟨S, 1, none⟩ x1).setCell ⟨S, 2, none⟩ x2).setCell ⟨S, 3, none⟩ x3).setCell ⟨S, 4, none⟩ x4).setCell ⟨S, 5, none⟩ x5).setCell ⟨S, 6, none⟩ x6).cell? ⟨S, 0, none⟩ = some x0 ∧ (((((((w1.setCell ⟨S, 0, none⟩ x0).setCell ⟨S, 1, none⟩ x1).setCell ⟨S, 2, none⟩ x2).setCell ⟨S, 3, none⟩ x3).setCell ⟨S, 4, none⟩ x4).setCell ⟨S, 5, none⟩ x5).setCell ⟨S, 6, none⟩ x6).cell? ⟨S, 1, none⟩ = some x1 ∧ (((((((w1.setCell ⟨S, 0, none⟩ x0).setCell ⟨S, 1, none⟩ x1).setCell ⟨S, 2, none⟩ x2).setCell ⟨S, 3, none⟩ x3).setCell ⟨S, 4, none⟩ x4).setCell ⟨S, 5, none⟩ x5).setCell ⟨S, 6, none⟩ x6).cell? ⟨S, 2, none⟩ = some x2 ∧ (((((((w1.setCell ⟨S, 0, none⟩ x0).setCell ⟨S, 1, none⟩ x1).setCell ⟨S, 2, none⟩ x2).setCell ⟨S, 3, none⟩ x3).setCell ⟨S, 4, none⟩ x4).setCell ⟨S, 5, none⟩ x5).setCell ⟨S, 6, none⟩ x6).cell? ⟨S, 3, none⟩ = some x3 ∧ (((((((w1.setCell ⟨S, 0, none⟩ x0).setCell ⟨S, 1, none⟩ x1).setCell ⟨S, 2, none⟩ x2).setCell ⟨S, 3, none⟩ x3).setCell ⟨S, 4, none⟩ x4).setCell ⟨S, 5, none⟩ x5).setCell ⟨S, 6, none⟩ x6).cell? ⟨S, 4, none⟩ = some x4 ∧ (((((((w1.setCell ⟨S, 0, none⟩ x0).setCell ⟨S, 1, none⟩ x1).setCell ⟨S, 2, none⟩ x2).setCell ⟨S, 3, none⟩ x3).setCell ⟨S, 4, none⟩ x4).setCell ⟨S, 5, none⟩ x5).setCell ⟨S, 6, none⟩ x6).cell? ⟨S, 5, none⟩ = some x5 ∧ (((((((w1.setCell ⟨S, 0, none⟩ x0).setCell ⟨S, 1, none⟩ x1).setCell ⟨S, 2, none⟩ x2).setCell ⟨S, 3, none⟩ x3).setCell ⟨S, 4, none⟩ x4).setCell ⟨S, 5, none⟩ x5).setCell ⟨S, 6, none⟩ x6).cell? ⟨S, 6, none⟩ = some x6 := by
  refine ⟨?_, ?_, ?_, ?_, ?_, ?_, ?_⟩
  · rw [set_other (by decide), set_other (by decide), set_other (by decide), set_other (by decide), set_other (by decide), set_other (by decide)]; exact set_same (by exact f0)
  · rw [set_other (by decide), set_other (by decide), set_other (by decide), set_other (by decide), set_other (by decide)]; exact set_same (by rw [set_other (by decide)]; exact f1)
  · rw [set_other (by decide), set_other (by decide), set_other (by decide), set_other (by decide)]; exact set_same (by rw [set_other (by decide), set_other (by decide)]; exact f2)
  · rw [set_other (by decide), set_other (by decide), set_other (by decide)]; exact set_same (by rw [set_other (by decide), set_other (by decide), set_other (by decide)]; exact f3)
  · rw [set_other (by decide), set_other (by decide)]; exact set_same (by rw [set_other (by decide), set_other (by decide), set_other (by decide), set_other (by decide)]; exact f4)
  · rw [set_other (by decide)]; exact set_same (by rw [set_other (by decide), set_other (by decide), set_other (by decide), set_other (by decide), set_other (by decide)]; exact f5)
  · exact set_same (by rw [set_other (by decide), set_other (by decide), set_other (by decide), set_other (by decide), set_other (by decide), set_other (by decide)]; exact f6)
theorem set7_bel (w1 : World) (S : Nat) (x0 x1 x2 x3 x4 x5 x6 : Value) : Below S w1 (((((((w1.setCell ⟨S, 0, none⟩ x0).setCell ⟨S, 1, none⟩ x1).setCell ⟨S, 2, none⟩ x2).setCell ⟨S, 3, none⟩ x3).setCell ⟨S, 4, none⟩ x4).setCell ⟨S, 5, none⟩ x5).setCell ⟨S, 6, none⟩ x6) :=
  (((((((Below.refl S w1).setCell (p := ⟨S, 0, none⟩) (Nat.le_refl _) _).setCell (p := ⟨S, 1, none⟩) (Nat.le_refl _) _).setCell (p := ⟨S, 2, none⟩) (Nat.le_refl _) _).setCell (p := ⟨S, 3, none⟩) (Nat.le_refl _) _).setCell (p := ⟨S, 4, none⟩) (Nat.le_refl _) _).setCell (p := ⟨S, 5, none⟩) (Nat.le_refl _) _).setCell (p := ⟨S, 6, none⟩) (Nat.le_refl _) _
theorem cell_more {w : World} {S k : Nat} {v : Value} (h : w.cell? ⟨S, k, none⟩ = some v) (o : Obj) : (w.alloc o).cell? ⟨S, k, none⟩ = some v :=
  (World.cell?_alloc_lt w o ⟨S, k, none⟩ (World.block_lt_of_cell? w _ h)).trans h
end
end Go.Proofs.YthcnjiigkmljnaaGreatDoor
