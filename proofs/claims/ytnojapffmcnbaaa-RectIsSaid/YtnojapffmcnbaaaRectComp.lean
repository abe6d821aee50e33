/-
  slices.Compact at codespaces.
-/
import Derived.Test.YtnojapffmcnbaaaRectMem
import Derived.Lib.SlicesCompact
import Derived.Lib.SliceRun
namespace Go.Proofs.Ytnojapffmcnbaaa
open Go.RowKit Go.Lib

instance : Inhabited Rc := ⟨⟨0, 0, 0⟩⟩
/-- Three cells that may be written. -/
structure F3 (w : World) (b p : Nat) : Prop where
  f0 : w.frozen? ⟨b, p, none⟩ = false
  f1 : w.frozen? ⟨b, p + 1, none⟩ = false
  f2 : w.frozen? ⟨b, p + 2, none⟩ = false
/-- A row of codespaces that may be written. -/
def Ra (w : World) (b o : Nat) (d : Array Rc) : Prop := ∀ j, j < d.size → R3 w b (o + j * 3) d[j]! ∧ F3 w b (o + j * 3)
/-- A codespace put at a place. -/
def set3 (w : World) (b p : Nat) (x : Rc) : World := ((w.setCell ⟨b, p, none⟩ (.int .i64 x.n)).setCell ⟨b, p + 1, none⟩ (.int .i64 x.lo)).setCell ⟨b, p + 2, none⟩ (.int .i64 x.hi)
theorem set3_other (w : World) (b p : Nat) (x : Rc) (q : Nat) (h : q < p ∨ p + 2 < q) : (set3 w b p x).cell? ⟨b, q, none⟩ = w.cell? ⟨b, q, none⟩ := by
  have ne : ∀ i, i < 3 → (⟨b, p + i, none⟩ : Addr) ≠ ⟨b, q, none⟩ := fun i hi e => by injection e with _ e2; omega
  unfold set3
  rw [World.cell?_setCell_other _ _ _ _ (ne 2 (by omega)), World.cell?_setCell_other _ _ _ _ (ne 1 (by omega))]
  exact World.cell?_setCell_other _ _ _ _ (ne 0 (by omega))
theorem set3_same {w : World} {b p : Nat} {y : Rc} (h : R3 w b p y) (x : Rc) : R3 (set3 w b p x) b p x := by
  have ne : ∀ i j, i ≠ j → (⟨b, p + i, none⟩ : Addr) ≠ ⟨b, p + j, none⟩ := fun i j hi e => by injection e with _ e2; omega
  have ne' : ∀ i, i ≠ 0 → (⟨b, p, none⟩ : Addr) ≠ ⟨b, p + i, none⟩ := fun i hi e => by injection e with _ e2; omega
  have ne'' : ∀ i, i ≠ 0 → (⟨b, p + i, none⟩ : Addr) ≠ ⟨b, p, none⟩ := fun i hi e => by injection e with _ e2; omega
  unfold set3
  refine ⟨?_, ?_, ?_⟩
  · rw [World.cell?_setCell_other _ _ _ _ (ne'' 2 (by omega)), World.cell?_setCell_other _ _ _ _ (ne'' 1 (by omega))]
    exact World.cell?_setCell_same _ _ _ h.c0
  · rw [World.cell?_setCell_other _ _ _ _ (ne 2 1 (by omega))]
    exact World.cell?_setCell_same _ _ _ ((World.cell?_setCell_other _ _ _ _ (ne' 1 (by omega))).trans h.c1)
  · exact World.cell?_setCell_same _ _ _ ((World.cell?_setCell_other _ _ _ _ (ne 1 2 (by omega))).trans ((World.cell?_setCell_other _ _ _ _ (ne' 2 (by omega))).trans h.c2))
theorem set3_frozen (w : World) (b p : Nat) (x : Rc) (a : Addr) : (set3 w b p x).frozen? a = w.frozen? a := by
  unfold set3
  rw [World.frozen?_setCell, World.frozen?_setCell, World.frozen?_setCell]
theorem Ra.set {w : World} {b o : Nat} {d : Array Rc} (h : Ra w b o d) {k : Nat} (hk : k < d.size) (x : Rc) : Ra (set3 w b (o + k * 3) x) b o (d.setIfInBounds k x) := fun j hj => by
  rw [Array.size_setIfInBounds] at hj
  obtain ⟨h1, h2⟩ := h j hj
  refine ⟨?_, ⟨(set3_frozen _ _ _ _ _).trans h2.f0, (set3_frozen _ _ _ _ _).trans h2.f1, (set3_frozen _ _ _ _ _).trans h2.f2⟩⟩
  by_cases e : j = k
  · subst e
    rw [Sort.getElem!_set_same d j x hj]
    exact set3_same h1 x
  · rw [Sort.getElem!_set_other d k j x e]
    exact ⟨(set3_other _ _ _ _ _ (by omega)).trans h1.c0, (set3_other _ _ _ _ _ (by omega)).trans h1.c1, (set3_other _ _ _ _ _ (by omega)).trans h1.c2⟩
theorem Ra.below {w w' : World} {b o B : Nat} {d : Array Rc} (h : Ra w b o d) (hb : Below B w w') (hB : b < B) : Ra w' b o d := fun j hj => by
  obtain ⟨h1, h2⟩ := h j hj
  exact ⟨h1.keep fun i => hb.cell (p := ⟨b, i, none⟩) hB, ⟨(hb.frozen (p := ⟨b, _, none⟩) hB).trans h2.f0, (hb.frozen (p := ⟨b, _, none⟩) hB).trans h2.f1, (hb.frozen (p := ⟨b, _, none⟩) hB).trans h2.f2⟩⟩
theorem Ra.drewN {w : World} {b o : Nat} {d : Array Rc} (h : Ra w b o d) (n : Nat) : Ra (w.drewN n) b o d := fun j hj => ⟨(h j hj).1.keep fun _ => rfl, ⟨(h j hj).2.f0, (h j hj).2.f1, (h j hj).2.f2⟩⟩
theorem below_setCells (b B : Nat) (hB : B ≤ b) : ∀ (vs : List Value) (o : Nat) (a w : World), Below B a w → Below B a (w.setCells b o vs)
  | [], _, _, _, h => h
  | v :: vs, o, a, _, h => below_setCells b B hB vs (o + 1) a _ (h.setCell hB v)
theorem zero3_len (n : Nat) : (Builtin.zeroCells #[.int .i64 0, .int .i64 0, .int .i64 0] n).toList.length = n * 3 := by
  simp [Builtin.zeroCells]
theorem zero3_one (n : Nat) : ∀ v ∈ (Builtin.zeroCells #[.int .i64 0, .int .i64 0, .int .i64 0] n).toList, v.oneCell' = true := by
  intro v hv
  rw [Array.mem_toList_iff, Builtin.zeroCells, Array.mem_map] at hv
  obtain ⟨i, _, rfl⟩ := hv
  have h3 : i % 3 < 3 := Nat.mod_lt _ (by decide)
  show Value.oneCell' (#[Value.int .i64 0, Value.int .i64 0, Value.int .i64 0][i % 3]!) = true
  rcases (show i % 3 = 0 ∨ i % 3 = 1 ∨ i % 3 = 2 by omega) with e | e | e <;> rw [e] <;> rfl
/-- clear at a slice of codespaces. -/
theorem run_clear3 (w : World) (b o n c : Nat) (hc : ∀ j, j < n * 3 → (w.cell? ⟨b, o + j, none⟩).isSome = true) (hf : ∀ j, j < n * 3 → w.frozen? ⟨b, o + j, none⟩ = false) :
    ∃ vs, ∀ ty, (Builtin.clear_ #[36] ty #[.slice (some ⟨b, o, none⟩) n c]).run Try.prog w = .ok (.tuple #[]) (w.setCells b o vs) := by
  cases n with
  | zero => exact ⟨[], fun ty => by simp [Builtin.clear_, run_underlying Try.underlying36]; rfl⟩
  | succ m =>
    have hst := run_storeCells_cells (P := Try.prog) b o (Builtin.zeroCells #[.int .i64 0, .int .i64 0, .int .i64 0] (m + 1)).toList 0 w
      (by rw [zero3_len]; simpa using hc) (by rw [zero3_len]; simpa using hf) (zero3_one _)
    rw [Nat.add_zero] at hst
    refine ⟨(Builtin.zeroCells #[.int .i64 0, .int .i64 0, .int .i64 0] (m + 1)).toList, fun ty => ?_⟩
    simp [Builtin.clear_, run_underlying Try.underlying36, Try.zeroValue23, Value.cells, hst]
end Go.Proofs.Ytnojapffmcnbaaa
