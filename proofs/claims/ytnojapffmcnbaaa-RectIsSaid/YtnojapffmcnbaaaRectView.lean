/-
  An argument that is a codespace, or a list of codespaces, as a walk wants it.
-/
import Derived.Test.YtnojapffmcnbaaaRectMem
import Derived.Test.YtnojapffmcnbaaaView
import Derived.Deep.Slices
import Derived.Deep.Strs
namespace Go.Proofs.Ytnojapffmcnbaaa
open Go.ChangeShapes Go.WideShapes Go.ChangeAt Go.RowKit Go.Joins

theorem list_of {α : Type} {Q : Nat → α → Prop} (d : α) : ∀ n, (∀ i, i < n → ∃ x, Q i x) → ∃ l : List α, l.length = n ∧ ∀ i, i < n → Q i (l[i]?.getD d)
  | 0, _ => ⟨[], rfl, fun _ h => by omega⟩
  | n + 1, h => by
    obtain ⟨l, hl, hq⟩ := list_of d n (fun i hi => h i (by omega))
    obtain ⟨x, hx⟩ := h n (by omega)
    refine ⟨l ++ [x], by simp [hl], fun i hi => ?_⟩
    by_cases hin : i < n
    · rw [List.getElem?_append_left (by omega)]; exact hq i hin
    · obtain rfl : i = n := by omega
      rw [List.getElem?_append_right (by omega), hl]
      simpa using hx
section
variable {H : Type} {enc : TypeId × Value → H} {W : World} {base : Nat} {v : Value} {d : DataW H} {p : List MemPlace}
theorem view_rect {P : Program} {t ti : TypeId} {f0 f1 f2 : Field} (ht : P.underlying t = some (.struct #[f0, f1, f2])) (hone : Deep.oneCellFields P #[f0, f1, f2] = true) (hC : P.cellsOf t = 3) (e0 : f0.type = ti) (e1 : f1.type = ti) (e2 : f2.type = ti)
    (hi : P.underlying ti = some (.int .i64)) (hv : Value.okWide P W .any base t v) (h : DataW.Trod enc P W 0 (fun _ => true) true t v d p) :
    ∃ r : Rc, v = .agg #[.int .i64 r.n, .int .i64 r.lo, .int .i64 r.hi] := by
  obtain ⟨c0, c1, c2, y0, y1, y2, k, rfl, _, _, hy0, hy1, hy2⟩ := open_agg3 ht hone hC hv h
  rw [e0] at hy0
  rw [e1] at hy1
  rw [e2] at hy2
  obtain ⟨a, x0, _, _⟩ := DataW.trod_int hi hy0
  obtain ⟨b, x1, _, _⟩ := DataW.trod_int hi hy1
  obtain ⟨c, x2, _, _⟩ := DataW.trod_int hi hy2
  simp at x0 x1 x2
  subst x0 x1 x2
  exact ⟨⟨a, b, c⟩, rfl⟩
theorem view_rects {P : Program} {t e ti : TypeId} {f0 f1 f2 : Field} (ht : P.underlying t = some (.slice e)) (he : P.underlying e = some (.struct #[f0, f1, f2])) (ce : P.cellsOf e = 3) (ho : f0.offset = 0 ∧ f1.offset = 1 ∧ f2.offset = 2) (hty : f0.type = ti ∧ f1.type = ti ∧ f2.type = ti)
    (ci : P.cellsOf ti = 1) (hi : P.underlying ti = some (.int .i64)) (hv : Value.okWide P W .any base t v) (h : DataW.Trod enc P W 0 (fun _ => true) true t v d p) :
    ∃ A L c, v = .slice A L.length c ∧ L.length ≤ maxLen ∧ Sr W W.heap.size A L := by
  obtain ⟨A, len, cap, rfl⟩ := okWide_slice ht hv
  obtain ⟨fuel, hf⟩ := h
  rcases Deep.open_slice ht hf with ⟨hcs, _⟩ | ⟨a, l, c, m, n, D, Pl, hcs, _, hl, hm, hmm, hx, hall⟩
  · simp [Value.cells] at hcs
    obtain ⟨rfl, rfl, rfl⟩ := hcs
    exact ⟨none, [], 0, rfl, by simp [maxLen], Sr.nil⟩
  · simp [Value.cells] at hcs
    obtain ⟨rfl, rfl, rfl⟩ := hcs
    have hlm : len ≤ m := by rw [hmm]; split <;> omega
    obtain ⟨b, off, spot⟩ := a
    have hone : ∀ i, i < len → ∃ t : Rc, W.cell? ((⟨b, off, spot⟩ : Addr).add (i * 3)) = some (.int .i64 t.n) ∧ W.cell? ((⟨b, off, spot⟩ : Addr).add (i * 3 + 1)) = some (.int .i64 t.lo) ∧ W.cell? ((⟨b, off, spot⟩ : Addr).add (i * 3 + 2)) = some (.int .i64 t.hi) := by
      intro i hil
      obtain ⟨cs', h1, h2⟩ := hall i (by omega)
      rw [ce] at h1
      obtain ⟨_, hlen, hcell⟩ := World.cells?_some h1
      obtain ⟨y0, y1, y2, k, hxy, _, g0, g1, g2⟩ := Deep.trod_struct3 he h2
      rw [hty.1, ho.1, ci] at g0
      rw [hty.2.1, ho.2.1, ci] at g1
      rw [hty.2.2, ho.2.2, ci] at g2
      match cs', hlen with
      | [v0, v1, v2], _ =>
        obtain ⟨n0, q0, _, _⟩ := DataW.trod_int hi g0
        obtain ⟨n1, q1, _, _⟩ := DataW.trod_int hi g1
        obtain ⟨n2, q2, _, _⟩ := DataW.trod_int hi g2
        have e0 := hcell 0 (by omega)
        have e1 := hcell 1 (by omega)
        have e2 := hcell 2 (by omega)
        rw [Deep.add_add] at e0 e1 e2
        have r0 : v0 = .int .i64 n0 := by simpa using q0
        have r1 : v1 = .int .i64 n1 := by simpa using q1
        have r2 : v2 = .int .i64 n2 := by simpa using q2
        subst r0 r1 r2
        refine ⟨⟨n0, n1, n2⟩, ?_, ?_, ?_⟩
        · simpa using e0
        · simpa using e1
        · simpa using e2
    obtain ⟨L, hL, hQ⟩ := list_of ⟨0, 0, 0⟩ len hone
    subst hL
    refine ⟨_, L, cap, rfl, by omega, fun hn => ?_⟩
    have hc0 := (hQ 0 hn).1
    have hspot : spot = none := by simpa [Addr.add] using World.cell?_spot hc0
    subst hspot
    refine ⟨b, off, rfl, World.block_lt_of_cell? W _ (by simpa [Addr.add] using hc0 : W.cell? ⟨b, off, none⟩ = _), fun j x hx => ?_⟩
    obtain ⟨h0, h1, h2⟩ := hQ j (List.getElem?_eq_some_iff.1 hx).1
    rw [addr_add] at h0 h1 h2
    rw [hx] at h0 h1 h2
    exact ⟨h0, h1, h2⟩
end
end Go.Proofs.Ytnojapffmcnbaaa
