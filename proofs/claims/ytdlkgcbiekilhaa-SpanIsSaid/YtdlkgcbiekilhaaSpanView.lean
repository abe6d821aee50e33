/-
  An argument that is a span, or a list of spans, as a walk wants it; the document's own 'the same'.
-/
import Derived.Test.YtdlkgcbiekilhaaSpanMem
import Derived.Test.YtdlkgcbiekilhaaView
import Derived.Deep.Slices
import Derived.Deep.Strs
import Derived.Handy
namespace Go.Proofs.Ytdlkgcbiekilhaa
open Go.ChangeShapes Go.WideShapes Go.ChangeAt Go.RowKit Go.Joins

theorem list_ofS {α : Type} {Q : Nat → α → Prop} (d : α) : ∀ n, (∀ i, i < n → ∃ x, Q i x) → ∃ l : List α, l.length = n ∧ ∀ i, i < n → Q i (l[i]?.getD d)
  | 0, _ => ⟨[], rfl, fun _ h => by omega⟩
  | n + 1, h => by
    obtain ⟨l, hl, hq⟩ := list_ofS d n (fun i hi => h i (by omega))
    obtain ⟨x, hx⟩ := h n (by omega)
    refine ⟨l ++ [x], by simp [hl], fun i hi => ?_⟩
    by_cases hin : i < n
    · rw [List.getElem?_append_left (by omega)]; exact hq i hin
    · obtain rfl : i = n := by omega
      rw [List.getElem?_append_right (by omega), hl]
      simpa using hx
section
variable {H : Type} {enc : TypeId × Value → H} {W : World} {base : Nat} {v : Value} {d : DataW H} {p : List MemPlace}
theorem view_span {P : Program} {t ti : TypeId} {f0 f1 f2 f3 : Field} (ht : P.underlying t = some (.struct #[f0, f1, f2, f3])) (hone : Deep.oneCellFields P #[f0, f1, f2, f3] = true) (hC : P.cellsOf t = 4) (e0 : f0.type = ti) (e1 : f1.type = ti) (e2 : f2.type = ti) (e3 : f3.type = ti)
    (hi : P.underlying ti = some (.int .i64)) (hv : Value.okWide P W .any base t v) (h : DataW.Trod enc P W 0 (fun _ => true) true t v d p) :
    ∃ r : Sp, v = sv r := by
  obtain ⟨c0, c1, c2, c3, y0, y1, y2, y3, k, rfl, _, _, hy0, hy1, hy2, hy3⟩ := open_agg4 ht hone hC hv h
  rw [e0] at hy0
  rw [e1] at hy1
  rw [e2] at hy2
  rw [e3] at hy3
  obtain ⟨a, x0, _, _⟩ := DataW.trod_int hi hy0
  obtain ⟨b, x1, _, _⟩ := DataW.trod_int hi hy1
  obtain ⟨c, x2, _, _⟩ := DataW.trod_int hi hy2
  obtain ⟨d, x3, _, _⟩ := DataW.trod_int hi hy3
  simp at x0 x1 x2 x3
  subst x0 x1 x2 x3
  exact ⟨⟨a, b, c, d⟩, rfl⟩
theorem view_spans {P : Program} {t e ti : TypeId} {f0 f1 f2 f3 : Field} (ht : P.underlying t = some (.slice e)) (he : P.underlying e = some (.struct #[f0, f1, f2, f3])) (ce : P.cellsOf e = 4) (ho : f0.offset = 0 ∧ f1.offset = 1 ∧ f2.offset = 2 ∧ f3.offset = 3) (hty : f0.type = ti ∧ f1.type = ti ∧ f2.type = ti ∧ f3.type = ti)
    (ci : P.cellsOf ti = 1) (hi : P.underlying ti = some (.int .i64)) (hv : Value.okWide P W .any base t v) (h : DataW.Trod enc P W 0 (fun _ => true) true t v d p) :
    ∃ A L c, v = .slice A L.length c ∧ L.length ≤ maxLen ∧ Ss W W.heap.size A L ∧ (A = none → c = 0) := by
  obtain ⟨A, len, cap, rfl⟩ := okWide_slice ht hv
  obtain ⟨fuel, hf⟩ := h
  rcases Deep.open_slice ht hf with ⟨hcs, _⟩ | ⟨a, l, c, m, n, D, Pl, hcs, _, hl, hm, hmm, hx, hall⟩
  · simp [Value.cells] at hcs
    obtain ⟨rfl, rfl, rfl⟩ := hcs
    exact ⟨none, [], 0, rfl, by simp [maxLen], Ss.nil, fun _ => rfl⟩
  · simp [Value.cells] at hcs
    obtain ⟨rfl, rfl, rfl⟩ := hcs
    have hlm : len ≤ m := by rw [hmm]; split <;> omega
    obtain ⟨b, off, spot⟩ := a
    have hone : ∀ i, i < len → ∃ t : Sp, W.cell? ((⟨b, off, spot⟩ : Addr).add (i * 4)) = some (.int .i64 t.n) ∧ W.cell? ((⟨b, off, spot⟩ : Addr).add (i * 4 + 1)) = some (.int .i64 t.lo) ∧ W.cell? ((⟨b, off, spot⟩ : Addr).add (i * 4 + 2)) = some (.int .i64 t.hi) ∧ W.cell? ((⟨b, off, spot⟩ : Addr).add (i * 4 + 3)) = some (.int .i64 t.to) := by
      intro i hil
      obtain ⟨cs', h1, h2⟩ := hall i (by omega)
      rw [ce] at h1
      obtain ⟨_, hlen, hcell⟩ := World.cells?_some h1
      obtain ⟨y0, y1, y2, y3, k, hxy, _, g0, g1, g2, g3⟩ := Joins.trod_struct4 he h2
      rw [hty.1, ho.1, ci] at g0
      rw [hty.2.1, ho.2.1, ci] at g1
      rw [hty.2.2.1, ho.2.2.1, ci] at g2
      rw [hty.2.2.2, ho.2.2.2, ci] at g3
      match cs', hlen with
      | [v0, v1, v2, v3], _ =>
        obtain ⟨n0, q0, _, _⟩ := DataW.trod_int hi g0
        obtain ⟨n1, q1, _, _⟩ := DataW.trod_int hi g1
        obtain ⟨n2, q2, _, _⟩ := DataW.trod_int hi g2
        obtain ⟨n3, q3, _, _⟩ := DataW.trod_int hi g3
        have e0 := hcell 0 (by omega)
        have e1 := hcell 1 (by omega)
        have e2 := hcell 2 (by omega)
        have e3 := hcell 3 (by omega)
        rw [Deep.add_add] at e0 e1 e2 e3
        have r0 : v0 = .int .i64 n0 := by simpa using q0
        have r1 : v1 = .int .i64 n1 := by simpa using q1
        have r2 : v2 = .int .i64 n2 := by simpa using q2
        have r3 : v3 = .int .i64 n3 := by simpa using q3
        subst r0 r1 r2 r3
        refine ⟨⟨n0, n1, n2, n3⟩, ?_, ?_, ?_, ?_⟩
        · simpa using e0
        · simpa using e1
        · simpa using e2
        · simpa using e3
    obtain ⟨L, hL, hQ⟩ := list_ofS ⟨0, 0, 0, 0⟩ len hone
    subst hL
    refine ⟨_, L, cap, rfl, by omega, fun hn => ?_, fun e => by cases e⟩
    have hc0 := (hQ 0 hn).1
    have hspot : spot = none := by simpa [Addr.add] using World.cell?_spot hc0
    subst hspot
    refine ⟨b, off, rfl, World.block_lt_of_cell? W _ (by simpa [Addr.add] using hc0 : W.cell? ⟨b, off, none⟩ = _), fun j x hx => ?_⟩
    obtain ⟨h0, h1, h2, h3⟩ := hQ j (List.getElem?_eq_some_iff.1 hx).1
    rw [addr_add] at h0 h1 h2 h3
    rw [hx] at h0 h1 h2 h3
    exact ⟨h0, h1, h2, h3⟩
end
end Go.Proofs.Ytdlkgcbiekilhaa
