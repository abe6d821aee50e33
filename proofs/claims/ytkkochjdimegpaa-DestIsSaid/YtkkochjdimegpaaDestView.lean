/-
  An argument that is an entry, or a list of entries, as a walk wants it.
-/
import Derived.Test.YtkkochjdimegpaaDestMem
import Derived.Test.YtkkochjdimegpaaView
import Derived.Deep.Slices
import Derived.Deep.Strs
import Derived.Handy
namespace Go.Proofs.Ytkkochjdimegpaa
open Go.ChangeShapes Go.WideShapes Go.ChangeAt Go.RowKit Go.Joins

theorem list_ofB {α : Type} {Q : Nat → α → Prop} (d : α) : ∀ n, (∀ i, i < n → ∃ x, Q i x) → ∃ l : List α, l.length = n ∧ ∀ i, i < n → Q i (l[i]?.getD d)
  | 0, _ => ⟨[], rfl, fun _ h => by omega⟩
  | n + 1, h => by
    obtain ⟨l, hl, hq⟩ := list_ofB d n (fun i hi => h i (by omega))
    obtain ⟨x, hx⟩ := h n (by omega)
    refine ⟨l ++ [x], by simp [hl], fun i hi => ?_⟩
    by_cases hin : i < n
    · rw [List.getElem?_append_left (by omega)]; exact hq i hin
    · obtain rfl : i = n := by omega
      rw [List.getElem?_append_right (by omega), hl]
      simpa using hx
section
variable {H : Type} {enc : TypeId × Value → H} {W : World} {base : Nat} {v : Value} {d : DataW H} {p : List MemPlace}
theorem view_units {P : Program} {t e : TypeId} {fuel : Nat} {x : DataW H × List MemPlace} (ht : P.underlying t = some (.slice e)) (he : P.underlying e = some (.int .i64)) (hc : P.cellsOf e = 1) (h : DataW.trod enc P W 0 (fun _ => true) true fuel t [v] = some x) :
    ∃ A u c, v = .slice A u.length c ∧ u.length ≤ maxLen ∧ Un W A c u := by
  rcases open_ints ht he hc h with ⟨hcs, _⟩ | ⟨a, l, c, zs, hcs, _, hl, hm, hz, _, hcell, hwz⟩
  · injection hcs with hcs
    exact ⟨none, [], 0, hcs, by simp [maxLen], ⟨Nat.le_refl _, fun _ => rfl, Si.nil⟩⟩
  · injection hcs with hcs
    have hz' : zs.length = c := by simpa using hz
    have hlen : (zs.take l).length = l := by simp; omega
    have hget : ∀ j, j < l → (zs.take l)[j]?.getD 0 = zs.getD j 0 := fun j hj => by
      have hzj : zs[j]? = some (zs.getD j 0) := by rw [List.getD_eq_getElem?_getD, List.getElem?_eq_getElem (by omega : j < zs.length)]; rfl
      rw [List.getElem?_take, if_pos hj, hzj]; rfl
    refine ⟨some a, zs.take l, c, by rw [hlen]; exact hcs, by rw [hlen]; omega, ⟨by rw [hlen]; exact hl, (fun e => by cases e), fun hn => ?_⟩⟩
    rw [hlen] at hn
    obtain ⟨b, off, spot⟩ := a
    have hc0 := hcell 0 (by omega)
    have hspot : spot = none := by simpa [Addr.add] using World.cell?_spot hc0
    subst hspot
    refine ⟨b, off, rfl, World.block_lt_of_cell? W _ (by simpa [Addr.add] using hc0 : W.cell? ⟨b, off, none⟩ = _), fun j hj => ?_⟩
    rw [hlen] at hj
    have hcj := hcell j (by omega)
    rw [addr_add] at hcj
    rw [hcj, hget j hj]
theorem view_bf {P : Program} {t ti ts : TypeId} {f0 f1 f2 f3 : Field} (ht : P.underlying t = some (.struct #[f0, f1, f2, f3])) (hone : Deep.oneCellFields P #[f0, f1, f2, f3] = true) (hC : P.cellsOf t = 4) (e0 : f0.type = ti) (e1 : f1.type = ti) (e2 : f2.type = ti) (e3 : f3.type = ts)
    (hi : P.underlying ti = some (.int .i64)) (ci : P.cellsOf ti = 1) (hs : P.underlying ts = some (.slice ti)) (hv : Value.okWide P W .any base t v) (h : DataW.Trod enc P W 0 (fun _ => true) true t v d p) :
    ∃ r : Me, v = fv r ∧ Un W r.a r.c r.b.u ∧ r.b.u.length ≤ maxLen := by
  obtain ⟨c0, c1, c2, c3, y0, y1, y2, y3, k, rfl, _, _, hy0, hy1, hy2, hy3⟩ := open_agg4 ht hone hC hv h
  rw [e0] at hy0
  rw [e1] at hy1
  rw [e2] at hy2
  rw [e3] at hy3
  obtain ⟨a, x0, _, _⟩ := DataW.trod_int hi hy0
  obtain ⟨b, x1, _, _⟩ := DataW.trod_int hi hy1
  obtain ⟨c, x2, _, _⟩ := DataW.trod_int hi hy2
  obtain ⟨A, u, cc, x3, hm, hun⟩ := view_units hs hi ci hy3
  simp at x0 x1 x2
  subst x0 x1 x2 x3
  exact ⟨⟨⟨a, b, c, u⟩, A, cc⟩, rfl, hun, hm⟩
theorem view_bfs {P : Program} {t e ti ts : TypeId} {f0 f1 f2 f3 : Field} (ht : P.underlying t = some (.slice e)) (he : P.underlying e = some (.struct #[f0, f1, f2, f3])) (ce : P.cellsOf e = 4) (ho : f0.offset = 0 ∧ f1.offset = 1 ∧ f2.offset = 2 ∧ f3.offset = 3) (hty : f0.type = ti ∧ f1.type = ti ∧ f2.type = ti ∧ f3.type = ts)
    (ci : P.cellsOf ti = 1) (cs : P.cellsOf ts = 1) (hi : P.underlying ti = some (.int .i64)) (hs : P.underlying ts = some (.slice ti)) (hv : Value.okWide P W .any base t v) (h : DataW.Trod enc P W 0 (fun _ => true) true t v d p) :
    ∃ A L c, v = .slice A L.length c ∧ L.length ≤ maxLen ∧ Sd W A L ∧ (A = none → c = 0) ∧ ∀ m ∈ L, m.b.u.length ≤ maxLen := by
  obtain ⟨A, len, cap, rfl⟩ := okWide_slice ht hv
  obtain ⟨fuel, hf⟩ := h
  rcases Deep.open_slice ht hf with ⟨hcs, _⟩ | ⟨a, l, c, m, n, D, Pl, hcs, _, hl, hm, hmm, hx, hall⟩
  · simp [Value.cells] at hcs
    obtain ⟨rfl, rfl, rfl⟩ := hcs
    exact ⟨none, [], 0, rfl, by simp [maxLen], Sd.nil, fun _ => rfl, fun _ h => by cases h⟩
  · simp [Value.cells] at hcs
    obtain ⟨rfl, rfl, rfl⟩ := hcs
    have hlm : len ≤ m := by rw [hmm]; split <;> omega
    obtain ⟨b, off, spot⟩ := a
    have hone : ∀ i, i < len → ∃ t : Me, (W.cell? ((⟨b, off, spot⟩ : Addr).add (i * 4)) = some (.int .i64 t.b.n) ∧ W.cell? ((⟨b, off, spot⟩ : Addr).add (i * 4 + 1)) = some (.int .i64 t.b.lo) ∧ W.cell? ((⟨b, off, spot⟩ : Addr).add (i * 4 + 2)) = some (.int .i64 t.b.hi) ∧ W.cell? ((⟨b, off, spot⟩ : Addr).add (i * 4 + 3)) = some (.slice t.a t.b.u.length t.c)) ∧ Un W t.a t.c t.b.u ∧ t.b.u.length ≤ maxLen := by
      intro i hil
      obtain ⟨cs', h1, h2⟩ := hall i (by omega)
      rw [ce] at h1
      obtain ⟨_, hlen, hcell⟩ := World.cells?_some h1
      obtain ⟨y0, y1, y2, y3, k, hxy, _, g0, g1, g2, g3⟩ := Joins.trod_struct4 he h2
      rw [hty.1, ho.1, ci] at g0
      rw [hty.2.1, ho.2.1, ci] at g1
      rw [hty.2.2.1, ho.2.2.1, ci] at g2
      rw [hty.2.2.2, ho.2.2.2, cs] at g3
      match cs', hlen with
      | [v0, v1, v2, v3], _ =>
        obtain ⟨n0, q0, _, _⟩ := DataW.trod_int hi g0
        obtain ⟨n1, q1, _, _⟩ := DataW.trod_int hi g1
        obtain ⟨n2, q2, _, _⟩ := DataW.trod_int hi g2
        have g3' : DataW.trod enc P W 0 (fun _ => true) true k ts [v3] = some y3 := by simpa using g3
        obtain ⟨ua, u, uc, r3, um, uun⟩ := view_units hs hi ci g3'
        have e0 := hcell 0 (by omega)
        have e1 := hcell 1 (by omega)
        have e2 := hcell 2 (by omega)
        have e3 := hcell 3 (by omega)
        rw [Deep.add_add] at e0 e1 e2 e3
        have r0 : v0 = .int .i64 n0 := by simpa using q0
        have r1 : v1 = .int .i64 n1 := by simpa using q1
        have r2 : v2 = .int .i64 n2 := by simpa using q2
        subst r0 r1 r2 r3
        refine ⟨⟨⟨n0, n1, n2, u⟩, ua, uc⟩, ⟨?_, ?_, ?_, ?_⟩, uun, um⟩
        · simpa using e0
        · simpa using e1
        · simpa using e2
        · simpa using e3
    obtain ⟨L, hL, hQ⟩ := list_ofB ⟨⟨0, 0, 0, []⟩, none, 0⟩ len hone
    subst hL
    have hmem : ∀ m ∈ L, Un W m.a m.c m.b.u ∧ m.b.u.length ≤ maxLen := fun m hm => by
      obtain ⟨i, hi, ei⟩ := List.getElem_of_mem hm
      have h0 := (hQ i hi).2
      rw [List.getElem?_eq_getElem hi, ei] at h0
      exact h0
    refine ⟨_, L, cap, rfl, by omega, ⟨fun hn => ?_, fun m hm => (hmem m hm).1⟩, (fun e => by cases e), fun m hm => (hmem m hm).2⟩
    have hc0 := (hQ 0 hn).1.1
    have hspot : spot = none := by simpa [Addr.add] using World.cell?_spot hc0
    subst hspot
    refine ⟨b, off, rfl, World.block_lt_of_cell? W _ (by simpa [Addr.add] using hc0 : W.cell? ⟨b, off, none⟩ = _), fun j x hx => ?_⟩
    obtain ⟨h0, h1, h2, h3⟩ := (hQ j (List.getElem?_eq_some_iff.1 hx).1).1
    rw [addr_add] at h0 h1 h2 h3
    rw [hx] at h0 h1 h2 h3
    exact ⟨h0, h1, h2, h3⟩
end
end Go.Proofs.Ytkkochjdimegpaa
