/-
  Parts of this proof, one behind the other: SynView.
-/
import Derived.Test.YthcnjiigkmljnaaDoorPart1
import Derived.Deep.Slices
/-
  An argument that is a list of tokens, as a walk wants it.
-/
namespace Go.Proofs.YthcnjiigkmljnaaDoor
open Go.ChangeShapes Go.WideShapes Go.ChangeAt Go.RowKit Go.Joins

/-- A token as a datum. -/
def tkD {H : Type} (t : Tk) : DataW H := .agg [.lit (.int .i64 t.kind), .lit (.int .i64 t.at_), .lit (.int .i64 t.n), .lit (.string t.s)]
theorem list_of {α : Type} {Q : Nat → α → Prop} (d : α) : ∀ n, (∀ i, i < n → ∃ x, Q i x) → ∃ l : List α, l.length = n ∧ ∀ i, i < n → Q i (l[i]?.getD d)
  | 0, _ => ⟨[], rfl, fun _ h => by omega⟩
  | n + 1, h => by
    obtain ⟨l, hl, hq⟩ := list_of d n (fun i hi => h i (by omega))
    obtain ⟨x, hx⟩ := h n (by omega)
    refine ⟨l ++ [x], by simp [hl], fun i hi => ?_⟩
    by_cases hin : i < n
    · rw [List.getElem?_append_left (by omega)]; exact hq i hin
    · obtain rfl : i = n := by omega
      rw [List.getElem?_append_right (by omega), hl]
      simpa using hx
section
variable {H : Type} {enc : TypeId × Value → H} {W : World} {base : Nat} {v : Value} {d : DataW H} {p : List MemPlace}
theorem view_toks {P : Program} {t e ti ts : TypeId} {f0 f1 f2 f3 : Field} (ht : P.underlying t = some (.slice e)) (he : P.underlying e = some (.struct #[f0, f1, f2, f3])) (ce : P.cellsOf e = 4) (ho : f0.offset = 0 ∧ f1.offset = 1 ∧ f2.offset = 2 ∧ f3.offset = 3) (hty : f0.type = ti ∧ f1.type = ti ∧ f2.type = ti ∧ f3.type = ts)
    (ci : P.cellsOf ti = 1) (cs1 : P.cellsOf ts = 1) (hi : P.underlying ti = some (.int .i64)) (hst : P.underlying ts = some .string) (hv : Value.okWide P W .any base t v) (h : DataW.Trod enc P W 0 (fun _ => true) true t v d p) :
    ∃ A L c, v = .slice A L.length c ∧ L.length ≤ maxLen ∧ St W W.heap.size A L ∧ (∀ t ∈ L, t.s.length ≤ maxLen) ∧ (L = [] ∨ ∃ rest, d = .slice (L.map tkD) rest) := by
  obtain ⟨A, len, cap, rfl⟩ := okWide_slice ht hv
  obtain ⟨fuel, hf⟩ := h
  rcases Deep.open_slice ht hf with ⟨hcs, _⟩ | ⟨a, l, c, m, n, D, Pl, hcs, _, hl, hm, hmm, hx, hall⟩
  · simp [Value.cells] at hcs
    obtain ⟨rfl, rfl, rfl⟩ := hcs
    exact ⟨none, [], 0, rfl, by simp [maxLen], St.nil, (fun _ h => by cases h), .inl rfl⟩
  · simp [Value.cells] at hcs
    obtain ⟨rfl, rfl, rfl⟩ := hcs
    have hlm : len ≤ m := by rw [hmm]; split <;> omega
    obtain ⟨b, off, spot⟩ := a
    have hone : ∀ i, i < len → ∃ t : Tk, (W.cell? ((⟨b, off, spot⟩ : Addr).add (i * 4)) = some (.int .i64 t.kind) ∧ W.cell? ((⟨b, off, spot⟩ : Addr).add (i * 4 + 1)) = some (.int .i64 t.at_) ∧ W.cell? ((⟨b, off, spot⟩ : Addr).add (i * 4 + 2)) = some (.int .i64 t.n) ∧ W.cell? ((⟨b, off, spot⟩ : Addr).add (i * 4 + 3)) = some (.string (str t.s))) ∧ t.s.length ≤ maxLen ∧ D i = tkD t := by
      intro i hil
      obtain ⟨cs', h1, h2⟩ := hall i (by omega)
      rw [ce] at h1
      obtain ⟨_, hlen, hcell⟩ := World.cells?_some h1
      obtain ⟨y0, y1, y2, y3, k, hxy, _, g0, g1, g2, g3⟩ := Joins.trod_struct4 he h2
      rw [hty.1, ho.1, ci] at g0
      rw [hty.2.1, ho.2.1, ci] at g1
      rw [hty.2.2.1, ho.2.2.1, ci] at g2
      rw [hty.2.2.2, ho.2.2.2, cs1] at g3
      match cs', hlen with
      | [v0, v1, v2, v3], _ =>
        obtain ⟨n0, q0, rfl, _⟩ := DataW.trod_int hi g0
        obtain ⟨n1, q1, rfl, _⟩ := DataW.trod_int hi g1
        obtain ⟨n2, q2, rfl, _⟩ := DataW.trod_int hi g2
        obtain ⟨s, q3, rfl, hs⟩ := DataW.trod_string hst g3
        have e0 := hcell 0 (by omega)
        have e1 := hcell 1 (by omega)
        have e2 := hcell 2 (by omega)
        have e3 := hcell 3 (by omega)
        rw [Deep.add_add] at e0 e1 e2 e3
        have r0 : v0 = .int .i64 n0 := by simpa using q0
        have r1 : v1 = .int .i64 n1 := by simpa using q1
        have r2 : v2 = .int .i64 n2 := by simpa using q2
        have r3 : v3 = .string s := by simpa using q3
        subst r0 r1 r2 r3
        obtain ⟨ls, rfl⟩ := str_of s
        simp only [Prod.mk.injEq] at hxy
        refine ⟨⟨n0, n1, n2, ls⟩, ⟨?_, ?_, ?_, ?_⟩, by rwa [str_size] at hs, hxy.1⟩
        · simpa using e0
        · simpa using e1
        · simpa using e2
        · simpa using e3
    obtain ⟨L, hL, hQ⟩ := list_of noT len hone
    subst hL
    refine ⟨_, L, cap, rfl, by omega, fun hn => ?_, fun t ht => ?_, .inr ⟨(List.range (m - L.length)).map fun j => D (L.length + j), ?_⟩⟩
    · have hc0 := (hQ 0 hn).1.1
      have hspot : spot = none := by simpa [Addr.add] using World.cell?_spot hc0
      subst hspot
      refine ⟨b, off, rfl, World.block_lt_of_cell? W _ (by simpa [Addr.add] using hc0 : W.cell? ⟨b, off, none⟩ = _), fun j hj => ?_⟩
      obtain ⟨⟨h0, h1, h2, h3⟩, _, _⟩ := hQ j hj
      rw [addr_add] at h0 h1 h2 h3
      exact ⟨h0, h1, h2, h3⟩
    · obtain ⟨j, hj, rfl⟩ := List.mem_iff_getElem.1 ht
      have := (hQ j hj).2.1
      rwa [List.getElem?_eq_getElem hj] at this
    · have hd := congrArg Prod.fst hx
      simp only at hd
      rw [hd]
      congr 1
      apply List.ext_getElem?
      intro j
      by_cases hj : j < L.length
      · have := (hQ j hj).2.2
        rw [List.getElem?_eq_getElem hj] at this
        simp [hj, this]
      · simp [hj]
end
end Go.Proofs.YthcnjiigkmljnaaDoor
