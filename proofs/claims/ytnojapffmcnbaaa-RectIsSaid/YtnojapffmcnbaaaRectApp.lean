/-
  append(dst, l...) of codespaces; a nil slice has no room.
-/
import Derived.Test.YtnojapffmcnbaaaRectStep
import Derived.Laws.AppendOwnNone
import Derived.Test.YtnojapffmcnbaaaView
import Derived.Deep.Slices
namespace Go.Proofs.Ytnojapffmcnbaaa
open Go.RowKit

theorem own_emptyR (w : World) (B : Nat) (e : TypeId) (hB : B ≤ w.heap.size) : (w.alloc (.cells #[] e)).ownsRow B e 3 (.slice (some ⟨w.heap.size, 0, none⟩) 0 0) ([] : List Rc).length (rvs []) :=
  ⟨rfl, .inr ⟨w.heap.size, 0, #[], rfl, hB, heap_alloc_new w _, Nat.le_refl _, by unfold maxLen; omega, rfl, rfl⟩⟩
theorem Sr.cells {w : World} {B : Nat} {A : Option Addr} {l : List Rc} (h : Sr w B A l) (hn : 0 < l.length) : ∃ ad, A = some ad ∧ ∀ j u, (rvs l)[j]? = some u → w.cell? (ad.add j) = some u := by
  obtain ⟨b, o, e, _, hc⟩ := h hn
  refine ⟨_, e, fun j u hu => ?_⟩
  have hj : j < l.length * 3 := by
    rw [← rvs_length]
    exact (List.getElem?_eq_some_iff.1 hu).1
  have hx := List.getElem?_eq_getElem (l := l) (i := j / 3) (by omega)
  have h3 := rvs_get l (j / 3) (j % 3) _ hx (Nat.mod_lt _ (by decide))
  rw [show j / 3 * 3 + j % 3 = j by omega, hu] at h3
  obtain ⟨c0, c1, c2⟩ := hc _ _ hx
  rw [addr_add]
  rcases (show j % 3 = 0 ∨ j % 3 = 1 ∨ j % 3 = 2 by omega) with e3 | e3 | e3
  · rw [e3] at h3
    rw [show o + j = o + j / 3 * 3 by omega, c0, h3]
    rfl
  · rw [e3] at h3
    rw [show o + j = o + j / 3 * 3 + 1 by omega, c1, h3]
    rfl
  · rw [e3] at h3
    rw [show o + j = o + j / 3 * 3 + 2 by omega, c2, h3]
    rfl
theorem app_rects {P : Program} {w : World} {ops : Array Oper} {rest : List Oper} {o : Oper} {a : Act} {Q : Exit → Act → World → Prop} (hgd : o.guard = none) (s x : Operand) (t : TypeId)
    (ho : o.op = .call { callee := .builtin .append, args := #[s, x], argTypes := #[t, t] })
    (base : Nat) (e : TypeId) (i : TypeInfo) (ht : P.underlying t = some (.slice e)) (hi : P.info? e = some i) (hz : i.zero = some (.agg #[.int .i64 0, .int .i64 0, .int .i64 0])) (hsize : i.size = 3) (hby : i.bytes = 24)
    (v : Value) (xs : List Rc) (hs : a.eval s = v) (hown : w.ownsRow base e 3 v xs.length (rvs xs)) (B : Nat) (A : Option Addr) (c : Nat) (l : List Rc) (hx : a.eval x = .slice A l.length c) (hA : Sr w B A l) (hc : A = none → c = 0)
    (hl : xs.length + l.length ≤ 1048576) (hbase : base ≤ w.heap.size)
    (h : ∀ v' w', w'.ownsRow base e 3 v' (xs ++ l).length (rvs (xs ++ l)) → w.grownBy w' v.ownBlock → wpList P ops Q rest (a.put o.dst v') w') : wpList P ops Q (o :: rest) a w := by
  cases A with
  | none =>
    have hn : l = [] := by
      rcases Nat.eq_zero_or_pos l.length with h0 | h0
      · exact List.eq_nil_of_length_eq_zero h0
      · obtain ⟨b, o, e, _⟩ := hA h0
        cases e
    subst hn
    rw [hc rfl] at hx
    refine wpList_append_own_none hgd s x t ho base e i 3 ht hi v xs.length (rvs xs) hs hown hx ?_
    rw [List.append_nil] at h
    exact h v w hown (World.grownBy.refl w _)
  | some ad =>
    have hcell : ∀ j u, (rvs l)[j]? = some u → w.cell? (ad.add j) = some u := fun j u hu => by
      have hj : 0 < l.length := by
        have := (List.getElem?_eq_some_iff.1 hu).1
        rw [rvs_length] at this
        omega
      obtain ⟨ad', e, hcs⟩ := hA.cells hj
      injection e with e
      subst e
      exact hcs j u hu
    refine wpList_append_own w hgd s x t ho base e i (.agg #[.int .i64 0, .int .i64 0, .int .i64 0]) 3 24 ht hi hz hsize hby rfl (by omega) v xs.length (rvs xs) hs hown ad l.length c (rvs l) hx (rvs_length l) hcell (rvs_one l) (by unfold maxLen; omega) (by omega) hbase fun v' w' h1 h2 _ => ?_
    rw [← rvs_append] at h1
    exact h v' w' (by rw [List.length_append]; exact h1) h2
/-- A nil slice that came in has no room. -/
theorem nil_room {H : Type} {enc : TypeId × Value → H} {P : Program} {W : World} {d : DataW H} {p : List MemPlace} {t e : TypeId} {A : Option Addr} {n c : Nat} (ht : P.underlying t = some (.slice e)) (h : DataW.Trod enc P W 0 (fun _ => true) true t (.slice A n c) d p) : A = none → c = 0 := by
  intro hA
  obtain ⟨fuel, hf⟩ := h
  rcases Deep.open_slice ht hf with ⟨hcs, _⟩ | ⟨a, l, c', m, n', D, Pl, hcs, _⟩
  · simp [Value.cells] at hcs
    exact hcs.2.2
  · simp [Value.cells] at hcs
    rw [hA] at hcs
    cases hcs.1
end Go.Proofs.Ytnojapffmcnbaaa
