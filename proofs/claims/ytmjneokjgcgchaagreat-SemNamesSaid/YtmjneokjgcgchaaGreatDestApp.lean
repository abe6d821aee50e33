/-
  append(dst, l...) of entries.
-/
import Derived.Test.YtmjneokjgcgchaaGreatDestSame
import Derived.Laws.AppendOwnNone
namespace Go.Proofs.YtmjneokjgcgchaaGreat
open Go.RowKit

theorem own_emptyF (w : World) (B : Nat) (e : TypeId) (hB : B ≤ w.heap.size) : (w.alloc (.cells #[] e)).ownsRow B e 4 (.slice (some ⟨w.heap.size, 0, none⟩) 0 0) ([] : List Me).length (dvs []) :=
  ⟨rfl, .inr ⟨w.heap.size, 0, #[], rfl, hB, heap_alloc_new w _, Nat.le_refl _, by unfold maxLen; omega, rfl, rfl⟩⟩
theorem Rd.cells {w : World} {B : Nat} {A : Option Addr} {l : List Me} (h : Rd w B A l) (hn : 0 < l.length) : ∃ ad, A = some ad ∧ ∀ j u, (dvs l)[j]? = some u → w.cell? (ad.add j) = some u := by
  obtain ⟨b, o, e, _, hc⟩ := h hn
  refine ⟨_, e, fun j u hu => ?_⟩
  have hj : j < l.length * 4 := by
    rw [← dvs_length]
    exact (List.getElem?_eq_some_iff.1 hu).1
  have hx := List.getElem?_eq_getElem (l := l) (i := j / 4) (by omega)
  have h3 := dvs_get l (j / 4) (j % 4) _ hx (Nat.mod_lt _ (by decide))
  rw [show j / 4 * 4 + j % 4 = j by omega, hu] at h3
  obtain ⟨c0, c1, c2, c3⟩ := hc _ _ hx
  rw [addr_add]
  rcases (show j % 4 = 0 ∨ j % 4 = 1 ∨ j % 4 = 2 ∨ j % 4 = 3 by omega) with e3 | e3 | e3 | e3
  · rw [e3] at h3
    rw [show o + j = o + j / 4 * 4 by omega, c0, h3]
    rfl
  · rw [e3] at h3
    rw [show o + j = o + j / 4 * 4 + 1 by omega, c1, h3]
    rfl
  · rw [e3] at h3
    rw [show o + j = o + j / 4 * 4 + 2 by omega, c2, h3]
    rfl
  · rw [e3] at h3
    rw [show o + j = o + j / 4 * 4 + 3 by omega, c3, h3]
    rfl
theorem app_bfs {P : Program} {w : World} {ops : Array Oper} {rest : List Oper} {o : Oper} {a : Act} {Q : Exit → Act → World → Prop} (hgd : o.guard = none) (s x : Operand) (t : TypeId)
    (ho : o.op = .call { callee := .builtin .append, args := #[s, x], argTypes := #[t, t] })
    (base : Nat) (e : TypeId) (i : TypeInfo) (ht : P.underlying t = some (.slice e)) (hi : P.info? e = some i) (hz : i.zero = some (.agg #[.int .i64 0, .int .i64 0, .int .i64 0, .slice none 0 0])) (hsize : i.size = 4) (hby : i.bytes = 48)
    (v : Value) (xs : List Me) (hs : a.eval s = v) (hown : w.ownsRow base e 4 v xs.length (dvs xs)) (B : Nat) (A : Option Addr) (n c : Nat) (l : List Me) (hn : n = l.length) (hx : a.eval x = .slice A n c) (hA : Rd w B A l) (hc : A = none → c = 0)
    (hl : xs.length + l.length ≤ 1048576) (hbase : base ≤ w.heap.size)
    (h : ∀ v' w', w'.ownsRow base e 4 v' (xs ++ l).length (dvs (xs ++ l)) → w.grownBy w' v.ownBlock → wpList P ops Q rest (a.put o.dst v') w') : wpList P ops Q (o :: rest) a w := by
  subst hn
  cases A with
  | none =>
    have hn : l = [] := by
      rcases Nat.eq_zero_or_pos l.length with h0 | h0
      · exact List.eq_nil_of_length_eq_zero h0
      · obtain ⟨b, o, e, _⟩ := hA h0
        cases e
    subst hn
    rw [hc rfl] at hx
    refine wpList_append_own_none hgd s x t ho base e i 4 ht hi v xs.length (dvs xs) hs hown hx ?_
    rw [List.append_nil] at h
    exact h v w hown (World.grownBy.refl w _)
  | some ad =>
    have hcell : ∀ j u, (dvs l)[j]? = some u → w.cell? (ad.add j) = some u := fun j u hu => by
      have hj : 0 < l.length := by
        have := (List.getElem?_eq_some_iff.1 hu).1
        rw [dvs_length] at this
        omega
      obtain ⟨ad', e, hcs⟩ := hA.cells hj
      injection e with e
      subst e
      exact hcs j u hu
    refine wpList_append_own w hgd s x t ho base e i (.agg #[.int .i64 0, .int .i64 0, .int .i64 0, .slice none 0 0]) 4 48 ht hi hz hsize hby rfl (by omega) v xs.length (dvs xs) hs hown ad l.length c (dvs l) hx (dvs_length l) hcell (dvs_one l) (by unfold maxLen; omega) (by omega) hbase fun v' w' h1 h2 _ => ?_
    rw [← dvs_append] at h1
    exact h v' w' (by rw [List.length_append]; exact h1) h2
/-- Two entries in a new block. -/
theorem sd_two (W : World) (x y : Me) (t : TypeId) (hx : Un W x.a x.c x.b.u) (hy : Un W y.a y.c y.b.u) : Sd (W.alloc (.cells #[.int .i64 x.b.n, .int .i64 x.b.lo, .int .i64 x.b.hi, .slice x.a x.b.u.length x.c, .int .i64 y.b.n, .int .i64 y.b.lo, .int .i64 y.b.hi, .slice y.a y.b.u.length y.c] t)) (some ⟨W.heap.size, 0, none⟩) [x, y] := by
  refine ⟨fun _ => ⟨W.heap.size, 0, rfl, by simp, fun j z hz => ?_⟩, fun m hm => ?_⟩
  · have key := World.news_of_block (heap_alloc_new W (.cells (dvs [x, y]).toArray t))
    have hj : j < 2 := by have := (List.getElem?_eq_some_iff.1 hz).1; simpa using this
    have g : ∀ i u, i < 4 → (fq z)[i]? = some u → (W.alloc (.cells (dvs [x, y]).toArray t)).cell? ⟨W.heap.size, 0 + j * 4 + i, none⟩ = some u := fun i u hi hu => by
      have := key (j * 4 + i) u (by simpa using (dvs_get [x, y] j i z hz hi).trans hu)
      rwa [addr_add, ← Nat.add_assoc] at this
    exact ⟨g 0 _ (by omega) rfl, g 1 _ (by omega) rfl, g 2 _ (by omega) rfl, g 3 _ (by omega) rfl⟩
  · simp at hm
    rcases hm with rfl | rfl
    · exact hx.over (al_below _ _)
    · exact hy.over (al_below _ _)
theorem own_two {w : World} {base n : Nat} {e : TypeId} {v : Value} {out : List Me} {x y : Me} (h : w.ownsRow base e 4 v n (dvs out ++ (fq x ++ fq y))) (hn : n = out.length + 2) : w.ownsRow base e 4 v (out ++ [x, y]).length (dvs (out ++ [x, y])) := by
  subst hn
  rw [dvs_append, List.length_append]
  simpa [dvs] using h
theorem last_swapB {a b : Bp} (h : ¬ (a.n = b.n ∧ a.lo ≤ b.hi ∧ b.lo ≤ a.hi)) (l : List Bp) (n v : Int) : lastB (l ++ [a, b]) n v = lastB (l ++ [b, a]) n v := by
  simp only [lastB_append, lastB, Option.none_or]
  cases ha : toB a n v with
  | none => simp
  | some x =>
    cases hb : toB b n v with
    | none => simp
    | some y =>
      obtain ⟨_, a1, a2, a3, _⟩ := toB_some.1 ha
      obtain ⟨_, b1, b2, b3, _⟩ := toB_some.1 hb
      exact absurd ⟨by omega, by omega, by omega⟩ h
/-- A row of one's own that holds entries, whose units lie somewhere. -/
theorem sd_own {w : World} {base n : Nat} {e : TypeId} {v : Value} {d : List Me} (h : w.ownsRow base e 4 v n (dvs d)) (hu : Ul w d) : ∃ A c, v = .slice A d.length c ∧ (A = none → c = 0) ∧ Sd w A d := by
  obtain ⟨c, _, _, A, ev, hn, hrd⟩ := Rd.of_own h
  exact ⟨A, c, ev, hn, hrd, hu⟩
end Go.Proofs.YtmjneokjgcgchaaGreat
