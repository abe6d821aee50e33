/-
  What the laws of layer 9 want besides: how long lists are; append of items.
-/
import Derived.Test.YtmjneokjgcgchaaGreatSemAwake
import Derived.Test.YtmjneokjgcgchaaGreatSemTold
import Derived.Test.YtmjneokjgcgchaaGreatSemShort
import Derived.Test.YtmjneokjgcgchaaGreatSemMrg
import Derived.Test.YtmjneokjgcgchaaGreatSemDo
namespace Go.Proofs.YtmjneokjgcgchaaGreat
open Go.RowKit

theorem ltC_irr (r : Rc) : ltC r r = false := by
  unfold ltC
  simp
theorem CR.few {l m : List Rc} (h : CR l m) : m.length ≤ l.length :=
  nodup_le (h.ord.imp fun {a b} hab e => by subst e; rw [ltC_irr] at hab; cases hab) fun r hr => h.sub hr
theorem Cm.few {m t : Pg} (h : Cm m t) : t.sp.length ≤ m.sp.length ∧ t.ci.length ≤ 2 * m.ci.length ∧ t.no.length ≤ 2 * m.no.length ∧ t.bf.length ≤ 2 * m.bf.length :=
  ⟨h.sp.few, h.ci.1.few h.ci.2, h.no.1.few h.no.2, h.bf.1.few h.bf.2⟩
theorem ct_units {d : List Me} (h : Ct (pl d)) : ∀ m ∈ d, m.b.u.length ≤ 64 := fun m hm => (h.1 m.b (List.mem_map_of_mem hm)).2.2.2.1.2.1
/-- A table that few lists come to. -/
theorem Cm.tq {m : Pg} {t : Tb} (h : Cm m (Tp t)) (h0 : m.sp.length ≤ 1000) (h1 : m.ci.length ≤ 1000) (h2 : m.no.length ≤ 1000) (h3 : m.bf.length ≤ 1000) : Tq9 t ∧ t.sp.length ≤ 1000 ∧ t.ci.length ≤ 2000 ∧ t.no.length ≤ 2000 ∧ t.bf.length ≤ 2000 := by
  obtain ⟨a, b, c, d⟩ := h.few
  simp only [Tp, pl_length] at a b c d
  exact ⟨⟨by omega, by omega, by omega, by omega, fun m hm => Nat.le_trans (ct_units h.bf.1 m hm) (by omega)⟩, by omega, by omega, by omega, by omega⟩
theorem infoI5 : (Tryz.prog.info? 46).map (fun i => (i.zero, i.size, i.bytes)) = some (some (.agg #[.int .i64 0, .int .i64 0, .string ⟨#[]⟩, .int .i64 0, .int .i64 0, .int .i64 0, .string ⟨#[]⟩, .slice none 0 0]), 8, 96) := by kernel_rfl
/-- append(dst, l...) of items. -/
theorem app_items {P : Program} {w : World} {ops : Array Oper} {rest : List Oper} {o : Oper} {a : Act} {Q : Exit → Act → World → Prop} (hgd : o.guard = none) (s x : Operand) (t : TypeId)
    (ho : o.op = .call { callee := .builtin .append, args := #[s, x], argTypes := #[t, t] })
    (base : Nat) (e : TypeId) (i : TypeInfo) (z : Value) (ht : P.underlying t = some (.slice e)) (hi : P.info? e = some i) (hz : i.zero = some z) (hsize : i.size = 8) (hby : i.bytes = 96) (hzs : z.cells.size = 8)
    (v : Value) (n : Nat) (xs : List (Im × Value)) (hs : a.eval s = v) (hown : w.ownsRow base e 8 v n (xs.flatMap iq)) (X : Nat → Prop) (xv : Value) (l : List (Im × Value)) (hx : a.eval x = xv) (hA : Rw w X 8 iq xv l) (hone : ∀ p ∈ l, ∃ A n c, p.2 = .slice A n c)
    (hl : n + l.length ≤ 1048576) (hbase : base ≤ w.heap.size)
    (h : ∀ v' w', w'.ownsRow base e 8 v' (n + l.length) ((xs ++ l).flatMap iq) → w.grownBy w' v.ownBlock → wpList P ops Q rest (a.put o.dst v') w') : wpList P ops Q (o :: rest) a w := by
  obtain ⟨A, c, rfl, hc, hh⟩ := hA
  rcases Nat.eq_zero_or_pos l.length with h0 | h0
  · obtain rfl : l = [] := List.eq_nil_of_length_eq_zero h0
    obtain ⟨A0, c0, rfl, _⟩ := row_end hown
    have hs2 : Src P i.size t (.slice A 0 c) 0 [] w := src_of ht (by simp) (fun _ => rfl) (fun h => absurd h (by omega)) rfl
    refine wpList_plain hgd fun K hK => ?_
    have hr := run_append_nothing (P := P) w t t o.type e i ht hi A0 _ c0 (own_cap hown) (.slice A 0 c) hs2
    unfold Oper.wp
    have hx' : a.eval x = .slice A 0 c := hx
    simp [execOp, ho, resolve, invoke, builtin, hs, hx', hr, Result.andThen]
    exact hK _ _ (h _ w (by simpa using hown) (World.grownBy.refl w _))
  · obtain ⟨b, p, rfl, hb, _, hcl⟩ := hh h0
    refine wpList_append_own w hgd s x t ho base e i z 8 96 ht hi hz hsize hby hzs (by omega) v n (xs.flatMap iq) hs hown ⟨b, p, none⟩ l.length c (l.flatMap iq) hx (flat_len iq_len l) (fun j u hu => ?_) (fun u hu => ?_) (by unfold maxLen; omega) (by omega) hbase fun v' w' h1 h2 _ => ?_
    · have hj : j < l.length * 8 := by
        rw [← flat_len iq_len]
        exact (List.getElem?_eq_some_iff.1 hu).1
      have hx := List.getElem?_eq_getElem (l := l) (i := j / 8) (by omega)
      have h3 := flat_get iq_len l (j / 8) (j % 8) _ hx (Nat.mod_lt _ (by decide))
      rw [show j / 8 * 8 + j % 8 = j by omega, hu] at h3
      have := hcl _ _ hx (j % 8) u h3.symm
      rwa [addr_plus, show p + j = p + j / 8 * 8 + j % 8 by omega]
    · obtain ⟨q, hq, hu⟩ := List.mem_flatMap.1 hu
      obtain ⟨A, n, c, e⟩ := hone q hq
      exact iq_one9 q e u hu
    · rw [← List.flatMap_append] at h1
      exact h v' w' h1 h2
/-- Items one behind the other, in a row of one's own. -/
theorem Ix.both {w0 w : World} {base n : Nat} {e : TypeId} {v : Value} {d1 d2 : List (Im × Value)} (hb : Below w0.heap.size w0 w) (h : w.ownsRow base e 8 v n ((d1 ++ d2).flatMap iq)) (h1 : ∀ p ∈ d1, Ex w0 (fun _ => False) p.2 p.1.ents) (h2 : ∀ p ∈ d2, Ex w0 (fun _ => False) p.2 p.1.ents) : Ix w (fun _ => False) v ((d1 ++ d2).map (·.1)) :=
  ⟨d1 ++ d2, rfl, (Rw.of_own iq_len (by decide) h (fun _ _ _ h => h)).2, fun p hp => by
    rcases List.mem_append.1 hp with hp | hp
    · exact (h1 p hp).any (Kp.of_below hb)
    · exact (h2 p hp).any (Kp.of_below hb)⟩
end Go.Proofs.YtmjneokjgcgchaaGreat
