/-
  Layer 6, plainly: what fits wholly is in it.
-/
import Derived.Test.YtnojapffmcnbaaaRectApp
import Derived.Test.YtnojapffmcnbaaaRectPro5
import Derived.Test.YtnojapffmcnbaaaHexVal
namespace Go.Proofs.Ytnojapffmcnbaaa
open Go.RowKit

theorem num_cast (l : List UInt8) (b : UInt8) : num (l ++ [b]) / 256 = num l ∧ num (l ++ [b]) % 256 = (b.toNat : Int) := by
  rw [num_snoc]
  have := b.toNat_lt
  omega
theorem byJ_num : ∀ (n : Nat) (l : List UInt8) (j : Nat), l.length = n → j < n → ∃ x, l[n - 1 - j]? = some x ∧ byJ (num l) j = (x.toNat : Int)
  | 0, _, _, _, h => absurd h (Nat.not_lt_zero _)
  | n + 1, l, j, hl, hj => by
    obtain ⟨l', b, rfl⟩ : ∃ l' b, l = l' ++ [b] := ⟨l.dropLast, l.getLast (fun e => by rw [e] at hl; simp at hl), (List.dropLast_concat_getLast _).symm⟩
    have hl' : l'.length = n := by simpa using hl
    obtain ⟨e1, e2⟩ := num_cast l' b
    cases j with
    | zero =>
      refine ⟨b, ?_, ?_⟩
      · rw [List.getElem?_append_right (by omega), hl']
        simp
      · rw [byJ_zero, e2]
    | succ j =>
      obtain ⟨x, hx, hb⟩ := byJ_num n l' j hl' (by omega)
      refine ⟨x, ?_, ?_⟩
      · rw [List.getElem?_append_left (by omega), show n + 1 - 1 - (j + 1) = n - 1 - j by omega]
        exact hx
      · rw [byJ_succ, e1]
        exact hb
theorem sane_num {n : Int} {l : List UInt8} (h1 : 1 ≤ n) (h4 : n ≤ 4) (hl : l.length = n.toNat) : saneB n (num l) = true := by
  have := num_bounds n.toNat l (by omega)
  exact (saneB_iff _ _).2 ⟨h1, h4, this.1, this.2⟩
/-- What fits wholly is in it. -/
theorem fit_in {r : Rc} (h : saneR r = true) {l : List UInt8} (hl : r.n.toNat ≤ l.length) : inC r r.n (num (l.take r.n.toNat)) = decide (fitC r l = r.n.toNat) := by
  have h0 := (saneR_iff r).1 h
  obtain ⟨n1, n4, _⟩ := (saneB_iff _ _).1 h0.1
  have hlen : (l.take r.n.toNat).length = r.n.toNat := by rw [List.length_take]; omega
  have hs := sane_num n1 n4 hlen
  have hp : (prs r).reverse.length = r.n.toNat := by rw [List.length_reverse, prs_len h]
  have hf : fitC r l = fitN (prs r).reverse ((l.take r.n.toNat).map (·.toNat)) := by
    unfold fitC
    rw [if_pos h]
    conv => lhs; rw [← List.take_append_drop r.n.toNat l, List.map_append]
    exact (fitN_more _ _ _).2.2 (by rw [hp, List.length_map, hlen]; exact Nat.le_refl _)
  have hall := fitN_all (prs r).reverse ((l.take r.n.toNat).map (·.toNat)) (by rw [hp, List.length_map, hlen])
  rw [hp] at hall
  rw [hf, Bool.eq_iff_iff, decide_eq_true_eq, hall, inC_by h hs]
  constructor
  · intro hi k q d hq hd
    have hk : k < r.n.toNat := by rw [← hp]; exact (List.getElem?_eq_some_iff.1 hq).1
    rw [prs_rev h hk] at hq
    cases hq
    obtain ⟨x, hx, hb⟩ := byJ_num r.n.toNat (l.take r.n.toNat) (r.n.toNat - 1 - k) hlen (by omega)
    rw [show r.n.toNat - 1 - (r.n.toNat - 1 - k) = k by omega] at hx
    rw [List.getElem?_map, hx] at hd
    cases hd
    have := hi (r.n.toNat - 1 - k) (by omega)
    rw [hb] at this
    simp only
    omega
  · intro hi j hj
    obtain ⟨x, hx, hb⟩ := byJ_num r.n.toNat (l.take r.n.toNat) j hlen hj
    have := hi (r.n.toNat - 1 - j) _ x.toNat (prs_rev h (by omega)) (by rw [List.getElem?_map, hx]; rfl)
    rw [show r.n.toNat - 1 - (r.n.toNat - 1 - j) = j by omega] at this
    have b1 := byJ_bnd r.lo j
    have b2 := byJ_bnd r.hi j
    rw [hb]
    simp only at this
    omega
theorem fit_more (r : Rc) (l m : List UInt8) : fitC r l ≤ fitC r (l ++ m) ∧ (fitC r l ≠ l.length → fitC r (l ++ m) = fitC r l) ∧ (saneR r = true → r.n.toNat ≤ l.length → fitC r (l ++ m) = fitC r l) := by
  unfold fitC
  cases h : saneR r with
  | false => exact ⟨Nat.le_refl _, fun _ => rfl, fun e => by cases e⟩
  | true =>
    rw [if_pos rfl, if_pos rfl, List.map_append]
    have q := fitN_more (prs r).reverse (l.map (·.toNat)) (m.map (·.toNat))
    rw [List.length_map] at q
    exact ⟨q.1, q.2.1, fun _ hl => q.2.2 (by rw [List.length_reverse, prs_len h]; exact hl)⟩
theorem fit_le_n {r : Rc} (h : saneR r = true) (l : List UInt8) : fitC r l ≤ r.n.toNat := by
  unfold fitC
  rw [if_pos h]
  have := (fitN_le (prs r).reverse (l.map (·.toNat))).1
  rwa [List.length_reverse, prs_len h] at this
theorem fit_no {r : Rc} (h : saneR r = false) (l : List UInt8) : fitC r l = 0 := by
  unfold fitC
  rw [if_neg (by rw [h]; decide)]
/-- A slice that came in is no longer than its room. -/
theorem slice_room {H : Type} {enc : TypeId × Value → H} {P : Program} {W : World} {d : DataW H} {p : List MemPlace} {t e : TypeId} {A : Option Addr} {n c : Nat} (ht : P.underlying t = some (.slice e)) (h : DataW.Trod enc P W 0 (fun _ => true) true t (.slice A n c) d p) : n ≤ c := by
  obtain ⟨fuel, hf⟩ := h
  rcases Deep.open_slice ht hf with ⟨hcs, _⟩ | ⟨a, l, c', m, n', D, Pl, hcs, _, hl, _⟩
  · simp [Value.cells] at hcs
    omega
  · simp [Value.cells] at hcs
    omega
theorem own_emptyB (w : World) (B : Nat) (e : TypeId) (hB : B ≤ w.heap.size) : (w.alloc (.cells #[] e)).ownsRow B e 1 (.slice (some ⟨w.heap.size, 0, none⟩) 0 0) ([] : List UInt8).length (bvs []) :=
  ⟨rfl, .inr ⟨w.heap.size, 0, #[], rfl, hB, heap_alloc_new w _, Nat.le_refl _, by unfold maxLen; omega, rfl, rfl⟩⟩
theorem app_bytes {P : Program} {w : World} {ops : Array Oper} {rest : List Oper} {o : Oper} {a : Act} {Q : Exit → Act → World → Prop} (hgd : o.guard = none) (s x : Operand) (t : TypeId)
    (ho : o.op = .call { callee := .builtin .append, args := #[s, x], argTypes := #[t, t] })
    (base : Nat) (e : TypeId) (i : TypeInfo) (ht : P.underlying t = some (.slice e)) (hi : P.info? e = some i) (hz : i.zero = some (.int .u8 0)) (hsize : i.size = 1) (hby : i.bytes = 1)
    (v : Value) (xs : List UInt8) (hs : a.eval s = v) (hown : w.ownsRow base e 1 v xs.length (bvs xs)) (B : Nat) (A : Option Addr) (c : Nat) (l : List UInt8) (hx : a.eval x = .slice A l.length c) (hA : Sl w B A l) (hc : A = none → c = 0)
    (hl : xs.length + l.length ≤ 1048576) (hbase : base ≤ w.heap.size)
    (h : ∀ v' w', w'.ownsRow base e 1 v' (xs ++ l).length (bvs (xs ++ l)) → w.grownBy w' v.ownBlock → wpList P ops Q rest (a.put o.dst v') w') : wpList P ops Q (o :: rest) a w := by
  cases A with
  | none =>
    have hn : l = [] := by
      rcases Nat.eq_zero_or_pos l.length with h0 | h0
      · exact List.eq_nil_of_length_eq_zero h0
      · obtain ⟨b, o, e, _⟩ := hA h0
        cases e
    subst hn
    rw [hc rfl] at hx
    refine wpList_append_own_none hgd s x t ho base e i 1 ht hi v xs.length (bvs xs) hs hown hx ?_
    rw [List.append_nil] at h
    exact h v w hown (World.grownBy.refl w _)
  | some ad =>
    have hcell : ∀ j u, (bvs l)[j]? = some u → w.cell? (ad.add j) = some u := fun j u hu => by
      have hj : 0 < l.length := by
        have := (List.getElem?_eq_some_iff.1 hu).1
        rw [bvs_length] at this
        omega
      obtain ⟨ad', e, hcs⟩ := hA.cells hj
      injection e with e
      subst e
      exact hcs j u hu
    refine wpList_append_own w hgd s x t ho base e i (.int .u8 0) 1 1 ht hi hz hsize hby rfl (by omega) v xs.length (bvs xs) hs hown ad l.length c (bvs l) hx (by rw [bvs_length]; omega) hcell (bvs_one l) (by unfold maxLen; omega) (by omega) hbase fun v' w' h1 h2 _ => ?_
    rw [← bvs_append] at h1
    exact h v' w' (by rw [List.length_append]; exact h1) h2
end Go.Proofs.Ytnojapffmcnbaaa
