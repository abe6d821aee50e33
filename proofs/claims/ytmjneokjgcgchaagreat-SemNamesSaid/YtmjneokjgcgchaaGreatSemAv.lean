/-
  append at a slice that is one's own, or full.
-/
import Derived.WalkKit
import Derived.Maps.AppendAt
import Derived.ArgAppend
import Derived.Deep.Upon
import Derived.Deep.AppendLies
namespace Go.Proofs.YtmjneokjgcgchaaGreat
open Go.RowKit

/-- A slice that may be appended to: a row of one's own (in block o), or one that is full and lies below. -/
def Av (w : World) (base : Nat) (e : TypeId) (size : Nat) (A : Option Addr) (n c : Nat) (xs : List Value) (o : Option Nat) : Prop :=
  (o = (Value.slice A n c).ownBlock ∧ w.ownsRow base e size (.slice A n c) n xs) ∨
  (o = none ∧ c = n ∧ xs.length = n * size ∧ (0 < n → ∃ b p, A = some ⟨b, p, none⟩ ∧ b < base ∧ ∀ j u, xs[j]? = some u → w.cell? ⟨b, p + j, none⟩ = some u))
/-- What an append leaves: old blocks but the own one. -/
structure Ag (w w' : World) (base : Nat) (o o' : Option Nat) : Prop where
  below : Below base w w'
  block : ∀ k, k < w.heap.size → o ≠ some k → w'.heap[k]? = w.heap[k]?
  own : ∀ k, o' = some k → o = some k ∨ w.heap.size ≤ k
theorem addr_plus (b p j : Nat) : (⟨b, p, none⟩ : Addr).add j = ⟨b, p + j, none⟩ := by unfold Addr.add; split <;> simp_all
section
variable {w w' : World} {base n c size : Nat} {e : TypeId} {A : Option Addr} {xs : List Value} {o : Option Nat}
theorem Av.len (h : Av w base e size A n c xs o) : xs.length = n * size := by
  rcases h with ⟨_, h⟩ | ⟨_, _, h, _⟩
  · exact h.1
  · exact h
theorem Av.cap (h : Av w base e size A n c xs o) : n ≤ c := by
  rcases h with ⟨_, h⟩ | ⟨_, h, _⟩
  · rcases h.2 with ⟨h, h0⟩ | ⟨g, cap, cur, h, _, _, h4, _⟩
    · omega
    · injection h with _ _ h
      omega
  · omega
theorem Av.bs (h : Av w base e size A n c xs o) : ∀ g, o = some g → base ≤ g ∧ g < w.heap.size := by
  intro g hg
  rcases h with ⟨e1, h⟩ | ⟨e1, _⟩
  · rw [e1] at hg
    exact h.lt g hg
  · rw [e1] at hg; cases hg
theorem Av.typ (h : Av w base e size A n c xs o) : ∀ g, o = some g → ∃ cur, w.heap[g]? = some (Obj.cells cur e (0, 0)) := by
  intro g hg
  rcases h with ⟨e1, h⟩ | ⟨e1, _⟩
  · rw [e1] at hg
    rcases h.2 with ⟨h, _⟩ | ⟨g', cap, cur, h, _, h3, _⟩
    · rw [h] at hg; cases hg
    · rw [h] at hg
      have : g' = g := by simpa [Value.ownBlock] using hg
      subst this
      exact ⟨cur, h3⟩
  · rw [e1] at hg; cases hg
theorem Av.keep (h : Av w base e size A n c xs o) (hb : ∀ k, k < base → w'.heap[k]? = w.heap[k]?) (ho : ∀ g, o = some g → w'.heap[g]? = w.heap[g]?) : Av w' base e size A n c xs o := by
  rcases h with ⟨e1, h⟩ | ⟨e1, e2, e3, h⟩
  · refine .inl ⟨e1, h.1, ?_⟩
    rcases h.2 with h | ⟨g, cap, cur, h1, h2, h3, h4⟩
    · exact .inl h
    · exact .inr ⟨g, cap, cur, h1, h2, by rw [ho g (by rw [e1, h1]; rfl)]; exact h3, h4⟩
  · refine .inr ⟨e1, e2, e3, fun hn => ?_⟩
    obtain ⟨b, p, q1, q2, q3⟩ := h hn
    exact ⟨b, p, q1, q2, fun j u hu => (World.cell?_of_block (a := ⟨b, p + j, none⟩) (hb b q2)).trans (q3 j u hu)⟩
/-- Its cells; they lie in no block of another type, if this one is not below. -/
theorem Av.cells (h : Av w base e size A n c xs o) (hB : base ≤ w.heap.size) (hn : 0 < n) : ∃ b p, A = some ⟨b, p, none⟩ ∧ b < w.heap.size ∧ (∀ j u, xs[j]? = some u → w.cell? ⟨b, p + j, none⟩ = some u) ∧ ∀ (T : Nat) (cs : Array Value) (t : TypeId) (f : Nat × Nat), w.heap[T]? = some (Obj.cells cs t f) → base ≤ T → t ≠ e → b ≠ T := by
  rcases h with ⟨_, h⟩ | ⟨_, _, _, h⟩
  · rcases h.2 with ⟨_, h0⟩ | ⟨g, cap, cur, h1, h2, h3, _⟩
    · omega
    · injection h1 with h1 _ _
      subst h1
      refine ⟨g, 0, rfl, (Array.getElem?_eq_some_iff.1 h3).1, fun j u hu => ?_, fun T cs t f hT _ hne hgT => ?_⟩
      · have := h.cells (g := g) rfl j u hu
        rwa [addr_plus] at this
      · subst hgT
        rw [h3] at hT
        injection hT with hT
        injection hT with _ hT _
        exact hne hT.symm
  · obtain ⟨b, p, q1, q2, q3⟩ := h hn
    exact ⟨b, p, q1, by omega, q3, fun T _ _ _ _ hT _ => by omega⟩
theorem Av.nil : Av w base e size none 0 0 [] none := .inl ⟨rfl, World.ownsRow_nil _ _ _ _⟩
end
theorem src_of {P : Program} {w : World} {size m c : Nat} {tx e' : TypeId} (hk : P.underlying tx = some (.slice e')) {A : Option Addr} {news : List Value} (hl : news.length = m * size) (hnil : A = none → m = 0) (hnews : 0 < m → ∃ ad, A = some ad ∧ ∀ j u, news[j]? = some u → w.cell? (ad.add j) = some u) (hm : m = 0) : Src P size tx (.slice A m c) m news w := by
  subst hm
  obtain rfl : news = [] := List.eq_nil_of_length_eq_zero (by omega)
  cases A with
  | none => exact Src.ofNil w hk c
  | some ad => exact Src.ofSlice w hk ad 0 c [] (by simp) (fun j u h => by simp at h) (fun u h => by cases h)
/-- append(s, l...), whatever s is. -/
theorem run_av {P : Program} (w : World) (t ty : TypeId) (base : Nat) (e : TypeId) (i : TypeInfo) (z : Value) (size bytes : Nat) (ht : P.underlying t = some (.slice e)) (hi : P.info? e = some i) (hz : i.zero = some z)
    (hsize : i.size = size) (hby : i.bytes = bytes) (hzs : z.cells.size = size) (hsz : 0 < size)
    (A0 : Option Addr) (n c0 : Nat) (xs : List Value) (o : Option Nat) (h : Av w base e size A0 n c0 xs o)
    (A : Option Addr) (m c : Nat) (news : List Value) (hl : news.length = m * size) (hnews : 0 < m → ∃ ad, A = some ad ∧ ∀ j u, news[j]? = some u → w.cell? (ad.add j) = some u) (h1 : ∀ u ∈ news, u.oneCell' = true) (hnil : A = none → m = 0)
    (h63 : n + m ≤ maxLen) (hbytes : (n + m) * bytes ≤ 140737488355328) (hbase : base ≤ w.heap.size) :
    ∃ A' c' w' o', (Builtin.append_ #[t, t] ty #[.slice A0 n c0, .slice A m c]).run P w = .ok (.slice A' (n + m) c') w' ∧ Av w' base e size A' (n + m) c' (xs ++ news) o' ∧ Ag w w' base o o' := by
  rcases Nat.eq_zero_or_pos m with h0 | h0
  · have hs := src_of (P := P) (w := w) (c := c) ht hl hnil hnews h0
    subst h0
    obtain rfl : news = [] := List.eq_nil_of_length_eq_zero (by omega)
    have hr := run_append_nothing (P := P) w t t ty e i ht hi A0 n c0 h.cap (.slice A 0 c) (by rw [hsize]; exact hs)
    exact ⟨A0, c0, w, o, hr, by rw [List.append_nil]; exact h, Below.refl _ _, fun _ _ _ => rfl, fun _ hk => .inl hk⟩
  · obtain ⟨ad, rfl, hcell⟩ := hnews h0
    have own : ∀ (hown : w.ownsRow base e size (.slice A0 n c0) n xs) (ho : o = (Value.slice A0 n c0).ownBlock), ∃ A' c' w' o', (Builtin.append_ #[t, t] ty #[.slice A0 n c0, .slice (some ad) m c]).run P w = .ok (.slice A' (n + m) c') w' ∧ Av w' base e size A' (n + m) c' (xs ++ news) o' ∧ Ag w w' base o o' := by
      intro hown ho
      obtain ⟨v', w', hr, h2, h3, _, h5⟩ := run_append_own_at (P := P) w base t ty e i z size bytes ht hi hz hsize hby hzs hsz (.slice A0 n c0) n xs hown ad m c news hl hcell h1 h63 hbytes hbase
      obtain ⟨g, cap, rfl, _, hlt⟩ := h2.form (by omega)
      refine ⟨some ⟨g, 0, none⟩, cap, w', some g, hr, .inl ⟨rfl, h2⟩, (Below.refl base w).grown h3 hbase (fun k hk => (hown.lt k hk).1), fun k hk hne => h3.block k hk (by rw [← ho]; exact fun e => hne e.symm), fun k hk => ?_⟩
      injection hk with hk
      subst hk
      rcases h5 with h5 | h5
      · left; rw [ho, ← h5]; rfl
      · right
        have : g = w.heap.size := by simpa [Value.ownBlock] using h5
        omega
    rcases h with ⟨ho, hown⟩ | ⟨ho, hc, hxl, hfull⟩
    · exact own hown ho
    · cases A0 with
      | none =>
        have hn : n = 0 := by
          rcases Nat.eq_zero_or_pos n with h | h
          · exact h
          · obtain ⟨b, p, q, _⟩ := hfull h
            cases q
        subst hc
        subst hn
        obtain rfl : xs = [] := List.eq_nil_of_length_eq_zero (by omega)
        exact own (World.ownsRow_nil _ _ _ _) ho
      | some b0 =>
        have holds : ∀ j u, xs[j]? = some u → w.cell? (b0.add j) = some u := by
          intro j u hu
          have hj := (List.getElem?_eq_some_iff.1 hu).1
          have hn : 0 < n := by
            rcases Nat.eq_zero_or_pos n with h | h
            · subst h; omega
            · exact h
          obtain ⟨b, p, q1, q2, q3⟩ := hfull hn
          injection q1 with q1
          subst q1
          rw [addr_plus]
          exact q3 j u hu
        obtain ⟨v', w', hr, h2, h3⟩ := run_append_arg_grows (P := P) w t ty e i z size bytes ht hi hz hsize hby hzs hsz b0 n c0 xs hxl holds ad m c news hl hcell (by omega) h63 hbytes
        obtain ⟨g, cap, rfl, hge, hlt⟩ := h2.form (by omega)
        refine ⟨some ⟨g, 0, none⟩, cap, w', some g, hr, .inl ⟨rfl, h2.1, ?_⟩, (Below.refl base w).grown h3 hbase (fun k hk => by cases hk), fun k hk _ => h3.block k hk (by simp), fun k hk => ?_⟩
        · rcases h2.2 with h | ⟨g', cap', cur, q1, q2, q3⟩
          · exact .inl h
          · exact .inr ⟨g', cap', cur, q1, by omega, q3⟩
        · injection hk with hk
          omega
/-- At the operation, in a region that draws its order. -/
theorem step_av {P : Program} {w : World} {ops : Array Oper} {o : Oper} {a : Act} {K : Act → World → Prop} {Q : Exit → Act → World → Prop} {E : Prop} (hgd : o.guard = none) (s x : Operand) (t : TypeId)
    (ho : o.op = .call { callee := .builtin .append, args := #[s, x], argTypes := #[t, t] })
    (sv xv : Value) (hs : a.eval s = sv) (hx : a.eval x = xv) (v' : Value) (w' : World) (hrun : (Builtin.append_ #[t, t] o.type #[sv, xv]).run P w = .ok v' w')
    (h : K (a.put o.dst v') w') : if Region.wanted o (yielded ops a.tmps) = true then Oper.wp P o a w K Q else E := by
  have hw : Region.wanted o (yielded ops a.tmps) = true := by simp [Region.wanted, hgd]
  rw [if_pos hw]
  unfold Oper.wp execOp
  simp only [ho, resolve, invoke, builtin, Sem.run_bind, Sem.run_pure, Result.andThen_ok, List.map_toArray, List.map_cons, List.map_nil, hs, hx, hrun]
  exact h
end Go.Proofs.YtmjneokjgcgchaaGreat
