/-
  Entries in memory: four cells each, the last of which is a slice that holds the units; slices that hold lists of entries.
-/
import Derived.Test.YtkkochjdimegpaaDestOver
import Derived.Test.YtkkochjdimegpaaInts
import Derived.Laws.StructEq
import Derived.BigQuiet
import Derived.Deep.QuietTactic
import Derived.Lib.Hide
import Derived.Laws.AppendOwnNone
import Derived.Laws.OwnMore
import Derived.Deep.AppendLies
namespace Go.Proofs.Ytkkochjdimegpaa
open Go.RowKit

/-- An entry, and where its units lie. -/
structure Me where
  b : Bp
  a : Option Addr
  c : Nat
def Me.s (m : Me) : Value := .slice m.a m.b.u.length m.c
/-- An entry as cells, as an argument. -/
def fq (m : Me) : List Value := [.int .i64 m.b.n, .int .i64 m.b.lo, .int .i64 m.b.hi, .slice m.a m.b.u.length m.c]
def fv (m : Me) : Value := .agg #[.int .i64 m.b.n, .int .i64 m.b.lo, .int .i64 m.b.hi, .slice m.a m.b.u.length m.c]
def dvs (d : List Me) : List Value := d.flatMap fq
/-- The entries themselves. -/
def pl (d : List Me) : List Bp := d.map Me.b
theorem pl_length (d : List Me) : (pl d).length = d.length := by simp [pl]
theorem pl_append (a b : List Me) : pl (a ++ b) = pl a ++ pl b := by simp [pl]
theorem pl_get {d : List Me} {j : Nat} {m : Me} (h : d[j]? = some m) : (pl d)[j]? = some m.b := by simp [pl, h]
theorem dvs_cons (t : Me) (l : List Me) : dvs (t :: l) = fq t ++ dvs l := by simp [dvs]
theorem dvs_append (a b : List Me) : dvs (a ++ b) = dvs a ++ dvs b := by simp [dvs]
theorem dvs_length : ∀ l : List Me, (dvs l).length = l.length * 4
  | [] => rfl
  | t :: l => by rw [dvs_cons, List.length_append, dvs_length l, List.length_cons]; simp [fq]; omega
theorem dvs_one (l : List Me) : ∀ u ∈ dvs l, u.oneCell' = true := by
  intro u hu
  simp only [dvs, List.mem_flatMap, fq, List.mem_cons, List.not_mem_nil, or_false] at hu
  obtain ⟨t, _, rfl | rfl | rfl | rfl⟩ := hu <;> rfl
theorem dvs_get : ∀ (l : List Me) (j i : Nat) (x : Me), l[j]? = some x → i < 4 → (dvs l)[j * 4 + i]? = (fq x)[i]?
  | [], j, i, x, h, _ => by simp at h
  | t :: l, 0, i, x, h, hi => by
    rw [List.getElem?_cons_zero] at h
    cases h
    rw [dvs_cons, Nat.zero_mul, Nat.zero_add, List.getElem?_append_left (by simpa [fq] using hi)]
  | t :: l, j + 1, i, x, h, hi => by
    rw [List.getElem?_cons_succ] at h
    rw [dvs_cons, List.getElem?_append_right (by simp [fq]; omega), ← dvs_get l j i x h hi]
    congr 1
    simp [fq]
    omega
/-- Units, held by a slice. -/
structure Un (w : World) (a : Option Addr) (c : Nat) (u : List Int) : Prop where
  c0 : u.length ≤ c
  c1 : a = none → c = 0
  si : Si w w.heap.size a u
/-- Units in a block of ints. -/
structure Ut (w : World) (a : Option Addr) (c : Nat) (u : List Int) : Prop where
  un : Un w a c u
  ty : 0 < u.length → ∃ (b o : Nat) (cs : Array Value) (f : Nat × Nat), a = some ⟨b, o, none⟩ ∧ w.heap[b]? = some (Obj.cells cs 3 f)
/-- Blocks of ints stay. -/
structure Ik (w w' : World) : Prop where
  size : w.heap.size ≤ w'.heap.size
  keep : ∀ (b : Nat) cs f, w.heap[b]? = some (Obj.cells cs 3 f) → w'.heap[b]? = some (Obj.cells cs 3 f)
section
variable {w w' w'' : World} {a : Option Addr} {c : Nat} {u : List Int}
theorem Un.over (h : Un w a c u) (hb : Below w.heap.size w w') : Un w' a c u := ⟨h.c0, h.c1, h.si.over hb⟩
theorem Ut.ik (h : Ut w a c u) (k : Ik w w') : Ut w' a c u := by
  refine ⟨⟨h.un.c0, h.un.c1, fun hn => ?_⟩, fun hn => ?_⟩
  · obtain ⟨b, o, e, hb, hc⟩ := h.un.si hn
    obtain ⟨b', o', cs, f, e', hh⟩ := h.ty hn
    rw [e] at e'
    injection e' with e'
    injection e' with e1 e2
    subst e1 e2
    refine ⟨b, o, e, Nat.lt_of_lt_of_le hb k.size, fun j hj => ?_⟩
    exact (World.cell?_of_block (a := ⟨b, o + j, none⟩) (by rw [k.keep b cs f hh, hh])).trans (hc j hj)
  · obtain ⟨b', o', cs, f, e', hh⟩ := h.ty hn
    exact ⟨b', o', cs, f, e', k.keep _ _ _ hh⟩
theorem Ik.refl (w : World) : Ik w w := ⟨Nat.le_refl _, fun _ _ _ h => h⟩
theorem Ik.trans (h : Ik w w') (k : Ik w' w'') : Ik w w'' := ⟨Nat.le_trans h.size k.size, fun b cs f hb => k.keep b cs f (h.keep b cs f hb)⟩
theorem Ik.of_below (h : Below w.heap.size w w') : Ik w w' := ⟨h.size, fun b _ _ hb => (h.block b (Array.getElem?_eq_some_iff.1 hb).1).trans hb⟩
/-- A block of entries. -/
def Tq (w : World) (b : Nat) : Prop := ∃ cs, w.heap[b]? = some (Obj.cells cs 25 (0, 0))
theorem Ik.of_grown {row : Option Nat} (h : w.grownBy w' row) (hr : ∀ g, row = some g → Tq w g) : Ik w w' := ⟨h.size, fun b cs f hb => (h.block b (Array.getElem?_eq_some_iff.1 hb).1 (fun e => by
  obtain ⟨cs', h2⟩ := hr b e.symm
  rw [hb] at h2
  injection h2 with h2
  injection h2 with _ h2
  revert h2
  decide)).trans hb⟩
theorem Ik.of_set {g i : Nat} {v : Value} (hr : Tq w g) : Ik w (w.setCell ⟨g, i, none⟩ v) := ⟨by simp, fun b cs f hb => by
  rw [heap_setCell_other]
  · exact hb
  · show b ≠ g
    rintro rfl
    obtain ⟨cs', h2⟩ := hr
    rw [hb] at h2
    injection h2 with h2
    injection h2 with _ h2
    revert h2
    decide⟩
end
/-- An entry's four cells, at a place. -/
structure F4 (w : World) (b p : Nat) (x : Me) : Prop where
  c0 : w.cell? ⟨b, p, none⟩ = some (.int .i64 x.b.n)
  c1 : w.cell? ⟨b, p + 1, none⟩ = some (.int .i64 x.b.lo)
  c2 : w.cell? ⟨b, p + 2, none⟩ = some (.int .i64 x.b.hi)
  c3 : w.cell? ⟨b, p + 3, none⟩ = some (.slice x.a x.b.u.length x.c)
theorem F4.keep {w w' : World} {b p : Nat} {x : Me} (h : F4 w b p x) (hk : ∀ i, w'.cell? ⟨b, i, none⟩ = w.cell? ⟨b, i, none⟩) : F4 w' b p x := ⟨(hk _).trans h.c0, (hk _).trans h.c1, (hk _).trans h.c2, (hk _).trans h.c3⟩
abbrev Fb (w : World) (b : Nat) (x : Me) : Prop := F4 w b 0 x
theorem Fb.below {w w1 : World} {b B : Nat} {r : Me} (h : Fb w b r) (hb : Below B w w1) (hB : b < B) : Fb w1 b r := F4.keep h fun i => hb.cell (p := ⟨b, i, none⟩) hB
theorem Fb.new (w : World) (r : Me) (t : TypeId) : Fb (w.alloc (.cells #[.int .i64 r.b.n, .int .i64 r.b.lo, .int .i64 r.b.hi, .slice r.a r.b.u.length r.c] t)) w.heap.size r := ⟨by simp, by simp, by simp, by simp⟩
/-- A slice at A holds the entries d, below block B. -/
def Rd (w : World) (B : Nat) (A : Option Addr) (d : List Me) : Prop :=
  0 < d.length → ∃ b o, A = some ⟨b, o, none⟩ ∧ b < B ∧ ∀ j x, d[j]? = some x → F4 w b (o + j * 4) x
/-- A list's units. -/
def Ul (w : World) (d : List Me) : Prop := ∀ m ∈ d, Un w m.a m.c m.b.u
def Utl (w : World) (d : List Me) : Prop := ∀ m ∈ d, Ut w m.a m.c m.b.u
/-- A slice that holds entries, with their units. -/
structure Sd (w : World) (A : Option Addr) (d : List Me) : Prop where
  rd : Rd w w.heap.size A d
  ul : Ul w d
section
variable {w w' : World} {B B' : Nat} {A : Option Addr} {d : List Me}
theorem Rd.keep (h : Rd w B A d) (hk : ∀ p : Addr, p.block < B → w'.cell? p = w.cell? p) : Rd w' B A d := fun hn => by
  obtain ⟨b, o, e, hb, hc⟩ := h hn
  exact ⟨b, o, e, hb, fun j x hx => (hc j x hx).keep fun i => hk ⟨b, i, none⟩ hb⟩
theorem Rd.below (h : Rd w B A d) (hb : Below B w w') : Rd w' B A d := h.keep fun _ hp => hb.cell hp
theorem Rd.more (h : Rd w B A d) (hB : B ≤ B') : Rd w B' A d := fun hn => by
  obtain ⟨b, o, e, hb, hc⟩ := h hn
  exact ⟨b, o, e, by omega, hc⟩
theorem Rd.over (h : Rd w w.heap.size A d) (hb : Below w.heap.size w w') : Rd w' w'.heap.size A d := (h.below hb).more hb.size
theorem Rd.nil : Rd w B A [] := fun h => absurd h (by simp)
theorem Rd.at (h : Rd w B A d) {j : Nat} {x : Me} (hx : d[j]? = some x) : ∃ b o, A = some ⟨b, o, none⟩ ∧ b < B ∧ F4 w b (o + j * 4) x := by
  obtain ⟨b, o, e, hb, hc⟩ := h (by have := (List.getElem?_eq_some_iff.1 hx).1; omega)
  exact ⟨b, o, e, hb, hc j x hx⟩
theorem Rd.of_own {base : Nat} {e : TypeId} {v : Value} {n : Nat} (h : w.ownsRow base e 4 v n (dvs d)) : ∃ c, n = d.length ∧ n ≤ c ∧ ∃ A, v = .slice A d.length c ∧ (A = none → c = 0) ∧ Rd w w.heap.size A d := by
  have hl : n = d.length := by have := h.1; rw [dvs_length] at this; omega
  subst hl
  rcases h.2 with ⟨rfl, h0⟩ | ⟨g, cap, cur, rfl, hb, hg, hc, hm, hs, ht⟩
  · exact ⟨0, rfl, by omega, none, by rw [h0], fun _ => rfl, fun hn => absurd hn (by omega)⟩
  · refine ⟨cap, rfl, hc, some ⟨g, 0, none⟩, rfl, (fun e => by cases e), fun hn => ⟨g, 0, rfl, (Array.getElem?_eq_some_iff.1 hg).1, fun j x hx => ?_⟩⟩
    have key : ∀ i u, i < 4 → (fq x)[i]? = some u → w.cell? ⟨g, 0 + j * 4 + i, none⟩ = some u := fun i u hi hu => by
      have := h.cells (g := g) rfl (j * 4 + i) u ((dvs_get d j i x hx hi).trans hu)
      rwa [addr_add, ← Nat.add_assoc] at this
    exact ⟨key 0 _ (by omega) rfl, key 1 _ (by omega) rfl, key 2 _ (by omega) rfl, key 3 _ (by omega) rfl⟩
theorem Ul.over (h : Ul w d) (hb : Below w.heap.size w w') : Ul w' d := fun m hm => (h m hm).over hb
theorem Utl.ik (h : Utl w d) (hb : Ik w w') : Utl w' d := fun m hm => (h m hm).ik hb
theorem Utl.ul (h : Utl w d) : Ul w d := fun m hm => (h m hm).un
theorem Sd.over (h : Sd w A d) (hb : Below w.heap.size w w') : Sd w' A d := ⟨h.rd.over hb, h.ul.over hb⟩
theorem Sd.nil : Sd w A [] := ⟨Rd.nil, fun _ h => by cases h⟩
end
theorem infoB : (Try.prog.info? 25).map (fun i => (i.zero, i.size, i.bytes)) = some (some (.agg #[.int .i64 0, .int .i64 0, .int .i64 0, .slice none 0 0]), 4, 48) := by kernel_rfl
/-- A code's block. -/
structure Cd (w : World) (b : Nat) (n v : Int) : Prop where
  c0 : w.cell? ⟨b, 0, none⟩ = some (.int .i64 n)
  c1 : w.cell? ⟨b, 1, none⟩ = some (.int .i64 v)
theorem Cd.below {w w1 : World} {b B : Nat} {n v : Int} (h : Cd w b n v) (hb : Below B w w1) (hB : b < B) : Cd w1 b n v :=
  ⟨(hb.cell (p := ⟨b, 0, none⟩) hB).trans h.c0, (hb.cell (p := ⟨b, 1, none⟩) hB).trans h.c1⟩
theorem Cd.new (w : World) (n v : Int) (t : TypeId) : Cd (w.alloc (.cells #[.int .i64 n, .int .i64 v] t)) w.heap.size n v := ⟨by simp, by simp⟩
/-- append(s, l...) of ints. -/
theorem app_ints {P : Program} {w : World} {ops : Array Oper} {rest : List Oper} {o : Oper} {a : Act} {Q : Exit → Act → World → Prop} (hgd : o.guard = none) (s x : Operand) (t : TypeId)
    (ho : o.op = .call { callee := .builtin .append, args := #[s, x], argTypes := #[t, t] })
    (base : Nat) (e : TypeId) (i : TypeInfo) (ht : P.underlying t = some (.slice e)) (hi : P.info? e = some i) (hz : i.zero = some (.int .i64 0)) (hsize : i.size = 1) (hby : i.bytes = 8)
    (v : Value) (xs : List Int) (hs : a.eval s = v) (hown : w.ownsRow base e 1 v xs.length (ivs xs)) (B : Nat) (A : Option Addr) (n c : Nat) (l : List Int) (hn : n = l.length) (hx : a.eval x = .slice A n c) (hA : Si w B A l) (hc : A = none → c = 0)
    (hl : xs.length + l.length ≤ 1048576) (hbase : base ≤ w.heap.size)
    (h : ∀ v' w', w'.ownsRow base e 1 v' (xs ++ l).length (ivs (xs ++ l)) → w.grownBy w' v.ownBlock → wpList P ops Q rest (a.put o.dst v') w') : wpList P ops Q (o :: rest) a w := by
  subst hn
  cases A with
  | none =>
    have hn : l = [] := by
      rcases Nat.eq_zero_or_pos l.length with h0 | h0
      · exact List.eq_nil_of_length_eq_zero h0
      · obtain ⟨b, o, e, _⟩ := hA h0
        cases e
    subst hn
    rw [hc rfl] at hx
    refine wpList_append_own_none hgd s x t ho base e i 1 ht hi v xs.length (ivs xs) hs hown hx ?_
    rw [List.append_nil] at h
    exact h v w hown (World.grownBy.refl w _)
  | some ad =>
    have hcell : ∀ j u, (ivs l)[j]? = some u → w.cell? (ad.add j) = some u := fun j u hu => by
      have hj : j < l.length := by
        rcases Nat.lt_or_ge j l.length with h | h
        · exact h
        · rw [List.getElem?_eq_none (by rw [ivs_length]; exact h)] at hu; cases hu
      obtain ⟨ad', e, hcs⟩ := hA.cells (by omega)
      injection e with e
      subst e
      exact hcs j u hu
    refine wpList_append_own w hgd s x t ho base e i (.int .i64 0) 1 8 ht hi hz hsize hby rfl (by omega) v xs.length (ivs xs) hs hown ad l.length c (ivs l) hx (by rw [ivs_length]; omega) hcell (ivs_one l) (by unfold maxLen; omega) (by omega) hbase fun v' w' h1 h2 _ => ?_
    rw [← ivs_append] at h1
    exact h v' w' (by rw [List.length_append]; exact h1) h2
theorem own_emptyI (w : World) (B : Nat) (e : TypeId) (hB : B ≤ w.heap.size) : (w.alloc (.cells #[] e)).ownsRow B e 1 (.slice (some ⟨w.heap.size, 0, none⟩) 0 0) ([] : List Int).length (ivs []) :=
  ⟨rfl, .inr ⟨w.heap.size, 0, #[], rfl, hB, heap_alloc_new w _, Nat.le_refl _, by unfold maxLen; omega, rfl, rfl⟩⟩
theorem own_belowD {w w' : World} {base n b size : Nat} {e : TypeId} {v : Value} {xs : List Value} (h : w.ownsRow base e size v n xs) (hb : Below b w w') (hB : w.heap.size ≤ b) : w'.ownsRow base e size v n xs := by
  refine ⟨h.1, ?_⟩
  rcases h.2 with hn | ⟨g, cap, cur, rfl, h1, hg, rest⟩
  · exact .inl hn
  · refine .inr ⟨g, cap, cur, rfl, h1, ?_, rest⟩
    have hlt := (Array.getElem?_eq_some_iff.1 hg).1
    rw [hb.block g (by omega)]
    exact hg
theorem own_lowD {w : World} {base base' n size : Nat} {e : TypeId} {v : Value} {xs : List Value} (h : w.ownsRow base e size v n xs) (hb : base' ≤ base) : w.ownsRow base' e size v n xs := by
  refine ⟨h.1, ?_⟩
  rcases h.2 with hn | ⟨g, cap, cur, e, h1, rest⟩
  · exact .inl hn
  · exact .inr ⟨g, cap, cur, e, by omega, rest⟩
theorem own_ltD {w : World} {base : Nat} {e : TypeId} {v : Value} {n g size : Nat} {xs : List Value} (h : w.ownsRow base e size v n xs) (hg : v.ownBlock = some g) : base ≤ g ∧ g < w.heap.size := by
  rcases h.2 with ⟨rfl, _⟩ | ⟨g', cap, cur, rfl, h1, hg', _⟩
  · cases hg
  · have e2 : g' = g := by simpa [Value.ownBlock] using hg
    subst e2
    exact ⟨h1, (Array.getElem?_eq_some_iff.1 hg').1⟩
/-- A row of one's own holds units. -/
theorem Ut.of_own {w : World} {base n : Nat} {v : Value} {u : List Int} (h : w.ownsRow base 3 1 v n (ivs u)) : ∃ A c, v = .slice A u.length c ∧ Ut w A c u ∧ n = u.length := by
  obtain ⟨c, hn, ⟨hc, _⟩, A, rfl, hsi⟩ := Si.of_own h
  subst hn
  refine ⟨A, c, rfl, ⟨⟨hc, fun e => ?_, hsi⟩, fun hn => ?_⟩, rfl⟩
  · rcases h.2 with ⟨h1, _⟩ | ⟨g, cap, cur, h1, _⟩
    · injection h1
    · injection h1 with h1; rw [h1] at e; cases e
  · rcases h.2 with ⟨h1, h0⟩ | ⟨g, cap, cur, h1, h2, h3, _⟩
    · omega
    · injection h1 with h1
      exact ⟨g, 0, cur, (0, 0), h1, h3⟩
end Go.Proofs.Ytkkochjdimegpaa
