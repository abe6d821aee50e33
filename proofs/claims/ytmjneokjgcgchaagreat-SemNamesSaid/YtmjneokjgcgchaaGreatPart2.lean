/-
  Parts of this proof, one behind the other: RectStep, View, RectApp, SpanPure, SpanOver, Ints, SpanMem, SpanPro1, SpanPro3, SpanAdd, SpanKp, SpanLeft, SpanAhd, SpanOv, SpanOvl, SpanApp, SpanSame, SpanPro2.
-/
import Derived.Test.YtmjneokjgcgchaaGreatPart1
import Derived.ProofKit
import Derived.OpenShut
import Derived.Lib.SmallJoins
import Derived.Carry
import Derived.Laws.AppendOwnNone
import Derived.Deep.Slices
import Derived.Laws.StructEq
import Derived.BigQuiet
import Derived.Deep.QuietTactic
import Derived.Lib.Hide
import Derived.Deep.RegionHeld
import Derived.Deep.DrawnRows
import Derived.Deep.RegionWith
import Derived.Deep.AppendLies
import Derived.Laws.OwnMore
import Derived.RangeFuncNested
import Derived.RangeFuncBound
import Derived.RangeFuncCalls
import Derived.RangeFuncLeaves
import Derived.Shelf.Abstract
import Derived.Shelf.RegionOpen
import Derived.WalkKit
import Derived.OwnWalkIn
import Derived.TacticsInMore
import Derived.LoopNIn
import Derived.LoopIn
import Derived.Handy
import Derived.OneCell
import Derived.Laws.MakeOwn
/-
  What is known of blocks, over one new block and a call.
-/
namespace Go.Proofs.YtmjneokjgcgchaaGreat
open Go.RowKit

section
variable {w w1 : World} {O : Obj} {b : Nat}
theorem Bx.step {r : Rc} (h : Bx w b r) (hl : b < w.heap.size) (hb : Below (w.alloc O).heap.size (w.alloc O) w1) : Bx w1 b r :=
  (h.below ((Below.refl w.heap.size w).alloc (Nat.le_refl _) O) hl).below hb (by simp; omega)
theorem Bc2.step {n v : Int} (h : Bc2 w b n v) (hl : b < w.heap.size) (hb : Below (w.alloc O).heap.size (w.alloc O) w1) : Bc2 w1 b n v :=
  (h.below ((Below.refl w.heap.size w).alloc (Nat.le_refl _) O) hl).below hb (by simp; omega)
theorem Bc2.new (w : World) {n v : Int} {t : TypeId} (hb : Below (w.alloc (.cells #[.int .i64 n, .int .i64 v] t)).heap.size (w.alloc (.cells #[.int .i64 n, .int .i64 v] t)) w1) : Bc2 w1 w.heap.size n v :=
  (Bc2.mk (by simp) (by simp)).below hb (by simp)
theorem below_step {w0 : World} {B : Nat} (h : Below B w0 w) (hB : B ≤ w.heap.size) (hb : Below (w.alloc O).heap.size (w.alloc O) w1) : Below B w0 w1 :=
  (h.alloc hB O).trans (hb.mono (by simp; omega))
theorem size_step (hb : Below (w.alloc O).heap.size (w.alloc O) w1) : w.heap.size < w1.heap.size := by have := hb.size; simp at this; omega
end
end Go.Proofs.YtmjneokjgcgchaaGreat
/-
  What came in, as a walk wants it: a text, bytes, a number, a code.
-/
namespace Go.Proofs.YtmjneokjgcgchaaGreat
open Go.ChangeShapes Go.WideShapes Go.ChangeAt Go.RowKit Go.Joins
open Go.ChangeMaps (open_string)

section
variable {H : Type} {enc : TypeId × Value → H} {P : Program} {W : World} {base : Nat} {v : Value} {d : DataW H} {p : List MemPlace}
theorem view_string {t : TypeId} (ht : P.underlying t = some .string) (hv : Value.okWide P W .any base t v) (h : DataW.Trod enc P W 0 (fun _ => true) true t v d p) :
    ∃ l : List UInt8, v = .string (str l) ∧ l.length ≤ maxLen := by
  obtain ⟨s, rfl, _, _, hm⟩ := open_string ht hv h
  obtain ⟨l, rfl⟩ := str_of s
  exact ⟨l, rfl, by rwa [str_size] at hm⟩
theorem view_int {t : TypeId} (ht : P.underlying t = some (.int .i64)) (hv : Value.okWide P W .any base t v) (h : DataW.Trod enc P W 0 (fun _ => true) true t v d p) :
    ∃ n : Int, v = .int .i64 n ∧ -9223372036854775808 ≤ n ∧ n ≤ 9223372036854775807 := by
  obtain ⟨n, rfl, _, _, hw⟩ := open_int ht hv h
  refine ⟨n, rfl, ?_⟩
  exact bounds_i64 hw
theorem view_code {t ti : TypeId} {f0 f1 : Field} (ht : P.underlying t = some (.struct #[f0, f1])) (hone : Deep.oneCellFields P #[f0, f1] = true) (hC : P.cellsOf t = 2) (e0 : f0.type = ti) (e1 : f1.type = ti)
    (hi : P.underlying ti = some (.int .i64)) (hv : Value.okWide P W .any base t v) (h : DataW.Trod enc P W 0 (fun _ => true) true t v d p) :
    ∃ n m : Int, v = .agg #[.int .i64 n, .int .i64 m] ∧ (-9223372036854775808 ≤ n ∧ n ≤ 9223372036854775807) ∧ (-9223372036854775808 ≤ m ∧ m ≤ 9223372036854775807) := by
  obtain ⟨c0, c1, y0, y1, k, rfl, rfl, rfl, hy0, hy1⟩ := open_agg2 ht hone hC hv h
  rw [e0] at hy0
  rw [e1] at hy1
  obtain ⟨a, x0, rfl, wa⟩ := DataW.trod_int hi hy0
  obtain ⟨b, x1, rfl, wb⟩ := DataW.trod_int hi hy1
  simp at x0 x1
  subst x0 x1
  exact ⟨a, b, rfl, bounds_i64 wa, bounds_i64 wb⟩
theorem view_bytes {t e : TypeId} (ht : P.underlying t = some (.slice e)) (he : P.underlying e = some (.int .u8)) (hc : P.cellsOf e = 1) (hv : Value.okWide P W .any base t v) (h : DataW.Trod enc P W 0 (fun _ => true) true t v d p) :
    ∃ A l c, v = .slice A l.length c ∧ l.length ≤ maxLen ∧ Sl W W.heap.size A l := by
  obtain ⟨A, len, cap, rfl⟩ := okWide_slice ht hv
  obtain ⟨fuel, hf⟩ := h
  rcases open_ints ht he hc hf with ⟨hcs, _⟩ | ⟨x, l, c, zs, hcs, _, hl, hm, hz, _, hcell, hwz⟩
  · simp [Value.cells] at hcs
    obtain ⟨rfl, rfl, rfl⟩ := hcs
    exact ⟨none, [], 0, rfl, by simp [maxLen], Sl.nil⟩
  · simp [Value.cells] at hcs
    obtain ⟨rfl, rfl, rfl⟩ := hcs
    have hz' : zs.length = cap := by simpa using hz
    have hlen : ((zs.take len).map fun z => UInt8.ofNat z.toNat).length = len := by simp; omega
    refine ⟨some x, (zs.take len).map fun z => UInt8.ofNat z.toNat, cap, by rw [hlen], by rw [hlen]; omega, fun hn => ?_⟩
    rw [hlen] at hn
    obtain ⟨b, off, spot⟩ := x
    have hc0 := hcell 0 (by omega)
    have hspot : spot = none := by simpa [Addr.add] using World.cell?_spot hc0
    subst hspot
    refine ⟨b, off, rfl, World.block_lt_of_cell? W _ (by simpa [Addr.add] using hc0 : W.cell? ⟨b, off, none⟩ = _), fun j hj => ?_⟩
    rw [hlen] at hj
    have hcj := hcell j (by omega)
    rw [addr_add] at hcj
    rw [hcj]
    have hzj : zs[j]? = some (zs.getD j 0) := by rw [List.getD_eq_getElem?_getD, List.getElem?_eq_getElem (by omega : j < zs.length)]; rfl
    have hw := bounds_u8 (hwz (zs.getD j 0) (List.mem_of_getElem? hzj))
    have hget : ((zs.take len).map fun z => UInt8.ofNat z.toNat)[j]? = some (UInt8.ofNat (zs.getD j 0).toNat) := by
      rw [List.getElem?_map, List.getElem?_take, if_pos hj, hzj]; rfl
    rw [hget]
    have h2 : (zs.getD j 0).toNat < 256 := by omega
    simp only [Option.getD_some, UInt8.toNat_ofNat_of_lt' h2]
    congr 2
    omega
end
end Go.Proofs.YtmjneokjgcgchaaGreat
/-
  append(dst, l...) of codespaces; a nil slice has no room.
-/
namespace Go.Proofs.YtmjneokjgcgchaaGreat
open Go.RowKit

theorem own_emptyR (w : World) (B : Nat) (e : TypeId) (hB : B ≤ w.heap.size) : (w.alloc (.cells #[] e)).ownsRow B e 3 (.slice (some ⟨w.heap.size, 0, none⟩) 0 0) ([] : List Rc).length (rvs []) :=
  ⟨rfl, .inr ⟨w.heap.size, 0, #[], rfl, hB, heap_alloc_new w _, Nat.le_refl _, by unfold maxLen; omega, rfl, rfl⟩⟩
theorem Sr.cells {w : World} {B : Nat} {A : Option Addr} {l : List Rc} (h : Sr w B A l) (hn : 0 < l.length) : ∃ ad, A = some ad ∧ ∀ j u, (rvs l)[j]? = some u → w.cell? (ad.add j) = some u := by
  obtain ⟨b, o, e, _, hc⟩ := h hn
  refine ⟨_, e, fun j u hu => ?_⟩
  have hj : j < l.length * 3 := by
    rw [← rvs_length]
    exact (List.getElem?_eq_some_iff.1 hu).1
  have hx := List.getElem?_eq_getElem (l := l) (i := j / 3) (by omega)
  have h3 := rvs_get l (j / 3) (j % 3) _ hx (Nat.mod_lt _ (by decide))
  rw [show j / 3 * 3 + j % 3 = j by omega, hu] at h3
  obtain ⟨c0, c1, c2⟩ := hc _ _ hx
  rw [addr_add]
  rcases (show j % 3 = 0 ∨ j % 3 = 1 ∨ j % 3 = 2 by omega) with e3 | e3 | e3
  · rw [e3] at h3
    rw [show o + j = o + j / 3 * 3 by omega, c0, h3]
    rfl
  · rw [e3] at h3
    rw [show o + j = o + j / 3 * 3 + 1 by omega, c1, h3]
    rfl
  · rw [e3] at h3
    rw [show o + j = o + j / 3 * 3 + 2 by omega, c2, h3]
    rfl
theorem app_rects {P : Program} {w : World} {ops : Array Oper} {rest : List Oper} {o : Oper} {a : Act} {Q : Exit → Act → World → Prop} (hgd : o.guard = none) (s x : Operand) (t : TypeId)
    (ho : o.op = .call { callee := .builtin .append, args := #[s, x], argTypes := #[t, t] })
    (base : Nat) (e : TypeId) (i : TypeInfo) (ht : P.underlying t = some (.slice e)) (hi : P.info? e = some i) (hz : i.zero = some (.agg #[.int .i64 0, .int .i64 0, .int .i64 0])) (hsize : i.size = 3) (hby : i.bytes = 24)
    (v : Value) (xs : List Rc) (hs : a.eval s = v) (hown : w.ownsRow base e 3 v xs.length (rvs xs)) (B : Nat) (A : Option Addr) (c : Nat) (l : List Rc) (hx : a.eval x = .slice A l.length c) (hA : Sr w B A l) (hc : A = none → c = 0)
    (hl : xs.length + l.length ≤ 1048576) (hbase : base ≤ w.heap.size)
    (h : ∀ v' w', w'.ownsRow base e 3 v' (xs ++ l).length (rvs (xs ++ l)) → w.grownBy w' v.ownBlock → wpList P ops Q rest (a.put o.dst v') w') : wpList P ops Q (o :: rest) a w := by
  cases A with
  | none =>
    have hn : l = [] := by
      rcases Nat.eq_zero_or_pos l.length with h0 | h0
      · exact List.eq_nil_of_length_eq_zero h0
      · obtain ⟨b, o, e, _⟩ := hA h0
        cases e
    subst hn
    rw [hc rfl] at hx
    refine wpList_append_own_none hgd s x t ho base e i 3 ht hi v xs.length (rvs xs) hs hown hx ?_
    rw [List.append_nil] at h
    exact h v w hown (World.grownBy.refl w _)
  | some ad =>
    have hcell : ∀ j u, (rvs l)[j]? = some u → w.cell? (ad.add j) = some u := fun j u hu => by
      have hj : 0 < l.length := by
        have := (List.getElem?_eq_some_iff.1 hu).1
        rw [rvs_length] at this
        omega
      obtain ⟨ad', e, hcs⟩ := hA.cells hj
      injection e with e
      subst e
      exact hcs j u hu
    refine wpList_append_own w hgd s x t ho base e i (.agg #[.int .i64 0, .int .i64 0, .int .i64 0]) 3 24 ht hi hz hsize hby rfl (by omega) v xs.length (rvs xs) hs hown ad l.length c (rvs l) hx (rvs_length l) hcell (rvs_one l) (by unfold maxLen; omega) (by omega) hbase fun v' w' h1 h2 _ => ?_
    rw [← rvs_append] at h1
    exact h v' w' (by rw [List.length_append]; exact h1) h2
/-- A nil slice that came in has no room. -/
theorem nil_room {H : Type} {enc : TypeId × Value → H} {P : Program} {W : World} {d : DataW H} {p : List MemPlace} {t e : TypeId} {A : Option Addr} {n c : Nat} (ht : P.underlying t = some (.slice e)) (h : DataW.Trod enc P W 0 (fun _ => true) true t (.slice A n c) d p) : A = none → c = 0 := by
  intro hA
  obtain ⟨fuel, hf⟩ := h
  rcases Deep.open_slice ht hf with ⟨hcs, _⟩ | ⟨a, l, c', m, n', D, Pl, hcs, _⟩
  · simp [Value.cells] at hcs
    exact hcs.2.2
  · simp [Value.cells] at hcs
    rw [hA] at hcs
    cases hcs.1
end Go.Proofs.YtmjneokjgcgchaaGreat
/-
  Layer 7 as plain lists: what a span tells, what the last of some tells, tables; two tables that tell the same are one.
-/
namespace Go.Proofs.YtmjneokjgcgchaaGreat

/-- A span. -/
structure Sp where
  n : Int
  lo : Int
  hi : Int
  to : Int
deriving DecidableEq

def goesS (st : Bool) (s : Sp) (v : Int) : Int := if st = true then s.to + v - s.lo else s.to
def Sn (st : Bool) (s : Sp) : Prop := saneB s.n s.lo = true ∧ saneB s.n s.hi = true ∧ s.lo ≤ s.hi ∧ 0 ≤ s.to ∧ s.to ≤ 65535 ∧ goesS st s s.hi ≤ 65535
instance (st : Bool) (s : Sp) : Decidable (Sn st s) := inferInstanceAs (Decidable (_ ∧ _))
def toS (st : Bool) (s : Sp) (n v : Int) : Option Int := if Sn st s ∧ n = s.n ∧ s.lo ≤ v ∧ v ≤ s.hi then some (goesS st s v) else none
def lastS (st : Bool) : List Sp → Int → Int → Option Int
  | [], _, _ => none
  | s :: l, n, v => (lastS st l n v).or (toS st s n v)
def ahS (a b : Sp) : Prop := a.n < b.n ∨ (a.n = b.n ∧ a.hi < b.lo)
instance (a b : Sp) : Decidable (ahS a b) := inferInstanceAs (Decidable (_ ∨ _))
def jnS (st : Bool) (a b : Sp) : Prop := a.n = b.n ∧ b.lo = a.hi + 1 ∧ b.to = goesS st a b.lo
instance (st : Bool) (a b : Sp) : Decidable (jnS st a b) := inferInstanceAs (Decidable (_ ∧ _))
def Rq (st : Bool) (a b : Sp) : Prop := ahS a b ∧ ¬ jnS st a b
/-- A table. -/
def Cn (st : Bool) (l : List Sp) : Prop := (∀ s ∈ l, Sn st s) ∧ l.Pairwise (Rq st)

theorem saneB_mid {n a b v : Int} (ha : saneB n a = true) (hb : saneB n b = true) (h1 : a ≤ v) (h2 : v ≤ b) : saneB n v = true := by
  rw [saneB_iff] at *
  obtain ⟨a1, a2, a3, a4⟩ := ha
  obtain ⟨b1, b2, b3, b4⟩ := hb
  exact ⟨a1, a2, by omega, by omega⟩
theorem saneB_top {n v : Int} (h : saneB n v = true) : 0 ≤ v ∧ v < 4294967296 ∧ 1 ≤ n ∧ n ≤ 4 := by
  obtain ⟨h1, h2, h3, h4⟩ := (saneB_iff n v).1 h
  rcases (show n = 1 ∨ n = 2 ∨ n = 3 ∨ n = 4 by omega) with rfl | rfl | rfl | rfl
  all_goals
    simp at h4
    omega
theorem goesS_lo (st : Bool) (s : Sp) : goesS st s s.lo = s.to := by
  unfold goesS
  split <;> omega
theorem goesS_add (st : Bool) (s : Sp) (u d : Int) : goesS st s (u + d) = goesS st s u + (if st = true then d else 0) := by
  unfold goesS
  split <;> omega
theorem ahS.trans {a b c : Sp} (h : ahS a b) (k : ahS b c) (hb : b.lo ≤ b.hi) : ahS a c := by
  unfold ahS at *
  omega
section
variable {st : Bool} {n v x : Int}
theorem toS_some {s : Sp} : toS st s n v = some x ↔ Sn st s ∧ n = s.n ∧ s.lo ≤ v ∧ v ≤ s.hi ∧ x = goesS st s v := by
  unfold toS
  split
  · rename_i h
    constructor
    · intro e
      injection e with e
      exact ⟨h.1, h.2.1, h.2.2.1, h.2.2.2, e.symm⟩
    · rintro ⟨_, _, _, _, rfl⟩
      rfl
  · rename_i h
    constructor
    · intro e; cases e
    · rintro ⟨h1, h2, h3, h4, _⟩
      exact absurd ⟨h1, h2, h3, h4⟩ h
theorem toS_none {s : Sp} (h : ¬ (n = s.n ∧ s.lo ≤ v ∧ v ≤ s.hi)) : toS st s n v = none := by
  unfold toS
  rw [if_neg (fun k => h k.2)]
theorem toS_yes {s : Sp} (h : Sn st s) (h1 : s.lo ≤ v) (h2 : v ≤ s.hi) : toS st s s.n v = some (goesS st s v) := toS_some.2 ⟨h, rfl, h1, h2, rfl⟩
theorem lastS_append (a b : List Sp) : lastS st (a ++ b) n v = (lastS st b n v).or (lastS st a n v) := by
  induction a with
  | nil => simp [lastS]
  | cons s a ih => rw [List.cons_append, lastS, ih, lastS, Option.or_assoc]
theorem lastS_none {l : List Sp} : lastS st l n v = none ↔ ∀ s ∈ l, toS st s n v = none := by
  induction l with
  | nil => simp [lastS]
  | cons s l ih => rw [lastS, Option.or_eq_none_iff, ih]; simp [and_comm]
theorem lastS_mem {l : List Sp} (h : lastS st l n v = some x) : ∃ s ∈ l, toS st s n v = some x := by
  induction l with
  | nil => cases h
  | cons s l ih =>
    rw [lastS] at h
    cases e : lastS st l n v with
    | some y =>
      rw [e] at h
      obtain ⟨q, hq, hx⟩ := ih (by rw [e]; exact h)
      exact ⟨q, List.mem_cons_of_mem _ hq, hx⟩
    | none =>
      rw [e] at h
      exact ⟨s, List.mem_cons_self, h⟩
theorem ahS.off {a b : Sp} (h : ahS a b) (ha : toS st a n v = some x) : toS st b n v = none := by
  obtain ⟨_, h1, h2, h3, _⟩ := toS_some.1 ha
  refine toS_none fun k => ?_
  unfold ahS at h
  omega
theorem ahS.oth {a b : Sp} (h : ahS a b) (hb : toS st b n v = some x) : toS st a n v = none := by
  obtain ⟨_, h1, h2, h3, _⟩ := toS_some.1 hb
  refine toS_none fun k => ?_
  unfold ahS at h
  omega
/-- Where spans go ahead of each other, the one that tells of a code is the one by which it is told. -/
theorem lastS_of {l : List Sp} (hp : l.Pairwise ahS) {s : Sp} (hs : s ∈ l) (h : toS st s n v = some x) : lastS st l n v = some x := by
  induction l with
  | nil => cases hs
  | cons a l ih =>
    rw [List.pairwise_cons] at hp
    rw [lastS]
    rcases List.mem_cons.1 hs with rfl | hs
    · rw [lastS_none.2 (fun q hq => (hp.1 q hq).off h)]
      exact h
    · rw [ih hp.2 hs]
      rfl
theorem Cn.ah {l : List Sp} (h : Cn st l) : l.Pairwise ahS := h.2.imp fun k => k.1
theorem Cn.lo {l : List Sp} (h : Cn st l) {s : Sp} (hs : s ∈ l) : s.lo ≤ s.hi := (h.1 s hs).2.2.1
theorem Cn.of {l : List Sp} (h : Cn st l) {s : Sp} (hs : s ∈ l) (h1 : s.lo ≤ v) (h2 : v ≤ s.hi) : lastS st l s.n v = some (goesS st s v) := lastS_of h.ah hs (toS_yes (h.1 s hs) h1 h2)
theorem Cn.nil : Cn st [] := ⟨by simp, List.Pairwise.nil⟩
theorem Cn.tail {a : Sp} {l : List Sp} (h : Cn st (a :: l)) : Cn st l := ⟨fun s hs => h.1 s (List.mem_cons_of_mem _ hs), (List.pairwise_cons.1 h.2).2⟩
theorem pair_two {R : Sp → Sp → Prop} {l : List Sp} (hp : l.Pairwise R) {a b : Sp} (ha : a ∈ l) (hb : b ∈ l) (hne : a ≠ b) : R a b ∨ R b a := by
  induction l with
  | nil => cases ha
  | cons c l ih =>
    rw [List.pairwise_cons] at hp
    rcases List.mem_cons.1 ha with rfl | ha'
    · rcases List.mem_cons.1 hb with rfl | hb'
      · exact absurd rfl hne
      · exact .inl (hp.1 b hb')
    · rcases List.mem_cons.1 hb with rfl | hb'
      · exact .inr (hp.1 a ha')
      · exact ih hp.2 ha' hb'
/-- A SPAN ENDS WHERE IT ENDS. -/
theorem Cn.ends {l : List Sp} (h : Cn st l) {s : Sp} (hs : s ∈ l) (hx : lastS st l s.n (s.hi + 1) = some x) : x ≠ goesS st s (s.hi + 1) := by
  obtain ⟨q, hq, hqx⟩ := lastS_mem hx
  obtain ⟨_, q1, q2, q3, rfl⟩ := toS_some.1 hqx
  have hl := h.lo hs
  have hne : s ≠ q := by rintro rfl; omega
  rcases pair_two h.2 hs hq hne with k | k
  · intro e
    have k1 := k.1
    unfold ahS at k1
    have e1 : q.lo = s.hi + 1 := by omega
    rw [← e1, goesS_lo] at e
    exact k.2 ⟨q1, e1, e⟩
  · have k1 := k.1
    unfold ahS at k1
    omega
/-- A TABLE IS ONE FOR ALL. -/
theorem Cn.one : ∀ {t u : List Sp}, Cn st t → Cn st u → (∀ n v, lastS st t n v = lastS st u n v) → t = u
  | [], [], _, _, _ => rfl
  | [], b :: u, _, hu, h => by
    have := h b.n b.lo
    rw [hu.of List.mem_cons_self (Int.le_refl _) (hu.lo List.mem_cons_self)] at this
    cases this
  | a :: t, [], ht, _, h => by
    have := h a.n a.lo
    rw [ht.of List.mem_cons_self (Int.le_refl _) (ht.lo List.mem_cons_self)] at this
    cases this
  | a :: t, b :: u, ht, hu, h => by
    have la := ht.lo (s := a) List.mem_cons_self
    have lb := hu.lo (s := b) List.mem_cons_self
    have fa := ht.of (s := a) List.mem_cons_self (Int.le_refl _) la
    have fb := hu.of (s := b) List.mem_cons_self (Int.le_refl _) lb
    have key : ∀ {a b : Sp} {u : List Sp} {y : Int}, Cn st (b :: u) → lastS st (b :: u) a.n a.lo = some y → b.n < a.n ∨ (b.n = a.n ∧ b.lo ≤ a.lo) := fun {a b u y} hu f => by
      obtain ⟨q, hq, hqx⟩ := lastS_mem f
      obtain ⟨_, q1, q2, q3, _⟩ := toS_some.1 hqx
      have lb := hu.lo (s := b) List.mem_cons_self
      rcases List.mem_cons.1 hq with rfl | hq
      · omega
      · have := ((List.pairwise_cons.1 hu.2).1 q hq).1
        unfold ahS at this
        omega
    have k1 := key hu ((h a.n a.lo).symm.trans fa)
    have k2 := key ht ((h b.n b.lo).trans fb)
    have en : a.n = b.n := by omega
    have el : a.lo = b.lo := by omega
    have et : a.to = b.to := by
      have f1 := fa.symm.trans (h a.n a.lo)
      rw [en, el, fb, ← el, goesS_lo, el, goesS_lo] at f1
      injection f1
    have eg : ∀ v, goesS st a v = goesS st b v := fun v => by unfold goesS; rw [el, et]
    have eh : a.hi = b.hi := by
      rcases Int.lt_trichotomy a.hi b.hi with k | k | k
      · exfalso
        have f := hu.of (s := b) (v := a.hi + 1) List.mem_cons_self (by omega) (by omega)
        rw [← en, ← h, ← eg] at f
        exact ht.ends List.mem_cons_self f rfl
      · exact k
      · exfalso
        have f := ht.of (s := a) (v := b.hi + 1) List.mem_cons_self (by omega) (by omega)
        rw [en, h, eg] at f
        exact hu.ends List.mem_cons_self f rfl
    have e : a = b := by
      cases a; cases b
      simp only [Sp.mk.injEq]
      exact ⟨en, el, eh, et⟩
    subst e
    congr 1
    refine Cn.one ht.tail hu.tail fun n v => ?_
    have hh := h n v
    rw [lastS, lastS] at hh
    cases e : toS st a n v with
    | none =>
      rw [e, Option.or_none, Option.or_none] at hh
      exact hh
    | some y =>
      rw [lastS_none.2 (fun q hq => ((List.pairwise_cons.1 ht.2).1 q hq).1.off e), lastS_none.2 (fun q hq => ((List.pairwise_cons.1 hu.2).1 q hq).1.off e)]
/-- Where nothing begins or ends between two codes, both go by the same one. -/
theorem lastS_shift {l : List Sp} {u : Int} (huv : u ≤ v) (h : ∀ r ∈ l, Sn st r → r.n = n → ¬ (u < r.lo ∧ r.lo ≤ v) ∧ ¬ (u < r.hi + 1 ∧ r.hi + 1 ≤ v)) : lastS st l n v = (lastS st l n u).map (· + (if st = true then v - u else 0)) := by
  induction l with
  | nil => rfl
  | cons r l ih =>
    rw [lastS, lastS, ih (fun q hq => h q (List.mem_cons_of_mem _ hq))]
    have e : toS st r n v = (toS st r n u).map (· + (if st = true then v - u else 0)) := by
      by_cases hr : Sn st r ∧ n = r.n
      · have h0 := h r List.mem_cons_self hr.1 hr.2.symm
        by_cases hu : r.lo ≤ u ∧ u ≤ r.hi
        · rw [toS_some.2 ⟨hr.1, hr.2, hu.1, hu.2, rfl⟩, toS_some.2 ⟨hr.1, hr.2, by omega, by omega, rfl⟩]
          have := goesS_add st r u (v - u)
          rw [show u + (v - u) = v by omega] at this
          rw [this]
          rfl
        · rw [toS_none (v := u) (by omega), toS_none (v := v) (by omega)]
          rfl
      · have g : ∀ y, toS st r n y = none := fun y => by
          unfold toS
          rw [if_neg (fun k => hr ⟨k.1, k.2.1⟩)]
        rw [g, g]
        rfl
    rw [e]
    cases lastS st l n u <;> rfl
/-- Where something begins, or has ended. -/
def bordL (l : List Sp) : List (Int × Int) := l.flatMap fun s => [(s.n, s.lo), (s.n, s.hi + 1)]
theorem bordL_length (l : List Sp) : (bordL l).length = 2 * l.length := by
  induction l with
  | nil => rfl
  | cons s l ih => simp only [bordL, List.flatMap_cons, List.length_append, List.length_cons, List.length_nil] at *; omega
theorem Cn.start {t l : List Sp} (h : Cn st t) (e : ∀ n v, lastS st t n v = lastS st l n v) {s : Sp} (hs : s ∈ t) : (s.n, s.lo) ∈ bordL l := by
  refine Decidable.byContradiction fun hc => ?_
  have hb : ∀ r ∈ l, Sn st r → r.n = s.n → ¬ (s.lo - 1 < r.lo ∧ r.lo ≤ s.lo) ∧ ¬ (s.lo - 1 < r.hi + 1 ∧ r.hi + 1 ≤ s.lo) := fun r hr _ hn => by
    constructor
    · intro k
      exact hc (List.mem_flatMap.2 ⟨r, hr, by rw [hn, show r.lo = s.lo by omega]; exact List.mem_cons_self⟩)
    · intro k
      exact hc (List.mem_flatMap.2 ⟨r, hr, by rw [hn, show r.hi + 1 = s.lo by omega]; exact List.mem_cons_of_mem _ List.mem_cons_self⟩)
  have h1 := lastS_shift (v := s.lo) (u := s.lo - 1) (by omega) hb
  have h2 := h.of hs (Int.le_refl _) (h.lo hs)
  rw [← e, ← e, h2] at h1
  cases h3 : lastS st t s.n (s.lo - 1) with
  | none => rw [h3] at h1; cases h1
  | some x =>
    rw [h3, goesS_lo] at h1
    injection h1 with h1
    obtain ⟨q, hq, hqx⟩ := lastS_mem h3
    obtain ⟨_, q1, q2, q3, rfl⟩ := toS_some.1 hqx
    have hl := h.lo hs
    have hne : q ≠ s := by rintro rfl; omega
    rcases pair_two h.2 hq hs hne with k | k
    · have k1 := k.1
      unfold ahS at k1
      refine k.2 ⟨q1.symm, by omega, ?_⟩
      have := goesS_add st q (s.lo - 1) (s.lo - (s.lo - 1))
      rw [show s.lo - 1 + (s.lo - (s.lo - 1)) = s.lo by omega] at this
      rw [this]
      exact h1
    · have k1 := k.1
      unfold ahS at k1
      omega
theorem nodup_le {α : Type} [DecidableEq α] : ∀ {l m : List α}, l.Nodup → (∀ a ∈ l, a ∈ m) → l.length ≤ m.length
  | [], _, _, _ => Nat.zero_le _
  | a :: l, m, hn, hm => by
    have ha := hm a List.mem_cons_self
    rw [List.nodup_cons] at hn
    have := nodup_le (m := m.erase a) hn.2 fun b hb => (List.mem_erase_of_ne (by rintro rfl; exact hn.1 hb)).2 (hm b (List.mem_cons_of_mem _ hb))
    rw [List.length_erase_of_mem ha] at this
    have := List.length_pos_of_mem ha
    simp only [List.length_cons]
    omega
theorem Cn.starts : ∀ {t : List Sp}, Cn st t → (t.map fun s => (s.n, s.lo)).Nodup
  | [], _ => List.nodup_nil
  | a :: t, h => by
    rw [List.map_cons, List.nodup_cons]
    refine ⟨fun hm => ?_, Cn.starts h.tail⟩
    obtain ⟨q, hq, e⟩ := List.mem_map.1 hm
    injection e with e1 e2
    have := ((List.pairwise_cons.1 h.2).1 q hq).1
    have := h.lo (s := a) List.mem_cons_self
    unfold ahS at *
    omega
theorem Cn.few {t l : List Sp} (h : Cn st t) (e : ∀ n v, lastS st t n v = lastS st l n v) : t.length ≤ 2 * l.length := by
  have := nodup_le h.starts (m := bordL l) fun a ha => by
    obtain ⟨s, hs, rfl⟩ := List.mem_map.1 ha
    exact h.start e hs
  rw [List.length_map, bordL_length] at this
  exact this
end
end Go.Proofs.YtmjneokjgcgchaaGreat
/-
  Layer 7 as plain lists: one table of two, the second of which overrides.
-/
namespace Go.Proofs.YtmjneokjgcgchaaGreat

def partS (st : Bool) (s : Sp) (lo hi : Int) : Sp := ⟨s.n, lo, hi, goesS st s lo⟩
/-- One more at the end of a table. -/
def addL (st : Bool) (o : List Sp) (x : Sp) : List Sp :=
  match o.getLast? with
  | none => [x]
  | some e => if jnS st e x then o.dropLast ++ [{ e with hi := x.hi }] else o ++ [x]
/-- Those ahead of s are added. -/
def addA (st : Bool) : List Sp → List Sp → Sp → List Sp × List Sp
  | o, [], _ => (o, [])
  | o, x :: v, s => if ahS x s then addA st (addL st o x) v s else (o, x :: v)
/-- What is left of s. -/
def leftG (st : Bool) (s : Sp) : Int → List Sp → List Sp
  | lo, [] => if lo ≤ s.hi then [partS st s lo s.hi] else []
  | lo, c :: cs => if ahS s c then (if lo ≤ s.hi then [partS st s lo s.hi] else []) else (if lo < c.lo then [partS st s lo (c.lo - 1)] else []) ++ leftG st s (c.hi + 1) cs
def stepP (st : Bool) (q : List Sp × List Sp) (p : Sp) : List Sp × List Sp := (addL st (addA st q.1 q.2 p).1 p, (addA st q.1 q.2 p).2)
def stepS (st : Bool) (q : List Sp × List Sp) (s : Sp) : List Sp × List Sp := (leftG st s s.lo (addA st q.1 q.2 s).2).foldl (stepP st) (addA st q.1 q.2 s)
def overL (st : Bool) (t over : List Sp) : List Sp := (t.foldl (stepS st) ([], over)).2.foldl (addL st) (t.foldl (stepS st) ([], over)).1

section
variable {st : Bool}
theorem addL_nil (x : Sp) : addL st [] x = [x] := rfl
theorem addL_snoc (p : List Sp) (e x : Sp) : addL st (p ++ [e]) x = if jnS st e x then p ++ [{ e with hi := x.hi }] else p ++ [e] ++ [x] := by
  unfold addL
  rw [List.getLast?_concat, List.dropLast_concat]
theorem addL_ind {o : List Sp} {x : Sp} {C : List Sp → List Sp → Prop} (h0 : C [] [x]) (h1 : ∀ p e, jnS st e x → C (p ++ [e]) (p ++ [{ e with hi := x.hi }])) (h2 : ∀ p e, ¬ jnS st e x → C (p ++ [e]) (p ++ [e] ++ [x])) : C o (addL st o x) := by
  rcases List.eq_nil_or_concat o with rfl | ⟨p, e, rfl⟩
  · exact h0
  · rw [List.concat_eq_append, addL_snoc]
    split
    · exact h1 _ _ ‹_›
    · exact h2 _ _ ‹_›
theorem addL_length (o : List Sp) (x : Sp) : (addL st o x).length ≤ o.length + 1 :=
  addL_ind (C := fun o r => r.length ≤ o.length + 1) (by simp) (by simp) (by simp)
theorem addL_ah {o : List Sp} {x z : Sp} (ho : ∀ e ∈ o, ahS e z) (hx : ahS x z) : ∀ e ∈ addL st o x, ahS e z := by
  revert ho
  refine addL_ind (C := fun o r => (∀ e ∈ o, ahS e z) → ∀ e ∈ r, ahS e z) ?_ ?_ ?_
  · intro _ e he
    rw [List.mem_singleton] at he
    rw [he]; exact hx
  · intro p e hj ho q hq
    rcases List.mem_append.1 hq with hq | hq
    · exact ho q (List.mem_append_left _ hq)
    · rw [List.mem_singleton] at hq
      subst hq
      have := hj.1
      unfold ahS at *
      show e.n < z.n ∨ e.n = z.n ∧ x.hi < z.lo
      rw [this]
      exact hx
  · intro p e hj ho q hq
    rcases List.mem_append.1 hq with hq | hq
    · exact ho q hq
    · rw [List.mem_singleton] at hq
      rw [hq]; exact hx
theorem join_sn {e x : Sp} (he : Sn st e) (hx : Sn st x) (hj : jnS st e x) : Sn st { e with hi := x.hi } := by
  obtain ⟨e1, e2, e3, e4, e5, e6⟩ := he
  obtain ⟨x1, x2, x3, x4, x5, x6⟩ := hx
  obtain ⟨j1, j2, j3⟩ := hj
  refine ⟨e1, by rw [j1]; exact x2, ?_, e4, e5, ?_⟩
  · show e.lo ≤ x.hi
    omega
  · have : goesS st { e with hi := x.hi } x.hi = goesS st x x.hi := by
      unfold goesS at *
      cases st
      · simp at *; omega
      · simp at *; omega
    exact this ▸ x6
theorem join_to {e x : Sp} (he : Sn st e) (hx : Sn st x) (hj : jnS st e x) (n v : Int) : toS st { e with hi := x.hi } n v = (toS st x n v).or (toS st e n v) := by
  have hm := join_sn he hx hj
  obtain ⟨j1, j2, j3⟩ := hj
  have he3 := he.2.2.1
  have hx3 := hx.2.2.1
  have hg : ∀ v, goesS st x v = goesS st { e with hi := x.hi } v := fun v => by
    unfold goesS at *
    cases st
    · simp at *; omega
    · simp at *; omega
  by_cases k : n = e.n ∧ e.lo ≤ v ∧ v ≤ x.hi
  · rw [toS_some.2 ⟨hm, k.1, k.2.1, k.2.2, rfl⟩]
    by_cases k2 : x.lo ≤ v
    · rw [toS_some.2 ⟨hx, by omega, k2, k.2.2, rfl⟩, hg]
      rfl
    · rw [toS_none (s := x) (by omega), toS_some.2 ⟨he, k.1, k.2.1, by omega, rfl⟩]
      rfl
  · rw [toS_none (s := { e with hi := x.hi }) k, toS_none (s := x) (by omega), toS_none (s := e) (by omega)]
    rfl
theorem addL_last {o : List Sp} {x : Sp} (hx : Sn st x) (ho : ∀ e ∈ o, Sn st e) (n v : Int) : lastS st (addL st o x) n v = (toS st x n v).or (lastS st o n v) := by
  revert ho
  refine addL_ind (C := fun o r => (∀ e ∈ o, Sn st e) → lastS st r n v = (toS st x n v).or (lastS st o n v)) ?_ ?_ ?_
  · intro _
    simp [lastS]
  · intro p e hj ho
    rw [lastS_append, lastS_append, ← Option.or_assoc]
    congr 1
    simp only [lastS, Option.none_or]
    exact join_to (ho e (by simp)) hx hj n v
  · intro p e hj ho
    rw [lastS_append _ [x]]
    simp [lastS]
theorem addL_cn {o : List Sp} {x : Sp} (hx : Sn st x) (ho : Cn st o) (ha : ∀ e ∈ o, ahS e x) : Cn st (addL st o x) := by
  revert ho ha
  refine addL_ind (C := fun o r => Cn st o → (∀ e ∈ o, ahS e x) → Cn st r) ?_ ?_ ?_
  · intro _ _
    exact ⟨fun s hs => by rw [List.mem_singleton] at hs; rw [hs]; exact hx, List.pairwise_singleton _ _⟩
  · intro p e hj ho _
    obtain ⟨h1, h2⟩ := ho
    rw [List.pairwise_append] at h2
    refine ⟨fun s hs => ?_, List.pairwise_append.2 ⟨h2.1, List.pairwise_singleton _ _, fun a ha b hb => ?_⟩⟩
    · rcases List.mem_append.1 hs with hs | hs
      · exact h1 s (List.mem_append_left _ hs)
      · rw [List.mem_singleton] at hs
        rw [hs]
        exact join_sn (h1 e (by simp)) hx hj
    · rw [List.mem_singleton] at hb
      subst hb
      exact h2.2.2 a ha e (by simp)
  · intro p e hj ho ha
    obtain ⟨h1, h2⟩ := ho
    refine ⟨fun s hs => ?_, List.pairwise_append.2 ⟨h2, List.pairwise_singleton _ _, fun a ha' b hb => ?_⟩⟩
    · rcases List.mem_append.1 hs with hs | hs
      · exact h1 s hs
      · rw [List.mem_singleton] at hs
        rw [hs]; exact hx
    · rw [List.mem_singleton] at hb
      subst hb
      refine ⟨ha a ha', fun hj2 => ?_⟩
      rcases List.mem_append.1 ha' with hp | hp
      · have k1 := ((List.pairwise_append.1 h2).2.2 a hp e (by simp)).1
        have k2 := ha e (by simp)
        have k3 := (h1 e (by simp)).2.2.1
        obtain ⟨j1, j2, _⟩ := hj2
        unfold ahS at *
        omega
      · rw [List.mem_singleton] at hp
        rw [hp] at hj2
        exact hj hj2
/-- What holds as one table is put over another: o is made, v is left of the one above, T of the one below. -/
structure Iv (st : Bool) (o v T : List Sp) : Prop where
  co : Cn st o
  cv : Cn st v
  sT : ∀ s ∈ T, Sn st s
  pT : T.Pairwise ahS
  ov : ∀ e ∈ o, ∀ x ∈ v, ahS e x
  oT : ∀ e ∈ o, ∀ x ∈ T, ahS e x
def mS (st : Bool) (o v T : List Sp) (n y : Int) : Option Int := (lastS st v n y).or ((lastS st T n y).or (lastS st o n y))
theorem Iv.up {o v T : List Sp} {x : Sp} (h : Iv st o (x :: v) T) (hx : ∀ z ∈ T, ahS x z) : Iv st (addL st o x) v T ∧ ∀ n y, mS st (addL st o x) v T n y = mS st o (x :: v) T n y := by
  have sx := h.cv.1 x List.mem_cons_self
  refine ⟨⟨addL_cn sx h.co (fun e he => h.ov e he x List.mem_cons_self), h.cv.tail, h.sT, h.pT, ?_, ?_⟩, fun n y => ?_⟩
  · intro e he z hz
    exact addL_ah (fun e he => h.ov e he z (List.mem_cons_of_mem _ hz)) ((List.pairwise_cons.1 h.cv.2).1 z hz).1 e he
  · intro e he z hz
    exact addL_ah (fun e he => h.oT e he z hz) (hx z hz) e he
  · unfold mS
    rw [addL_last sx h.co.1, lastS, Option.or_assoc]
    congr 1
    cases e : toS st x n y with
    | none => simp
    | some a =>
      rw [lastS_none.2 (fun z hz => (hx z hz).off e)]
      rfl
theorem addA_spec {s : Sp} {T : List Sp} : ∀ {v o : List Sp}, Iv st o v (s :: T) → Iv st (addA st o v s).1 (addA st o v s).2 (s :: T) ∧ (∀ n y, mS st (addA st o v s).1 (addA st o v s).2 (s :: T) n y = mS st o v (s :: T) n y) ∧ (∀ x ∈ (addA st o v s).2.head?, ¬ ahS x s) ∧ (addA st o v s).2 <:+ v
  | [], o, h => ⟨h, fun _ _ => rfl, by simp [addA], List.suffix_refl _⟩
  | x :: v, o, h => by
    rw [addA]
    split
    · rename_i hx
      obtain ⟨h1, h2⟩ := h.up (x := x) (fun z hz => by
        rcases List.mem_cons.1 hz with rfl | hz
        · exact hx
        · exact hx.trans ((List.pairwise_cons.1 h.pT).1 z hz) (h.sT s List.mem_cons_self).2.2.1)
      obtain ⟨g1, g2, g3, g4⟩ := addA_spec h1
      exact ⟨g1, fun n y => (g2 n y).trans (h2 n y), g3, g4.trans (List.suffix_cons _ _)⟩
    · rename_i hx
      exact ⟨h, fun _ _ => rfl, fun z hz => by simp at hz; rw [← hz]; exact hx, List.suffix_refl _⟩
theorem addA_lens {s : Sp} : ∀ {v o : List Sp}, (addA st o v s).1.length + (addA st o v s).2.length ≤ o.length + v.length ∧ (addA st o v s).2.length ≤ v.length
  | [], o => by simp [addA]
  | x :: v, o => by
    rw [addA]
    split
    · have h1 := addA_lens (s := s) (v := v) (o := addL st o x)
      have h2 := addL_length (st := st) o x
      simp only [List.length_cons]
      omega
    · simp
theorem Iv.part {o v T : List Sp} {p : Sp} (h : Iv st o v (p :: T)) (hd : ∀ x ∈ v, ahS p x ∨ ahS x p) : Iv st (stepP st (o, v) p).1 (stepP st (o, v) p).2 T ∧ (∀ n y, mS st (stepP st (o, v) p).1 (stepP st (o, v) p).2 T n y = mS st o v (p :: T) n y) ∧ (stepP st (o, v) p).2 <:+ v := by
  obtain ⟨g1, g2, g3, g4⟩ := addA_spec h
  show Iv st (addL st (addA st o v p).1 p) (addA st o v p).2 T ∧ (∀ n y, mS st (addL st (addA st o v p).1 p) (addA st o v p).2 T n y = mS st o v (p :: T) n y) ∧ (addA st o v p).2 <:+ v
  generalize (addA st o v p).1 = o1 at *
  generalize (addA st o v p).2 = v1 at *
  have sp := h.sT p List.mem_cons_self
  have hp : ∀ x ∈ v1, ahS p x := by
    cases v1 with
    | nil => intro x hx; cases hx
    | cons x0 v2 =>
      have k0 : ahS p x0 := (hd x0 (g4.subset List.mem_cons_self)).resolve_right (g3 x0 (by simp))
      intro x hx
      rcases List.mem_cons.1 hx with rfl | hx
      · exact k0
      · exact k0.trans ((List.pairwise_cons.1 g1.cv.2).1 x hx).1 (g1.cv.lo List.mem_cons_self)
  refine ⟨⟨addL_cn sp g1.co (fun e he => g1.oT e he p List.mem_cons_self), g1.cv, fun s hs => h.sT s (List.mem_cons_of_mem _ hs), (List.pairwise_cons.1 h.pT).2, ?_, ?_⟩, fun n y => ?_, g4⟩
  · intro e he z hz
    exact addL_ah (fun e he => g1.ov e he z hz) (hp z hz) e he
  · intro e he z hz
    exact addL_ah (fun e he => g1.oT e he z (List.mem_cons_of_mem _ hz)) ((List.pairwise_cons.1 h.pT).1 z hz) e he
  · rw [← g2]
    unfold mS
    rw [addL_last sp g1.co.1, lastS, Option.or_assoc]
theorem Iv.parts {T : List Sp} : ∀ {P o v : List Sp}, Iv st o v (P ++ T) → (∀ p ∈ P, ∀ x ∈ v, ahS p x ∨ ahS x p) → Iv st (P.foldl (stepP st) (o, v)).1 (P.foldl (stepP st) (o, v)).2 T ∧ (∀ n y, mS st (P.foldl (stepP st) (o, v)).1 (P.foldl (stepP st) (o, v)).2 T n y = mS st o v (P ++ T) n y)
  | [], o, v, h, _ => ⟨h, fun _ _ => rfl⟩
  | p :: P, o, v, h, hd => by
    obtain ⟨g1, g2, g3⟩ := h.part (hd p List.mem_cons_self)
    obtain ⟨k1, k2⟩ := Iv.parts g1 (fun q hq x hx => hd q (List.mem_cons_of_mem _ hq) x (g3.subset hx))
    exact ⟨k1, fun n y => (k2 n y).trans (g2 n y)⟩
theorem part_goes (s : Sp) (lo hi v : Int) : goesS st (partS st s lo hi) v = goesS st s v := by
  unfold partS
  cases st
  · rfl
  · simp only [goesS, if_true]
    omega
theorem Sn.goes {s : Sp} (hs : Sn st s) {v : Int} (h1 : s.lo ≤ v) (h2 : v ≤ s.hi) : 0 ≤ goesS st s v ∧ goesS st s v ≤ 65535 := by
  obtain ⟨_, _, s3, s4, s5, s6⟩ := hs
  cases st
  · exact ⟨s4, s5⟩
  · simp only [goesS, if_true] at *
    omega
theorem part_sn {s : Sp} (hs : Sn st s) {lo hi : Int} (h1 : s.lo ≤ lo) (h2 : lo ≤ hi) (h3 : hi ≤ s.hi) : Sn st (partS st s lo hi) := by
  have g1 := hs.goes h1 (by omega)
  have g2 := hs.goes (v := hi) (by omega) h3
  rw [← part_goes s lo hi] at g2
  obtain ⟨s1, s2, s3, s4, s5, s6⟩ := hs
  exact ⟨(show saneB s.n lo = true from saneB_mid s1 s2 h1 (by omega)), (show saneB s.n hi = true from saneB_mid s1 s2 (by omega) h3), h2, g1.1, g1.2, g2.2⟩
theorem leftG_spec {s : Sp} (hs : Sn st s) : ∀ (cs : List Sp) (lo : Int), (∀ c ∈ cs, Sn st c) → cs.Pairwise ahS → s.lo ≤ lo → (∀ c ∈ cs, s.n < c.n ∨ (s.n = c.n ∧ lo ≤ c.hi)) →
    (∀ p ∈ leftG st s lo cs, ∃ a b, p = partS st s a b ∧ lo ≤ a ∧ a ≤ b ∧ b ≤ s.hi) ∧ (leftG st s lo cs).Pairwise ahS ∧ (∀ p ∈ leftG st s lo cs, ∀ c ∈ cs, ahS p c ∨ ahS c p) ∧
    (∀ n v, lo ≤ v → (lastS st cs n v).or (lastS st (leftG st s lo cs) n v) = (lastS st cs n v).or (toS st s n v)) := by
  have last : ∀ lo : Int, s.lo ≤ lo → (∀ p ∈ (if lo ≤ s.hi then [partS st s lo s.hi] else []), p = partS st s lo s.hi ∧ lo ≤ s.hi) ∧ (if lo ≤ s.hi then [partS st s lo s.hi] else []).Pairwise ahS ∧ (∀ n v, lo ≤ v → lastS st (if lo ≤ s.hi then [partS st s lo s.hi] else []) n v = toS st s n v) := fun lo hlo => by
    split
    · rename_i h
      refine ⟨fun p hp => ⟨by simpa using hp, h⟩, List.pairwise_singleton _ _, fun n v hv => ?_⟩
      simp only [lastS, Option.none_or]
      by_cases k : n = s.n ∧ v ≤ s.hi
      · rw [toS_some.2 ⟨part_sn hs hlo h (Int.le_refl _), k.1, hv, k.2, rfl⟩, toS_some.2 ⟨hs, k.1, by omega, k.2, rfl⟩, part_goes]
      · rw [toS_none (s := s) (by omega), toS_none (s := partS st s lo s.hi) (fun k2 => k ⟨k2.1, k2.2.2⟩)]
    · refine ⟨fun p hp => by simp at hp, List.Pairwise.nil, fun n v hv => ?_⟩
      rw [toS_none (by omega)]
      rfl
  intro cs
  induction cs with
  | nil =>
    intro lo _ _ hlo _
    obtain ⟨l1, l2, l3⟩ := last lo hlo
    rw [leftG]
    refine ⟨fun p hp => ?_, l2, fun p hp c hc => (by cases hc), fun n v hv => by rw [l3 n v hv]⟩
    obtain ⟨e, h⟩ := l1 p hp
    exact ⟨lo, s.hi, e, Int.le_refl _, h, Int.le_refl _⟩
  | cons c cs ih =>
    intro lo hsn hpw hlo hH
    rw [leftG]
    have sc := hsn c List.mem_cons_self
    have hpc := List.pairwise_cons.1 hpw
    split
    · rename_i ha
      obtain ⟨l1, l2, l3⟩ := last lo hlo
      refine ⟨fun p hp => ?_, l2, fun p hp d hd => ?_, fun n v hv => by rw [l3 n v hv]⟩
      · obtain ⟨e, h⟩ := l1 p hp
        exact ⟨lo, s.hi, e, Int.le_refl _, h, Int.le_refl _⟩
      · obtain ⟨e, h⟩ := l1 p hp
        subst e
        left
        have had : ahS s d := by
          rcases List.mem_cons.1 hd with rfl | hd
          · exact ha
          · exact ha.trans (hpc.1 d hd) sc.2.2.1
        exact had
    · rename_i ha
      have hc := hH c List.mem_cons_self
      have hcn : s.n = c.n ∧ lo ≤ c.hi ∧ c.lo ≤ s.hi := by unfold ahS at ha; omega
      have hH2 : ∀ d ∈ cs, s.n < d.n ∨ (s.n = d.n ∧ c.hi + 1 ≤ d.hi) := fun d hd => by
        have h1 := hpc.1 d hd
        have h2 := (hsn d (List.mem_cons_of_mem _ hd)).2.2.1
        unfold ahS at h1
        omega
      obtain ⟨i1, i2, i3, i4⟩ := ih (c.hi + 1) (fun d hd => hsn d (List.mem_cons_of_mem _ hd)) hpc.2 (by omega) hH2
      have p0 : ∀ p ∈ (if lo < c.lo then [partS st s lo (c.lo - 1)] else []), p = partS st s lo (c.lo - 1) ∧ lo < c.lo := fun p hp => by
        split at hp
        · rename_i h
          exact ⟨by simpa using hp, h⟩
        · simp at hp
      have hcl := sc.2.2.1
      refine ⟨fun p hp => ?_, List.pairwise_append.2 ⟨?_, i2, fun a ha b hb => ?_⟩, fun p hp d hd => ?_, fun n v hv => ?_⟩
      · rcases List.mem_append.1 hp with hp | hp
        · obtain ⟨e, h⟩ := p0 p hp
          exact ⟨lo, c.lo - 1, e, Int.le_refl _, by omega, by omega⟩
        · obtain ⟨a, b, e, h1, h2, h3⟩ := i1 p hp
          exact ⟨a, b, e, by omega, h2, h3⟩
      · split
        · exact List.pairwise_singleton _ _
        · exact List.Pairwise.nil
      · obtain ⟨e, h⟩ := p0 a ha
        obtain ⟨x, y, e2, h1, h2, h3⟩ := i1 b hb
        subst e e2
        right
        exact ⟨rfl, by show c.lo - 1 < x; omega⟩
      · rcases List.mem_append.1 hp with hp | hp
        · obtain ⟨e, h⟩ := p0 p hp
          subst e
          left
          have k : ahS (partS st s lo (c.lo - 1)) c := .inr ⟨hcn.1, by show c.lo - 1 < c.lo; omega⟩
          rcases List.mem_cons.1 hd with rfl | hd
          · exact k
          · exact k.trans (hpc.1 d hd) hcl
        · rcases List.mem_cons.1 hd with rfl | hd
          · obtain ⟨x, y, e2, h1, h2, h3⟩ := i1 p hp
            subst e2
            right
            exact .inr ⟨hcn.1.symm, by show d.hi < x; omega⟩
          · exact i3 p hp d hd
      · rw [lastS_append, lastS]
        by_cases k : v ≤ c.hi
        · have z1 : lastS st (leftG st s (c.hi + 1) cs) n v = none := lastS_none.2 fun p hp => by
            obtain ⟨x, y, e2, h1, h2, h3⟩ := i1 p hp
            subst e2
            exact toS_none fun q => by have : x ≤ v := q.2.1; omega
          rw [z1, Option.none_or]
          by_cases k2 : c.lo ≤ v
          · by_cases kn : n = c.n
            · rw [toS_some.2 ⟨sc, kn, k2, k, rfl⟩]
              cases lastS st cs n v <;> rfl
            · rw [toS_none (s := s) (by omega), (lastS_none (l := if lo < c.lo then [partS st s lo (c.lo - 1)] else [])).2 fun p hp => ?_]
              obtain ⟨e, h⟩ := p0 p hp
              subst e
              exact toS_none fun q => kn (q.1.trans hcn.1)
          · rw [if_pos (by omega)]
            simp only [lastS, Option.none_or]
            by_cases kn : n = s.n
            · rw [toS_some.2 ⟨part_sn hs hlo (by omega) (by omega), kn, hv, by show v ≤ c.lo - 1; omega, rfl⟩, toS_some.2 ⟨hs, kn, by omega, by omega, rfl⟩, part_goes]
            · rw [toS_none (s := s) (by omega), toS_none (s := partS st s lo (c.lo - 1)) (fun q => kn q.1)]
        · have z1 : lastS st (if lo < c.lo then [partS st s lo (c.lo - 1)] else []) n v = none := lastS_none.2 fun p hp => by
            obtain ⟨e, h⟩ := p0 p hp
            subst e
            exact toS_none fun q => by have : v ≤ c.lo - 1 := q.2.2; omega
          rw [z1, Option.or_none, toS_none (s := c) (by omega), Option.or_none]
          exact i4 n v (by omega)
theorem leftG_length (s : Sp) : ∀ (cs : List Sp) (lo : Int), (leftG st s lo cs).length ≤ cs.length + 1
  | [], lo => by
    rw [leftG]
    split <;> simp
  | c :: cs, lo => by
    have := leftG_length s cs (c.hi + 1)
    rw [leftG]
    split
    · split <;> simp
    · rw [List.length_append]
      split <;> simp <;> omega
theorem Iv.cut {o v T : List Sp} {s : Sp} (h : Iv st o v (s :: T)) (hv : ∀ x ∈ v.head?, ¬ ahS x s) : Iv st o v (leftG st s s.lo v ++ T) ∧ (∀ n y, mS st o v (leftG st s s.lo v ++ T) n y = mS st o v (s :: T) n y) ∧ (∀ p ∈ leftG st s s.lo v, ∀ x ∈ v, ahS p x ∨ ahS x p) := by
  have ss := h.sT s List.mem_cons_self
  have hH : ∀ c ∈ v, s.n < c.n ∨ (s.n = c.n ∧ s.lo ≤ c.hi) := by
    cases v with
    | nil => intro c hc; cases hc
    | cons x v =>
      have hx := hv x (by simp)
      intro c hc
      rcases List.mem_cons.1 hc with rfl | hc
      · unfold ahS at hx; omega
      · have h1 := ((List.pairwise_cons.1 h.cv.2).1 c hc).1
        have h2 := h.cv.lo (s := c) (List.mem_cons_of_mem _ hc)
        unfold ahS at hx h1
        omega
  obtain ⟨i1, i2, i3, i4⟩ := leftG_spec ss v s.lo h.cv.1 h.cv.ah (Int.le_refl _) hH
  have hpT := List.pairwise_cons.1 h.pT
  refine ⟨⟨h.co, h.cv, fun p hp => ?_, List.pairwise_append.2 ⟨i2, hpT.2, fun p hp z hz => ?_⟩, h.ov, fun e he p hp => ?_⟩, fun n y => ?_, i3⟩
  · rcases List.mem_append.1 hp with hp | hp
    · obtain ⟨a, b, rfl, h1, h2, h3⟩ := i1 p hp
      exact part_sn ss h1 h2 h3
    · exact h.sT p (List.mem_cons_of_mem _ hp)
  · obtain ⟨a, b, rfl, h1, h2, h3⟩ := i1 p hp
    have := hpT.1 z hz
    unfold ahS at *
    show s.n < z.n ∨ s.n = z.n ∧ b < z.lo
    omega
  · rcases List.mem_append.1 hp with hp | hp
    · obtain ⟨a, b, rfl, h1, h2, h3⟩ := i1 p hp
      have := h.oT e he s List.mem_cons_self
      unfold ahS at *
      show e.n < s.n ∨ e.n = s.n ∧ e.hi < a
      omega
    · exact h.oT e he p (List.mem_cons_of_mem _ hp)
  · unfold mS
    rw [lastS_append, lastS]
    by_cases k : s.lo ≤ y
    · have := i4 n y k
      cases e : lastS st v n y with
      | some a => rfl
      | none =>
        rw [e, Option.none_or, Option.none_or] at this
        rw [this]
    · have z1 : lastS st (leftG st s s.lo v) n y = none := lastS_none.2 fun p hp => by
        obtain ⟨a, b, rfl, h1, h2, h3⟩ := i1 p hp
        exact toS_none fun q => by have : a ≤ y := q.2.1; omega
      rw [z1, toS_none (s := s) (by omega)]
theorem Iv.one {o v T : List Sp} {s : Sp} (h : Iv st o v (s :: T)) : Iv st (stepS st (o, v) s).1 (stepS st (o, v) s).2 T ∧ (∀ n y, mS st (stepS st (o, v) s).1 (stepS st (o, v) s).2 T n y = mS st o v (s :: T) n y) := by
  obtain ⟨g1, g2, g3, _⟩ := addA_spec h
  obtain ⟨k1, k2, k3⟩ := g1.cut g3
  obtain ⟨m1, m2⟩ := k1.parts k3
  exact ⟨m1, fun n y => ((m2 n y).trans (k2 n y)).trans (g2 n y)⟩
theorem Iv.all : ∀ {T o v : List Sp}, Iv st o v T → Iv st (T.foldl (stepS st) (o, v)).1 (T.foldl (stepS st) (o, v)).2 [] ∧ (∀ n y, mS st (T.foldl (stepS st) (o, v)).1 (T.foldl (stepS st) (o, v)).2 [] n y = mS st o v T n y)
  | [], _, _, h => ⟨h, fun _ _ => rfl⟩
  | s :: T, o, v, h => by
    obtain ⟨g1, g2⟩ := h.one
    obtain ⟨k1, k2⟩ := Iv.all g1
    exact ⟨k1, fun n y => (k2 n y).trans (g2 n y)⟩
theorem Iv.rest : ∀ {v o : List Sp}, Iv st o v [] → Cn st (v.foldl (addL st) o) ∧ ∀ n y, lastS st (v.foldl (addL st) o) n y = mS st o v [] n y
  | [], o, h => ⟨h.co, fun n y => by simp [mS, lastS]⟩
  | x :: v, o, h => by
    obtain ⟨g1, g2⟩ := h.up (by simp)
    obtain ⟨k1, k2⟩ := Iv.rest g1
    exact ⟨k1, fun n y => (k2 n y).trans (g2 n y)⟩
theorem overL_spec {t over : List Sp} (ht : Cn st t) (hv : Cn st over) : Cn st (overL st t over) ∧ ∀ n y, lastS st (overL st t over) n y = (lastS st over n y).or (lastS st t n y) := by
  obtain ⟨g1, g2⟩ := Iv.all (st := st) (T := t) (o := []) (v := over) ⟨Cn.nil, hv, ht.1, ht.ah, by simp, by simp⟩
  obtain ⟨k1, k2⟩ := g1.rest
  exact ⟨k1, fun n y => ((k2 n y).trans (g2 n y)).trans (by simp [mS, lastS])⟩
end
end Go.Proofs.YtmjneokjgcgchaaGreat
/-
  Words of this proof's own for ints in memory: a slice that holds a list of ints; what a call hands back; an argument that is such a slice.
-/
namespace Go.Proofs.YtmjneokjgcgchaaGreat
open Go.ChangeShapes Go.WideShapes Go.ChangeAt Go.RowKit Go.Joins

/-- Ints as Go's values. -/
def ivs (l : List Int) : List Value := l.map fun n => Value.int .i64 n
theorem ivs_length (l : List Int) : (ivs l).length = l.length := by simp [ivs]
theorem ivs_get (l : List Int) (j : Nat) (h : j < l.length) : (ivs l)[j]? = some (.int .i64 (l[j]?.getD 0)) := by simp [ivs, h]
theorem ivs_append (a b : List Int) : ivs (a ++ b) = ivs a ++ ivs b := by simp [ivs]
theorem ivs_one (l : List Int) : ∀ u ∈ ivs l, u.oneCell' = true := by
  intro u hu
  simp only [ivs, List.mem_map] at hu
  obtain ⟨b, _, rfl⟩ := hu
  rfl

/-- A slice at A holds the ints l, below block B. -/
def Si (w : World) (B : Nat) (A : Option Addr) (l : List Int) : Prop :=
  0 < l.length → ∃ b o, A = some ⟨b, o, none⟩ ∧ b < B ∧ ∀ j, j < l.length → w.cell? ⟨b, o + j, none⟩ = some (.int .i64 (l[j]?.getD 0))

section
variable {w w' : World} {B B' : Nat} {A : Option Addr} {l : List Int}
theorem Si.keep (h : Si w B A l) (hk : ∀ p : Addr, p.block < B → w'.cell? p = w.cell? p) : Si w' B A l := fun hn => by
  obtain ⟨b, o, e, hb, hc⟩ := h hn
  exact ⟨b, o, e, hb, fun j hj => (hk ⟨b, o + j, none⟩ hb).trans (hc j hj)⟩
theorem Si.below (h : Si w B A l) (hb : Below B w w') : Si w' B A l := h.keep fun _ hp => hb.cell hp
theorem Si.more (h : Si w B A l) (hB : B ≤ B') : Si w B' A l := fun hn => by
  obtain ⟨b, o, e, hb, hc⟩ := h hn
  exact ⟨b, o, e, by omega, hc⟩
/-- Over a call that leaves all that was there. -/
theorem Si.over (h : Si w w.heap.size A l) (hb : Below w.heap.size w w') : Si w' w'.heap.size A l := (h.below hb).more hb.size
theorem Si.nil : Si w B A [] := fun h => absurd h (by simp)
theorem Si.drew (h : Si w B A l) : Si w.drew B A l := h
theorem Si.alloc (h : Si w B A l) (hB : B ≤ w.heap.size) (o : Obj) : Si (w.alloc o) B A l := h.keep fun p hp => World.cell?_alloc_lt w o p (by omega)
theorem Si.cells (h : Si w B A l) (hn : 0 < l.length) : ∃ a, A = some a ∧ ∀ j u, (ivs l)[j]? = some u → w.cell? (a.add j) = some u := by
  obtain ⟨b, o, e, _, hc⟩ := h hn
  refine ⟨_, e, fun j u hu => ?_⟩
  have hj : j < l.length := by
    rcases Nat.lt_or_ge j l.length with h | h
    · exact h
    · rw [List.getElem?_eq_none (by rw [ivs_length]; exact h)] at hu; cases hu
  rw [ivs_get l j hj] at hu
  rw [addr_add, hc j hj, hu]
theorem Si.of_own {base : Nat} {e : TypeId} {v : Value} {n : Nat} (h : w.ownsRow base e 1 v n (ivs l)) : ∃ c, n = l.length ∧ (n ≤ c ∧ (v = .slice none l.length c → c = 0)) ∧ ∃ A, v = .slice A l.length c ∧ Si w w.heap.size A l := by
  have hl : n = l.length := by have := h.1; rw [ivs_length] at this; omega
  subst hl
  rcases h.2 with ⟨rfl, h0⟩ | ⟨g, cap, cur, rfl, hb, hg, hc, hm, hs, ht⟩
  · exact ⟨0, rfl, ⟨by omega, fun _ => rfl⟩, none, by rw [h0], fun hn => absurd hn (by omega)⟩
  · refine ⟨cap, rfl, ⟨hc, fun e => by cases e⟩, _, rfl, fun hn => ⟨g, 0, rfl, (Array.getElem?_eq_some_iff.1 hg).1, fun j hj => ?_⟩⟩
    have := h.cells (g := g) rfl j _ (ivs_get l j hj)
    rwa [addr_add] at this
end

/-- One result: a slice of ints (a nil one has no room). -/
def RetSi (w : World) (l : List Int) (e : Ending) (w' : World) : Prop :=
  ∃ A c, e = .returned (.slice A l.length c) ∧ (l.length ≤ c ∧ (Value.slice A l.length c = .slice none l.length c → c = 0)) ∧ Si w' w'.heap.size A l ∧ Below w.heap.size w w'
/-- Two results: a slice of ints, and a truth. -/
def RetSiB (w : World) (l : List Int) (b : Bool) (e : Ending) (w' : World) : Prop :=
  ∃ A c, e = .returned (.tuple #[.slice A l.length c, .bool b]) ∧ (l.length ≤ c ∧ (Value.slice A l.length c = .slice none l.length c → c = 0)) ∧ Si w' w'.heap.size A l ∧ Below w.heap.size w w'

section
variable {H : Type} {enc : TypeId × Value → H} {P : Program} {W : World} {base : Nat} {v : Value} {d : DataW H} {p : List MemPlace}
theorem view_ints {t e : TypeId} (ht : P.underlying t = some (.slice e)) (he : P.underlying e = some (.int .i64)) (hc : P.cellsOf e = 1) (hv : Value.okWide P W .any base t v) (h : DataW.Trod enc P W 0 (fun _ => true) true t v d p) :
    ∃ A l c, v = .slice A l.length c ∧ l.length ≤ maxLen ∧ Si W W.heap.size A l ∧ (A = none → c = 0) := by
  obtain ⟨A, len, cap, rfl⟩ := okWide_slice ht hv
  obtain ⟨fuel, hf⟩ := h
  rcases open_ints ht he hc hf with ⟨hcs, _⟩ | ⟨x, l, c, zs, hcs, _, hl, hm, hz, _, hcell, hwz⟩
  · simp [Value.cells] at hcs
    obtain ⟨rfl, rfl, rfl⟩ := hcs
    exact ⟨none, [], 0, rfl, by simp [maxLen], Si.nil, fun _ => rfl⟩
  · simp [Value.cells] at hcs
    obtain ⟨rfl, rfl, rfl⟩ := hcs
    have hz' : zs.length = cap := by simpa using hz
    have hlen : (zs.take len).length = len := by simp; omega
    have hget : ∀ j, j < len → (zs.take len)[j]?.getD 0 = zs.getD j 0 := fun j hj => by
      have hzj : zs[j]? = some (zs.getD j 0) := by rw [List.getD_eq_getElem?_getD, List.getElem?_eq_getElem (by omega : j < zs.length)]; rfl
      rw [List.getElem?_take, if_pos hj, hzj]; rfl
    refine ⟨some x, zs.take len, cap, by rw [hlen], by rw [hlen]; omega, fun hn => ?_, fun e => by cases e⟩
    rw [hlen] at hn
    obtain ⟨b, off, spot⟩ := x
    have hc0 := hcell 0 (by omega)
    have hspot : spot = none := by simpa [Addr.add] using World.cell?_spot hc0
    subst hspot
    refine ⟨b, off, rfl, World.block_lt_of_cell? W _ (by simpa [Addr.add] using hc0 : W.cell? ⟨b, off, none⟩ = _), fun j hj => ?_⟩
    rw [hlen] at hj
    have hcj := hcell j (by omega)
    rw [addr_add] at hcj
    rw [hcj, hget j hj]
end
end Go.Proofs.YtmjneokjgcgchaaGreat
/-
  Spans in memory: a slice that holds a list of spans, four cells each.
-/
namespace Go.Proofs.YtmjneokjgcgchaaGreat
open Go.RowKit

/-- Spans as cells. -/
def sq (x : Sp) : List Value := [.int .i64 x.n, .int .i64 x.lo, .int .i64 x.hi, .int .i64 x.to]
/-- A span as an argument. -/
def sv (x : Sp) : Value := .agg #[.int .i64 x.n, .int .i64 x.lo, .int .i64 x.hi, .int .i64 x.to]
def svs (l : List Sp) : List Value := l.flatMap sq
theorem svs_cons (t : Sp) (l : List Sp) : svs (t :: l) = sq t ++ svs l := by simp [svs]
theorem svs_append (a b : List Sp) : svs (a ++ b) = svs a ++ svs b := by simp [svs]
theorem svs_length : ∀ l : List Sp, (svs l).length = l.length * 4
  | [] => rfl
  | t :: l => by rw [svs_cons, List.length_append, svs_length l, List.length_cons]; simp [sq]; omega
theorem svs_one (l : List Sp) : ∀ u ∈ svs l, u.oneCell' = true := by
  intro u hu
  simp only [svs, List.mem_flatMap, sq, List.mem_cons, List.not_mem_nil, or_false] at hu
  obtain ⟨t, _, rfl | rfl | rfl | rfl⟩ := hu <;> rfl
theorem svs_get : ∀ (l : List Sp) (j i : Nat) (x : Sp), l[j]? = some x → i < 4 → (svs l)[j * 4 + i]? = (sq x)[i]?
  | [], j, i, x, h, _ => by simp at h
  | t :: l, 0, i, x, h, hi => by
    rw [List.getElem?_cons_zero] at h
    cases h
    rw [svs_cons, Nat.zero_mul, Nat.zero_add, List.getElem?_append_left (by simpa [sq] using hi)]
  | t :: l, j + 1, i, x, h, hi => by
    rw [List.getElem?_cons_succ] at h
    rw [svs_cons, List.getElem?_append_right (by simp [sq]; omega), ← svs_get l j i x h hi]
    congr 1
    simp [sq]
    omega
/-- A span's four cells, at a place. -/
structure S4 (w : World) (b p : Nat) (x : Sp) : Prop where
  c0 : w.cell? ⟨b, p, none⟩ = some (.int .i64 x.n)
  c1 : w.cell? ⟨b, p + 1, none⟩ = some (.int .i64 x.lo)
  c2 : w.cell? ⟨b, p + 2, none⟩ = some (.int .i64 x.hi)
  c3 : w.cell? ⟨b, p + 3, none⟩ = some (.int .i64 x.to)
theorem S4.keep {w w' : World} {b p : Nat} {x : Sp} (h : S4 w b p x) (hk : ∀ i, w'.cell? ⟨b, i, none⟩ = w.cell? ⟨b, i, none⟩) : S4 w' b p x := ⟨(hk _).trans h.c0, (hk _).trans h.c1, (hk _).trans h.c2, (hk _).trans h.c3⟩
/-- A slice at A holds the spans l, below block B. -/
def Ss (w : World) (B : Nat) (A : Option Addr) (l : List Sp) : Prop :=
  0 < l.length → ∃ b o, A = some ⟨b, o, none⟩ ∧ b < B ∧ ∀ j x, l[j]? = some x → S4 w b (o + j * 4) x
section
variable {w w' : World} {B B' : Nat} {A : Option Addr} {l : List Sp}
theorem Ss.keep (h : Ss w B A l) (hk : ∀ p : Addr, p.block < B → w'.cell? p = w.cell? p) : Ss w' B A l := fun hn => by
  obtain ⟨b, o, e, hb, hc⟩ := h hn
  exact ⟨b, o, e, hb, fun j x hx => (hc j x hx).keep fun i => hk ⟨b, i, none⟩ hb⟩
theorem Ss.below (h : Ss w B A l) (hb : Below B w w') : Ss w' B A l := h.keep fun _ hp => hb.cell hp
theorem Ss.more (h : Ss w B A l) (hB : B ≤ B') : Ss w B' A l := fun hn => by
  obtain ⟨b, o, e, hb, hc⟩ := h hn
  exact ⟨b, o, e, by omega, hc⟩
theorem Ss.over (h : Ss w w.heap.size A l) (hb : Below w.heap.size w w') : Ss w' w'.heap.size A l := (h.below hb).more hb.size
theorem Ss.nil : Ss w B A [] := fun h => absurd h (by simp)
theorem Ss.at (h : Ss w B A l) {j : Nat} {x : Sp} (hx : l[j]? = some x) : ∃ b o, A = some ⟨b, o, none⟩ ∧ b < B ∧ S4 w b (o + j * 4) x := by
  obtain ⟨b, o, e, hb, hc⟩ := h (by have := (List.getElem?_eq_some_iff.1 hx).1; omega)
  exact ⟨b, o, e, hb, hc j x hx⟩
theorem Ss.take (h : Ss w B A l) (k : Nat) : Ss w B A (l.take k) := fun hn => by
  obtain ⟨b, o, e, hb, hc⟩ := h (by simp at hn; omega)
  refine ⟨b, o, e, hb, fun j x hx => hc j x ?_⟩
  rw [List.getElem?_take] at hx
  split at hx
  · exact hx
  · cases hx
theorem Ss.drop {b o : Nat} (h : Ss w B (some ⟨b, o, none⟩) l) (k : Nat) : Ss w B (some ⟨b, o + k * 4, none⟩) (l.drop k) := fun hn => by
  obtain ⟨b', o', e, hb, hc⟩ := h (by simp at hn; omega)
  injection e with e
  injection e with e1 e2
  subst e1 e2
  refine ⟨b, o + k * 4, rfl, hb, fun j x hx => ?_⟩
  rw [List.getElem?_drop] at hx
  have := hc _ x hx
  rwa [show o + (k + j) * 4 = o + k * 4 + j * 4 by omega] at this
theorem Ss.of_own {base : Nat} {e : TypeId} {v : Value} {n : Nat} (h : w.ownsRow base e 4 v n (svs l)) : ∃ c, n = l.length ∧ n ≤ c ∧ ∃ A, v = .slice A l.length c ∧ Ss w w.heap.size A l := by
  have hl : n = l.length := by have := h.1; rw [svs_length] at this; omega
  subst hl
  rcases h.2 with ⟨rfl, h0⟩ | ⟨g, cap, cur, rfl, hb, hg, hc, hm, hs, ht⟩
  · exact ⟨0, rfl, by omega, none, by rw [h0], fun hn => absurd hn (by omega)⟩
  · refine ⟨cap, rfl, hc, _, rfl, fun hn => ⟨g, 0, rfl, (Array.getElem?_eq_some_iff.1 hg).1, fun j x hx => ?_⟩⟩
    have key : ∀ i u, i < 4 → (sq x)[i]? = some u → w.cell? ⟨g, 0 + j * 4 + i, none⟩ = some u := fun i u hi hu => by
      have := h.cells (g := g) rfl (j * 4 + i) u ((svs_get l j i x hx hi).trans hu)
      rwa [addr_add, ← Nat.add_assoc] at this
    exact ⟨key 0 _ (by omega) rfl, key 1 _ (by omega) rfl, key 2 _ (by omega) rfl, key 3 _ (by omega) rfl⟩
end
theorem own_belowS {w w' : World} {base n b size : Nat} {e : TypeId} {v : Value} {xs : List Value} (h : w.ownsRow base e size v n xs) (hb : Below b w w') (hB : w.heap.size ≤ b) : w'.ownsRow base e size v n xs := by
  refine ⟨h.1, ?_⟩
  rcases h.2 with hn | ⟨g, cap, cur, rfl, h1, hg, rest⟩
  · exact .inl hn
  · refine .inr ⟨g, cap, cur, rfl, h1, ?_, rest⟩
    have hlt := (Array.getElem?_eq_some_iff.1 hg).1
    rw [hb.block g (by omega)]
    exact hg
theorem infoS : (Tryz.prog.info? 87).map (fun i => (i.zero, i.size, i.bytes)) = some (some (.agg #[.int .i64 0, .int .i64 0, .int .i64 0, .int .i64 0]), 4, 32) := by kernel_rfl
theorem drewN_cellS (w : World) (n : Nat) (a : Addr) : (w.drewN n).cell? a = w.cell? a := rfl
/-- A span's block. -/
abbrev Bs (w : World) (b : Nat) (x : Sp) : Prop := S4 w b 0 x
theorem Bs.below {w w1 : World} {b B : Nat} {r : Sp} (h : Bs w b r) (hb : Below B w w1) (hB : b < B) : Bs w1 b r := S4.keep h fun i => hb.cell (p := ⟨b, i, none⟩) hB
theorem Bs.new (w : World) (r : Sp) (t : TypeId) : Bs (w.alloc (.cells #[.int .i64 r.n, .int .i64 r.lo, .int .i64 r.hi, .int .i64 r.to] t)) w.heap.size r := ⟨by simp, by simp, by simp, by simp⟩
/-- A code's block. -/
structure Bd (w : World) (b : Nat) (n v : Int) : Prop where
  c0 : w.cell? ⟨b, 0, none⟩ = some (.int .i64 n)
  c1 : w.cell? ⟨b, 1, none⟩ = some (.int .i64 v)
theorem Bd.below {w w1 : World} {b B : Nat} {n v : Int} (h : Bd w b n v) (hb : Below B w w1) (hB : b < B) : Bd w1 b n v :=
  ⟨(hb.cell (p := ⟨b, 0, none⟩) hB).trans h.c0, (hb.cell (p := ⟨b, 1, none⟩) hB).trans h.c1⟩
theorem Bd.new (w : World) (n v : Int) (t : TypeId) : Bd (w.alloc (.cells #[.int .i64 n, .int .i64 v] t)) w.heap.size n v := ⟨by simp, by simp⟩
section
variable {w w1 : World} {O : Obj} {b : Nat}
theorem Bs.step {r : Sp} (h : Bs w b r) (hl : b < w.heap.size) (hb : Below (w.alloc O).heap.size (w.alloc O) w1) : Bs w1 b r :=
  Bs.below (Bs.below h ((Below.refl w.heap.size w).alloc (Nat.le_refl _) O) hl) hb (by simp; omega)
theorem Bd.step {n v : Int} (h : Bd w b n v) (hl : b < w.heap.size) (hb : Below (w.alloc O).heap.size (w.alloc O) w1) : Bd w1 b n v :=
  (h.below ((Below.refl w.heap.size w).alloc (Nat.le_refl _) O) hl).below hb (by simp; omega)
theorem below_stp {w0 : World} {B : Nat} (h : Below B w0 w) (hB : B ≤ w.heap.size) (hb : Below (w.alloc O).heap.size (w.alloc O) w1) : Below B w0 w1 :=
  (h.alloc hB O).trans (hb.mono (by simp; omega))
theorem size_stp (hb : Below (w.alloc O).heap.size (w.alloc O) w1) : w.heap.size < w1.heap.size := by have := hb.size; simp at this; omega
end
/-- What a call hands back: a slice that holds spans. -/
def RetS (w : World) (l : List Sp) (e : Ending) (w' : World) : Prop :=
  ∃ A c, e = .returned (.slice A l.length c) ∧ l.length ≤ c ∧ (A = none → c = 0) ∧ Ss w' w'.heap.size A l ∧ Below w.heap.size w w'
end Go.Proofs.YtmjneokjgcgchaaGreat
/-
  The program's own goes, Sane, To, ahead, joins, part, compare.
-/
namespace Go.Proofs.YtmjneokjgcgchaaGreat
open Go.RowKit
attribute [local go_sem ↓] Go.wp_at_zero Go.wp_at_succ

/-- Small numbers. -/
structure Nr (s : Sp) : Prop where
  l0 : 0 ≤ s.lo
  l1 : s.lo < 4294967296
  h0 : 0 ≤ s.hi
  h1 : s.hi < 4294967296
  t0 : 0 ≤ s.to
  t1 : s.to ≤ 65535
theorem Sn.nr {st : Bool} {s : Sp} (h : Sn st s) : Nr s := by
  obtain ⟨h1, h2, h3, h4, h5, _⟩ := h
  have a := saneB_top h1
  have b := saneB_top h2
  exact ⟨a.1, a.2.1, b.1, b.2.1, h4, h5⟩
set_option maxHeartbeats 1000000 in
theorem goes_any (st : Bool) (s : Sp) (v : Int) (w : World) (h0 : 0 ≤ s.lo) (h1 : s.lo < 4294967296) (h2 : 0 ≤ s.to) (h3 : s.to ≤ 65535) (h4 : 0 ≤ v) (h5 : v ≤ 4294967296) :
    Calls Tryz.prog 106 #[sv s, .int .i64 v, .bool st] w fun e w' => e = .returned (.int .i64 (goesS st s v)) ∧ Below w.heap.size w w' := by
  unfold sv
  cases st with
  | true =>
    go_enter Tryz.func106, Tryz.ntmps106
    go_wp2
    go_ret
    exact ⟨by simp only [goesS, if_true]; go_num, (Below.refl _ _).alloc (Nat.le_refl _) _⟩
  | false =>
    go_enter Tryz.func106, Tryz.ntmps106
    go_wp2
    go_ret
    exact ⟨rfl, (Below.refl _ _).alloc (Nat.le_refl _) _⟩
theorem ahS_eq (a b : Sp) : decide (ahS a b) = (decide (a.n < b.n) || ((a.n == b.n) && decide (a.hi < b.lo))) := by
  show decide (a.n < b.n ∨ (a.n = b.n ∧ a.hi < b.lo)) = _
  rw [Bool.eq_iff_iff]
  simp
theorem jnS_eq (st : Bool) (a b : Sp) : decide (jnS st a b) = (((a.n == b.n) && (b.lo == a.hi + 1)) && (b.to == goesS st a b.lo)) := by
  show decide (a.n = b.n ∧ b.lo = a.hi + 1 ∧ b.to = goesS st a b.lo) = _
  rw [Bool.eq_iff_iff]
  simp [and_assoc]
set_option maxHeartbeats 1000000 in
theorem ahead_any (a b : Sp) (w : World) :
    Calls Tryz.prog 104 #[sv a, sv b] w fun e w' => e = .returned (.bool (decide (ahS a b))) ∧ Below w.heap.size w w' := by
  rw [ahS_eq]
  unfold sv
  cases d1 : decide (a.n < b.n) with
  | true =>
    go_enter Tryz.func104, Tryz.ntmps104
    go_wp2
    go_ret
    exact ⟨rfl, ((Below.refl _ _).alloc (Nat.le_refl _) _).alloc (by simp) _⟩
  | false =>
    cases d2 : (a.n == b.n) with
    | true =>
      go_enter Tryz.func104, Tryz.ntmps104
      go_wp2
      go_ret
      exact ⟨rfl, ((Below.refl _ _).alloc (Nat.le_refl _) _).alloc (by simp) _⟩
    | false =>
      go_enter Tryz.func104, Tryz.ntmps104
      go_wp2
      go_ret
      exact ⟨rfl, ((Below.refl _ _).alloc (Nat.le_refl _) _).alloc (by simp) _⟩
set_option maxHeartbeats 2000000 in
theorem joins_any (st : Bool) (a b : Sp) (w : World) (ha : Nr a) (hb : Nr b) :
    Calls Tryz.prog 127 #[sv a, sv b, .bool st] w fun e w' => e = .returned (.bool (decide (jnS st a b))) ∧ Below w.heap.size w w' := by
  have K1 := Lib.hid (fun W => goes_any st a b.lo W ha.l0 ha.l1 ha.t0 ha.t1 hb.l0 (by have := hb.l1; omega))
  rw [jnS_eq]
  obtain ⟨_, _, h0, h1, _, _⟩ := ha
  clear hb
  generalize goesS st a b.lo = g at *
  unfold sv at *
  cases d2 : (a.n == b.n) with
  | true =>
    cases d3 : (b.lo == a.hi + 1) with
    | true =>
      have hwr : IntKind.i64.wrap (a.hi + 1) = a.hi + 1 := IntWalk.i64_in _ (by omega)
      go_enter Tryz.func127, Tryz.ntmps127
      go_wp2_with fail
      have xa : Bs ((w.alloc (.cells #[.int .i64 a.n, .int .i64 a.lo, .int .i64 a.hi, .int .i64 a.to] 87)).alloc (.cells #[.int .i64 b.n, .int .i64 b.lo, .int .i64 b.hi, .int .i64 b.to] 87)) w.heap.size a := ⟨by simp, by simp, by simp, by simp⟩
      have xb : Bs ((w.alloc (.cells #[.int .i64 a.n, .int .i64 a.lo, .int .i64 a.hi, .int .i64 a.to] 87)).alloc (.cells #[.int .i64 b.n, .int .i64 b.lo, .int .i64 b.hi, .int .i64 b.to] 87)) (w.heap.size + 1) b := ⟨by simp, by simp, by simp, by simp⟩
      have b1 : Below w.heap.size w ((w.alloc (.cells #[.int .i64 a.n, .int .i64 a.lo, .int .i64 a.hi, .int .i64 a.to] 87)).alloc (.cells #[.int .i64 b.n, .int .i64 b.lo, .int .i64 b.hi, .int .i64 b.to] 87)) := ((Below.refl _ _).alloc (Nat.le_refl _) _).alloc (by simp) _
      have z1 : w.heap.size + 1 < ((w.alloc (.cells #[.int .i64 a.n, .int .i64 a.lo, .int .i64 a.hi, .int .i64 a.to] 87)).alloc (.cells #[.int .i64 b.n, .int .i64 b.lo, .int .i64 b.hi, .int .i64 b.to] 87)).heap.size := by simp
      generalize (w.alloc (.cells #[.int .i64 a.n, .int .i64 a.lo, .int .i64 a.hi, .int .i64 a.to] 87)).alloc (.cells #[.int .i64 b.n, .int .i64 b.lo, .int .i64 b.hi, .int .i64 b.to] 87) = wr at *
      have hS : ∀ w', Below wr.heap.size wr w' → (w'.cell? ⟨w.heap.size, 0, none⟩ = some (.int .i64 a.n) ∧ w'.cell? ⟨w.heap.size, 1, none⟩ = some (.int .i64 a.lo) ∧ w'.cell? ⟨w.heap.size, 2, none⟩ = some (.int .i64 a.hi) ∧ w'.cell? ⟨w.heap.size, 3, none⟩ = some (.int .i64 a.to)) ∧ w'.cell? ⟨w.heap.size + 1, 0, none⟩ = some (.int .i64 b.n) ∧ w'.cell? ⟨w.heap.size + 1, 1, none⟩ = some (.int .i64 b.lo) ∧ w'.cell? ⟨w.heap.size + 1, 3, none⟩ = some (.int .i64 b.to) := fun w' hb => by
        have p := Bs.below xa hb (by omega)
        have q := Bs.below xb hb (by omega)
        exact ⟨⟨p.c0, p.c1, p.c2, p.c3⟩, q.c0, q.c1, q.c3⟩
      have HS := Lib.hid hS
      clear hS
      have z0 : Below wr.heap.size wr wr.drew := (Below.refl _ _).drew
      go_region_held (fun w' => (w'.cell? ⟨w.heap.size, 0, none⟩ = some (.int .i64 a.n) ∧ w'.cell? ⟨w.heap.size, 1, none⟩ = some (.int .i64 a.lo) ∧ w'.cell? ⟨w.heap.size, 2, none⟩ = some (.int .i64 a.hi) ∧ w'.cell? ⟨w.heap.size, 3, none⟩ = some (.int .i64 a.to)) ∧ w'.cell? ⟨w.heap.size + 1, 0, none⟩ = some (.int .i64 b.n) ∧ w'.cell? ⟨w.heap.size + 1, 1, none⟩ = some (.int .i64 b.lo) ∧ w'.cell? ⟨w.heap.size + 1, 3, none⟩ = some (.int .i64 b.to))
        (first | with_reducible exact HS.out _ z8 | with_reducible exact HS.out _ z0)
        ((go_at_call 106; with_reducible refine (K1.out _).mono ?_; rintro e x1 ⟨rfl, y8⟩; have z8 := z0.trans (y8.mono z0.size)))
      all_goals
        go_wp2
        go_ret
        exact ⟨rfl, b1.trans (z8.mono (by omega))⟩
    | false =>
      go_enter Tryz.func127, Tryz.ntmps127
      go_wp2
      go_quiet (fail)
      go_wp2
      go_ret
      exact ⟨rfl, below_drewN (((Below.refl _ _).alloc (Nat.le_refl _) _).alloc (by simp) _) _⟩
  | false =>
    go_enter Tryz.func127, Tryz.ntmps127
    go_wp2
    go_quiet (fail)
    go_wp2
    go_ret
    exact ⟨rfl, below_drewN (((Below.refl _ _).alloc (Nat.le_refl _) _).alloc (by simp) _) _⟩
end Go.Proofs.YtmjneokjgcgchaaGreat
/-
  The program's own part, compare.
-/
namespace Go.Proofs.YtmjneokjgcgchaaGreat
open Go.RowKit
attribute [local go_sem ↓] Go.wp_at_zero Go.wp_at_succ

/-- Which goes ahead: as a number. -/
def cmpS (a b : Sp) : Int := if ahS a b then -1 else if ahS b a then 1 else 0
set_option maxHeartbeats 2000000 in
theorem SCompare_any (a b : Sp) (w : World) :
    Calls Tryz.prog 53 #[sv a, sv b] w fun e w' => e = .returned (.int .i64 (cmpS a b)) ∧ Below w.heap.size w w' := by
  have K1 := Lib.hid (fun W => ahead_any a b W)
  have K2 := Lib.hid (fun W => ahead_any b a W)
  have hb0 : Below w.heap.size w ((w.alloc (.cells #[.int .i64 a.n, .int .i64 a.lo, .int .i64 a.hi, .int .i64 a.to] 87)).alloc (.cells #[.int .i64 b.n, .int .i64 b.lo, .int .i64 b.hi, .int .i64 b.to] 87)) := ((Below.refl _ _).alloc (Nat.le_refl _) _).alloc (by simp) _
  have xa : Bs ((w.alloc (.cells #[.int .i64 a.n, .int .i64 a.lo, .int .i64 a.hi, .int .i64 a.to] 87)).alloc (.cells #[.int .i64 b.n, .int .i64 b.lo, .int .i64 b.hi, .int .i64 b.to] 87)) w.heap.size a := ⟨by simp, by simp, by simp, by simp⟩
  have xb : Bs ((w.alloc (.cells #[.int .i64 a.n, .int .i64 a.lo, .int .i64 a.hi, .int .i64 a.to] 87)).alloc (.cells #[.int .i64 b.n, .int .i64 b.lo, .int .i64 b.hi, .int .i64 b.to] 87)) (w.heap.size + 1) b := ⟨by simp, by simp, by simp, by simp⟩
  have hz0 : w.heap.size + 1 < ((w.alloc (.cells #[.int .i64 a.n, .int .i64 a.lo, .int .i64 a.hi, .int .i64 a.to] 87)).alloc (.cells #[.int .i64 b.n, .int .i64 b.lo, .int .i64 b.hi, .int .i64 b.to] 87)).heap.size := by simp
  unfold cmpS
  by_cases h1 : ahS a b
  · rw [if_pos h1]
    rw [decide_eq_true h1] at K1
    clear h1
    unfold sv at *
    go_enter Tryz.func53, Tryz.ntmps53
    go_wp2_with ((go_at_call 104; refine (K1.out _).mono ?_; rintro e w3 ⟨rfl, hb3⟩))
    go_ret
    exact ⟨rfl, hb0.trans (hb3.mono (by omega))⟩
  · rw [if_neg h1]
    rw [decide_eq_false h1] at K1
    clear h1
    cases h2 : decide (ahS b a) with
    | true =>
      rw [if_pos (of_decide_eq_true h2)]
      rw [h2] at K2
      clear h2
      unfold sv at *
      go_enter Tryz.func53, Tryz.ntmps53
      go_wp2_with fail
      refine (K1.out _).mono ?_
      rintro e w1 ⟨rfl, hb1⟩
      obtain ⟨c0, c1, c2, c3⟩ := xa.below hb1 (by omega)
      obtain ⟨f0, f1, f2, f3⟩ := xb.below hb1 hz0
      rw [Nat.zero_add] at c1 c2 c3 f1 f2 f3
      go_wp2_with ((go_at_call 104; refine (K2.out _).mono ?_; rintro e w3 ⟨rfl, hb3⟩))
      go_ret
      exact ⟨rfl, (hb0.trans (hb1.mono (by omega))).trans (hb3.mono (by have := hb1.size; omega))⟩
    | false =>
      rw [if_neg (of_decide_eq_false h2)]
      rw [h2] at K2
      clear h2
      unfold sv at *
      go_enter Tryz.func53, Tryz.ntmps53
      go_wp2_with fail
      refine (K1.out _).mono ?_
      rintro e w1 ⟨rfl, hb1⟩
      obtain ⟨c0, c1, c2, c3⟩ := xa.below hb1 (by omega)
      obtain ⟨f0, f1, f2, f3⟩ := xb.below hb1 hz0
      rw [Nat.zero_add] at c1 c2 c3 f1 f2 f3
      go_wp2_with ((go_at_call 104; refine (K2.out _).mono ?_; rintro e w3 ⟨rfl, hb3⟩))
      go_ret
      exact ⟨rfl, (hb0.trans (hb1.mono (by omega))).trans (hb3.mono (by have := hb1.size; omega))⟩
/-- Four stores into one block. -/
theorem set_four {w : World} {b : Nat} {a0 a1 a2 a3 : Value} (h0 : w.cell? ⟨b, 0, none⟩ = some a0) (h1 : w.cell? ⟨b, 1, none⟩ = some a1) (h2 : w.cell? ⟨b, 2, none⟩ = some a2) (h3 : w.cell? ⟨b, 3, none⟩ = some a3) (u0 u1 u2 u3 : Value) :
    ∀ W, W = (((w.setCell ⟨b, 0, none⟩ u0).setCell ⟨b, 1, none⟩ u1).setCell ⟨b, 2, none⟩ u2).setCell ⟨b, 3, none⟩ u3 → W.cell? ⟨b, 0, none⟩ = some u0 ∧ W.cell? ⟨b, 1, none⟩ = some u1 ∧ W.cell? ⟨b, 2, none⟩ = some u2 ∧ W.cell? ⟨b, 3, none⟩ = some u3 := by
  rintro W rfl
  have ne : ∀ i j : Nat, i ≠ j → (⟨b, i, none⟩ : Addr) ≠ ⟨b, j, none⟩ := fun i j h e => by injection e with _ e2; exact h e2
  refine ⟨?_, ?_, ?_, ?_⟩
  · rw [World.cell?_setCell_other _ _ _ _ (ne 3 0 (by decide)), World.cell?_setCell_other _ _ _ _ (ne 2 0 (by decide)), World.cell?_setCell_other _ _ _ _ (ne 1 0 (by decide))]
    exact World.cell?_setCell_same _ _ _ h0
  · rw [World.cell?_setCell_other _ _ _ _ (ne 3 1 (by decide)), World.cell?_setCell_other _ _ _ _ (ne 2 1 (by decide))]
    exact World.cell?_setCell_same _ _ _ ((World.cell?_setCell_other _ _ _ _ (ne 0 1 (by decide))).trans h1)
  · rw [World.cell?_setCell_other _ _ _ _ (ne 3 2 (by decide))]
    exact World.cell?_setCell_same _ _ _ ((World.cell?_setCell_other _ _ _ _ (ne 1 2 (by decide))).trans ((World.cell?_setCell_other _ _ _ _ (ne 0 2 (by decide))).trans h2))
  · exact World.cell?_setCell_same _ _ _ ((World.cell?_setCell_other _ _ _ _ (ne 2 3 (by decide))).trans ((World.cell?_setCell_other _ _ _ _ (ne 1 3 (by decide))).trans ((World.cell?_setCell_other _ _ _ _ (ne 0 3 (by decide))).trans h3)))
theorem below_four {w w0 : World} {B b : Nat} (h : Below B w0 w) (hb : B ≤ b) (u0 u1 u2 u3 : Value) : Below B w0 ((((w.setCell ⟨b, 0, none⟩ u0).setCell ⟨b, 1, none⟩ u1).setCell ⟨b, 2, none⟩ u2).setCell ⟨b, 3, none⟩ u3) :=
  (((h.setCell (p := ⟨b, 0, none⟩) hb _).setCell (p := ⟨b, 1, none⟩) hb _).setCell (p := ⟨b, 2, none⟩) hb _).setCell (p := ⟨b, 3, none⟩) hb _
set_option maxHeartbeats 4000000 in
theorem part_any (st : Bool) (s : Sp) (lo hi : Int) (w : World) (hs : Nr s) (h0 : 0 ≤ lo) (h1 : lo ≤ 4294967296) :
    Calls Tryz.prog 170 #[sv s, .int .i64 lo, .int .i64 hi, .bool st] w fun e w' => e = .returned (sv (partS st s lo hi)) ∧ Below w.heap.size w w' := by
  have K1 := Lib.hid (fun W => goes_any st s lo W hs.l0 hs.l1 hs.t0 hs.t1 h0 h1)
  have e : sv (partS st s lo hi) = .agg #[.int .i64 s.n, .int .i64 lo, .int .i64 hi, .int .i64 (goesS st s lo)] := rfl
  rw [e]
  clear e hs h0 h1
  generalize goesS st s lo = g at *
  unfold sv at *
  go_enter Tryz.func170, Tryz.ntmps170
  go_wp2_with fail
  have xs : Bs ((w.alloc (.cells #[.int .i64 s.n, .int .i64 s.lo, .int .i64 s.hi, .int .i64 s.to] 87)).alloc (.cells #[.int .i64 0, .int .i64 0, .int .i64 0, .int .i64 0] 87)) w.heap.size s := ⟨by simp, by simp, by simp, by simp⟩
  have xz : Bs ((w.alloc (.cells #[.int .i64 s.n, .int .i64 s.lo, .int .i64 s.hi, .int .i64 s.to] 87)).alloc (.cells #[.int .i64 0, .int .i64 0, .int .i64 0, .int .i64 0] 87)) (w.heap.size + 1) ⟨0, 0, 0, 0⟩ := ⟨by simp, by simp, by simp, by simp⟩
  have xf : ∀ i, ((w.alloc (.cells #[.int .i64 s.n, .int .i64 s.lo, .int .i64 s.hi, .int .i64 s.to] 87)).alloc (.cells #[.int .i64 0, .int .i64 0, .int .i64 0, .int .i64 0] 87)).frozen? ⟨w.heap.size + 1, i, none⟩ = false := fun i => by simp
  have b1 : Below w.heap.size w ((w.alloc (.cells #[.int .i64 s.n, .int .i64 s.lo, .int .i64 s.hi, .int .i64 s.to] 87)).alloc (.cells #[.int .i64 0, .int .i64 0, .int .i64 0, .int .i64 0] 87)) := ((Below.refl _ _).alloc (Nat.le_refl _) _).alloc (by simp) _
  have z1 : w.heap.size + 1 < ((w.alloc (.cells #[.int .i64 s.n, .int .i64 s.lo, .int .i64 s.hi, .int .i64 s.to] 87)).alloc (.cells #[.int .i64 0, .int .i64 0, .int .i64 0, .int .i64 0] 87)).heap.size := by simp
  generalize (w.alloc (.cells #[.int .i64 s.n, .int .i64 s.lo, .int .i64 s.hi, .int .i64 s.to] 87)).alloc (.cells #[.int .i64 0, .int .i64 0, .int .i64 0, .int .i64 0] 87) = wr at *
  have hS : ∀ w', Below wr.heap.size wr w' → (fun w' => (w'.cell? ⟨w.heap.size, 0, none⟩ = some (.int .i64 s.n) ∧ w'.cell? ⟨w.heap.size, 1, none⟩ = some (.int .i64 s.lo) ∧ w'.cell? ⟨w.heap.size, 2, none⟩ = some (.int .i64 s.hi) ∧ w'.cell? ⟨w.heap.size, 3, none⟩ = some (.int .i64 s.to)) ∧ (w'.cell? ⟨w.heap.size + 1, 0, none⟩ = some (.int .i64 0) ∧ w'.cell? ⟨w.heap.size + 1, 1, none⟩ = some (.int .i64 0) ∧ w'.cell? ⟨w.heap.size + 1, 2, none⟩ = some (.int .i64 0) ∧ w'.cell? ⟨w.heap.size + 1, 3, none⟩ = some (.int .i64 0)) ∧ (w'.frozen? ⟨w.heap.size + 1, 0, none⟩ = false ∧ w'.frozen? ⟨w.heap.size + 1, 1, none⟩ = false ∧ w'.frozen? ⟨w.heap.size + 1, 2, none⟩ = false ∧ w'.frozen? ⟨w.heap.size + 1, 3, none⟩ = false)) w' := fun w' hb => by
    have p := Bs.below xs hb (by omega)
    have q := Bs.below xz hb (by omega)
    have f : ∀ i, w'.frozen? ⟨w.heap.size + 1, i, none⟩ = false := fun i => (hb.frozen (p := ⟨w.heap.size + 1, i, none⟩) z1).trans (xf i)
    exact ⟨⟨p.c0, p.c1, p.c2, p.c3⟩, ⟨q.c0, q.c1, q.c2, q.c3⟩, f 0, f 1, f 2, f 3⟩
  have HS := Lib.hid hS
  clear hS xs xz xf
  have z0 : Below wr.heap.size wr wr.drew := (Below.refl _ _).drew
  obtain ⟨⟨p0, p1, p2, p3⟩, ⟨q0, q1, q2, q3⟩, f0, f1, f2, f3⟩ := HS.out wr (Below.refl _ _)
  go_region_with ((go_at_call 106; with_reducible refine (K1.out _).mono ?_; rintro e x1 ⟨rfl, y8⟩; have z8 := z0.trans (y8.mono z0.size); obtain ⟨⟨p0, p1, p2, p3⟩, ⟨q0, q1, q2, q3⟩, f0, f1, f2, f3⟩ := HS.out _ z8))
  all_goals
    have hg := set_four q0 q1 q2 q3 (.int .i64 s.n) (.int .i64 lo) (.int .i64 hi) (.int .i64 g) _ rfl
    have hbE := below_four (b := w.heap.size + 1) (b1.trans (z8.mono (by omega))) (by omega) (.int .i64 s.n) (.int .i64 lo) (.int .i64 hi) (.int .i64 g)
    clear p0 p1 p2 p3 q0 q1 q2 q3 f0 f1 f2 f3
    go_wp2
    generalize (((World.setCell _ ⟨w.heap.size + 1, 0, none⟩ (.int .i64 s.n)).setCell ⟨w.heap.size + 1, 1, none⟩ (.int .i64 lo)).setCell ⟨w.heap.size + 1, 2, none⟩ (.int .i64 hi)).setCell ⟨w.heap.size + 1, 3, none⟩ (.int .i64 g) = W at *
    obtain ⟨g0, g1, g2, g3⟩ := hg
    refine bodyPost_ret (v := _) (by simp [results, Tryz.results170, go_sem, g0, g1, g2, g3]; try rfl) rfl ?_
    exact ⟨rfl, hbE⟩
end Go.Proofs.YtmjneokjgcgchaaGreat
/-
  The program's own add.
-/
namespace Go.Proofs.YtmjneokjgcgchaaGreat
open Go.RowKit
attribute [local go_sem ↓] Go.wp_at_zero Go.wp_at_succ

theorem gb_below {w w' : World} (h : Below w.heap.size w w') (row : Option Nat) : w.grownBy w' row := ⟨h.os, h.tape, h.output, h.size, fun k hk _ => h.block k hk⟩
theorem gb_trans {a b c : World} {r r' : Option Nat} (h : a.grownBy b r) (k : b.grownBy c r') (hr : ∀ g, r' = some g → r = some g ∨ a.heap.size ≤ g) : a.grownBy c r :=
  ⟨k.os.trans h.os, k.tape.trans h.tape, k.output.trans h.output, Nat.le_trans h.size k.size, fun j hj hne => (k.block j (Nat.lt_of_lt_of_le hj h.size) fun e => by
    rcases hr j e.symm with h1 | h1
    · exact hne h1.symm
    · omega).trans (h.block j hj hne)⟩
/-- What adds to a row hands back: the row, which is the old one or a new one. -/
def Added (w : World) (base : Nat) (v : Value) (m : List Sp) (e : Ending) (w' : World) : Prop :=
  ∃ v', e = .returned v' ∧ w'.ownsRow base 87 4 v' m.length (svs m) ∧ w.grownBy w' v.ownBlock ∧ (∀ g, v'.ownBlock = some g → v.ownBlock = some g ∨ w.heap.size ≤ g)
theorem own_sc {w : World} {base : Nat} {e : TypeId} {v : Value} {n : Nat} {out : List Sp} {x : Sp} (h : w.ownsRow base e 4 v n (svs out ++ sq x)) (hn : n = out.length + 1) : w.ownsRow base e 4 v (out ++ [x]).length (svs (out ++ [x])) := by
  subst hn
  rw [svs_append, List.length_append]
  simpa [svs] using h
theorem own_hi {w : World} {base : Nat} {e : TypeId} {g cap n : Nat} {p : List Sp} {y : Sp} {hi : Int} (h : w.ownsRow base e 4 (.slice (some ⟨g, 0, none⟩) n cap) n (svs (p ++ [y]))) :
    (w.setCell ⟨g, p.length * 4 + 2, none⟩ (.int .i64 hi)).ownsRow base e 4 (.slice (some ⟨g, 0, none⟩) n cap) n (svs (p ++ [{ y with hi := hi }])) ∧ w.grownBy (w.setCell ⟨g, p.length * 4 + 2, none⟩ (.int .i64 hi)) (some g) := by
  have k := h.stored (p.length * 4 + 2) (.int .i64 hi)
  have e1 : (svs (p ++ [y])).set (p.length * 4 + 2) (.int .i64 hi) = svs (p ++ [{ y with hi := hi }]) := by
    rw [svs_append, svs_append, List.set_append_right _ _ (by rw [svs_length]; omega), svs_length, show p.length * 4 + 2 - p.length * 4 = 2 by omega]
    rfl
  rw [e1] at k
  exact k
set_option maxRecDepth 100000 in
set_option maxHeartbeats 4000000 in
theorem add_any (st : Bool) (base : Nat) (v : Value) (o : List Sp) (x : Sp) (w : World) (hown : w.ownsRow base 87 4 v o.length (svs o)) (hbase : base ≤ w.heap.size) (hl : o.length ≤ 1073741824) (hs : ∀ y ∈ o, Nr y) (hx : Nr x) :
    Calls Tryz.prog 155 #[v, sv x, .bool st] w (Added w base v (addL st o x)) := by
  obtain ⟨i0, hi, hz0, hz1, hz2⟩ := info_parts infoS
  rcases List.eq_nil_or_concat o with rfl | ⟨p, y, rfl⟩
  · obtain ⟨c, _, _, A, rfl, _⟩ := Ss.of_own hown
    rw [addL_nil]
    unfold sv
    go_enter Tryz.func155, Tryz.ntmps155
    go_wp2
    go_quiet (fail)
    obtain ⟨W1, hW1⟩ : ∃ W1, ((w.alloc (.cells #[.int .i64 x.n, .int .i64 x.lo, .int .i64 x.hi, .int .i64 x.to] 87)).drewN nq) = W1 := ⟨_, rfl⟩
    have hW : Below w.heap.size w W1 := by rw [← hW1]; exact below_drewN ((Below.refl _ _).alloc (Nat.le_refl _) _) _
    have hbx : Bs W1 w.heap.size x := by rw [← hW1]; exact Bs.below (B := w.heap.size + 1) (Bs.new w x 87) (below_drewN (Below.refl _ _) _) (by omega)
    have hown1 := own_belowS hown hW (Nat.le_refl _)
    have hz : w.heap.size < W1.heap.size := by rw [← hW1]; simp
    rw [hW1]
    clear hW1 hown
    obtain ⟨y0, y1, y2, y3⟩ := hbx
    simp only [Nat.zero_add] at y1 y2 y3
    go_wp2_with (at_builtin; refine wpList_append_lies _ rfl _ _ _ rfl base 87 i0 (.agg #[.int .i64 0, .int .i64 0, .int .i64 0, .int .i64 0]) 4 32 Tryz.underlying24 hi hz0 hz1 hz2 rfl (by omega) _ _ _ rfl (hown1.alloc _) ⟨W1.heap.size, 0, none⟩ 1 1 (sq x) rfl rfl (World.news_of_block (heap_alloc_new W1 _)) (by intro u hu; exact svs_one [x] u (by simpa [svs] using hu)) (by omega) (by unfold maxLen; omega) (by omega) (by simp; omega) _ rfl ?_; intro g2 cap2 w3 hown3 hgrow hat hgl)
    go_ret
    refine ⟨_, rfl, own_sc (out := []) hown3 rfl, gb_trans (gb_trans (gb_below hW _) (World.grownBy_alloc W1 _ _) (fun g e => .inl e)) hgrow (fun g e => .inl e), fun g e => ?_⟩
    have e2 : g2 = g := by simpa [Value.ownBlock] using e
    subst e2
    rcases hat with h | h
    · exact .inl h
    · exact .inr (by rw [h]; simp; omega)
  · rw [List.concat_eq_append] at *
    have hys : Nr y := hs y (by simp)
    obtain ⟨g, cap, rfl, hg1, hg2⟩ := hown.form (by simp)
    have hle : (p ++ [y]).length = p.length + 1 := by simp
    rw [hle] at hown hl ⊢
    have K1 := Lib.hid (fun W => joins_any st y x W hys hx)
    have hm : (addL st (p ++ [y]) x) = if jnS st y x then p ++ [{ y with hi := x.hi }] else p ++ [y] ++ [x] := addL_snoc p y x
    obtain ⟨m, hmm⟩ : ∃ m, m = addL st (p ++ [y]) x := ⟨_, rfl⟩
    rw [← hmm]
    have HM := Lib.hid (hmm.trans hm)
    clear hmm hm hs hys hx hle
    have hcl : ∀ W, Below w.heap.size w W → S4 W g (p.length * 4) y := fun W hW => by
      have h1 := own_belowS hown hW (Nat.le_refl _)
      have key : ∀ i u, i < 4 → (sq y)[i]? = some u → W.cell? ⟨g, p.length * 4 + i, none⟩ = some u := fun i u hi hu => by
        have := h1.cells (g := g) rfl (p.length * 4 + i) u ((svs_get (p ++ [y]) p.length i y (by simp) hi).trans hu)
        rwa [addr_add, Nat.zero_add] at this
      exact ⟨key 0 _ (by omega) rfl, key 1 _ (by omega) rfl, key 2 _ (by omega) rfl, key 3 _ (by omega) rfl⟩
    have HCL := Lib.hid hcl
    have hb0 : Below w.heap.size w (w.alloc (.cells #[.int .i64 x.n, .int .i64 x.lo, .int .i64 x.hi, .int .i64 x.to] 87)) := (Below.refl _ _).alloc (Nat.le_refl _) _
    have hbz : Bs (w.alloc (.cells #[.int .i64 x.n, .int .i64 x.lo, .int .i64 x.hi, .int .i64 x.to] 87)) w.heap.size x := Bs.new _ _ _
    have hsz : w.heap.size < (w.alloc (.cells #[.int .i64 x.n, .int .i64 x.lo, .int .i64 x.hi, .int .i64 x.to] 87)).heap.size := by simp
    unfold sv at *
    go_enter Tryz.func155, Tryz.ntmps155
    go_wp2_with fail
    generalize w.alloc (.cells #[.int .i64 x.n, .int .i64 x.lo, .int .i64 x.hi, .int .i64 x.to] 87) = wr at *
    have HH : Hid (∀ w', Below wr.heap.size wr w' → (w'.cell? ⟨g, p.length * 4, none⟩ = some (.int .i64 y.n) ∧ w'.cell? ⟨g, p.length * 4 + 1, none⟩ = some (.int .i64 y.lo) ∧ w'.cell? ⟨g, p.length * 4 + 2, none⟩ = some (.int .i64 y.hi) ∧ w'.cell? ⟨g, p.length * 4 + 3, none⟩ = some (.int .i64 y.to)) ∧ w'.cell? ⟨w.heap.size, 0, none⟩ = some (.int .i64 x.n) ∧ w'.cell? ⟨w.heap.size, 1, none⟩ = some (.int .i64 x.lo) ∧ w'.cell? ⟨w.heap.size, 2, none⟩ = some (.int .i64 x.hi) ∧ w'.cell? ⟨w.heap.size, 3, none⟩ = some (.int .i64 x.to)) := Lib.hid fun w' hw => by
      have q := HCL.out w' (hb0.trans (hw.mono (by omega)))
      have r := Bs.below hbz hw hsz
      exact ⟨⟨q.c0, q.c1, q.c2, q.c3⟩, r.c0, r.c1, r.c2, r.c3⟩
    have z0 : Below wr.heap.size wr wr.drew := (Below.refl _ _).drew
    have HB : Hid (∀ w', Below wr.heap.size wr w' → Below w.heap.size w w' ∧ w.heap.size < w'.heap.size) := Lib.hid fun w' hw => ⟨hb0.trans (hw.mono (by omega)), Nat.lt_of_lt_of_le hsz hw.size⟩
    have HOW := Lib.hid hown
    clear hcl hb0 hbz hown hsz
    cases hj : decide (jnS st y x)
    all_goals
      rw [hj] at K1
      have HJ := Lib.hid hj
      clear hj
      go_region_held (fun w' => (w'.cell? ⟨g, p.length * 4, none⟩ = some (.int .i64 y.n) ∧ w'.cell? ⟨g, p.length * 4 + 1, none⟩ = some (.int .i64 y.lo) ∧ w'.cell? ⟨g, p.length * 4 + 2, none⟩ = some (.int .i64 y.hi) ∧ w'.cell? ⟨g, p.length * 4 + 3, none⟩ = some (.int .i64 y.to)) ∧ w'.cell? ⟨w.heap.size, 0, none⟩ = some (.int .i64 x.n) ∧ w'.cell? ⟨w.heap.size, 1, none⟩ = some (.int .i64 x.lo) ∧ w'.cell? ⟨w.heap.size, 2, none⟩ = some (.int .i64 x.hi) ∧ w'.cell? ⟨w.heap.size, 3, none⟩ = some (.int .i64 x.to))
        (first | with_reducible exact HH.out _ z8 | with_reducible exact HH.out _ z0)
        ((go_at_call 127; with_reducible refine (K1.out _).mono ?_; rintro e W1 ⟨rfl, y8⟩; have z8 := z0.trans (y8.mono z0.size)))
    · all_goals
        obtain ⟨hW, hz⟩ := HB.out _ z8
        have hown1 := own_belowS HOW.out hW (Nat.le_refl _)
        obtain ⟨_, y0, y1, y2, y3⟩ := HH.out _ z8
        go_wp2_with (at_builtin; refine wpList_append_lies _ rfl _ _ _ rfl base 87 i0 (.agg #[.int .i64 0, .int .i64 0, .int .i64 0, .int .i64 0]) 4 32 Tryz.underlying24 hi hz0 hz1 hz2 rfl (by omega) _ _ _ rfl (hown1.alloc _) ⟨W1.heap.size, 0, none⟩ 1 1 (sq x) rfl rfl (World.news_of_block (heap_alloc_new W1 _)) (by intro u hu; exact svs_one [x] u (by simpa [svs] using hu)) (by omega) (by unfold maxLen; omega) (by omega) (by simp; omega) _ rfl ?_; intro g2 cap2 w3 hown3 hgrow hat hgl)
        go_ret
        refine ⟨_, rfl, by rw [HM.out, if_neg (of_decide_eq_false HJ.out)]; exact own_sc (out := p ++ [y]) hown3 (by simp), gb_trans (gb_trans (gb_below hW _) (World.grownBy_alloc W1 _ _) (fun g e => .inl e)) hgrow (fun g e => .inl e), fun g e => ?_⟩
        have e2 : g2 = g := by simpa [Value.ownBlock] using e
        subst e2
        rcases hat with h | h
        · exact .inl h
        · exact .inr (by rw [h]; simp; omega)
    · all_goals
        obtain ⟨hW, hz⟩ := HB.out _ z8
        have hown1 := own_belowS HOW.out hW (Nat.le_refl _)
        obtain ⟨⟨x0, x1, x2, x3⟩, y0, y1, y2, y3⟩ := HH.out _ z8
        have hf := hown1.frozenAt (p.length * 4 + 2)
        obtain ⟨k1, k2⟩ := own_hi (hi := x.hi) hown1
        go_wp2
        go_ret
        refine ⟨_, rfl, ?_, gb_trans (gb_below hW _) k2 (fun g e => .inl e), fun g e => .inl e⟩
        rw [HM.out, if_pos (of_decide_eq_true HJ.out), List.length_append]
        exact k1
end Go.Proofs.YtmjneokjgcgchaaGreat
/-
  What a round of a loop over an iterator keeps, if it adds to a row whose slice lies in a box: all other cells.
-/
namespace Go.Proofs.YtmjneokjgcgchaaGreat
open Go.RowKit

/-- The block of the row whose slice lies in box OB. -/
def rowB (OB : Nat) (W : World) : Option Nat := match W.cell? ⟨OB, 0, none⟩ with | some v => v.ownBlock | none => none
theorem rowB_of {OB : Nat} {W : World} {v : Value} (h : W.cell? ⟨OB, 0, none⟩ = some v) : rowB OB W = v.ownBlock := by unfold rowB; rw [h]
theorem rowB_same {OB : Nat} {A B : World} (h : B.heap[OB]? = A.heap[OB]?) : rowB OB B = rowB OB A := by
  unfold rowB
  rw [World.cell?_of_block (a := ⟨OB, 0, none⟩) h]
structure KpO (OB VB : Nat) (A B : World) : Prop where
  size : A.heap.size ≤ B.heap.size
  keep : ∀ b o, A.heap[b]? = some o → o.isCells = true → b ≠ OB → b ≠ VB → rowB OB A ≠ some b → B.heap[b]? = some o
  row : ∀ g, rowB OB B = some g → rowB OB A = some g ∨ A.heap.size ≤ g
  ok : (∀ g, rowB OB A = some g → g < A.heap.size) → ∀ g, rowB OB B = some g → g < B.heap.size
/-- A block that a round keeps. -/
def Safe (OB VB : Nat) (W : World) (b : Nat) : Prop := b ≠ OB ∧ b ≠ VB ∧ rowB OB W ≠ some b
section
variable {OB VB : Nat} {A B C : World}
theorem KpO.refl (OB VB : Nat) (A : World) : KpO OB VB A A := ⟨Nat.le_refl _, fun _ _ h _ _ _ _ => h, fun _ h => .inl h, fun h => h⟩
theorem KpO.trans (h : KpO OB VB A B) (k : KpO OB VB B C) : KpO OB VB A C where
  size := Nat.le_trans h.size k.size
  keep := fun b o hb ho h1 h2 h3 => k.keep b o (h.keep b o hb ho h1 h2 h3) ho h1 h2 fun e => by
    rcases h.row b e with h4 | h4
    · exact h3 h4
    · have := (Array.getElem?_eq_some_iff.1 hb).1
      omega
  row := fun g hg => by
    rcases k.row g hg with h4 | h4
    · exact h.row g h4
    · exact .inr (Nat.le_trans h.size h4)
  ok := fun h0 => k.ok (h.ok h0)
theorem KpO.below (hO : OB < A.heap.size) (h : Below A.heap.size A B) : KpO OB VB A B where
  size := h.size
  keep := fun b o hb _ _ _ _ => (h.block b (Array.getElem?_eq_some_iff.1 hb).1).trans hb
  row := fun g hg => .inl (by rwa [rowB_same (h.block OB hO)] at hg)
  ok := fun h0 g hg => Nat.lt_of_lt_of_le (h0 g (by rwa [rowB_same (h.block OB hO)] at hg)) h.size
theorem KpO.put {w W : World} {l : Nat} {o o' : Obj} (hO : OB < w.heap.size) (hl : w.heap.size ≤ l) (h : W.heap[l]? = some o) (hc : o.isCells = false) : KpO OB VB W (W.putObj l o') where
  size := by simp
  keep := fun b o2 hb ho _ _ _ => by
    have hne : b ≠ l := fun e => by
      subst e
      rw [h] at hb
      cases hb
      rw [hc] at ho
      cases ho
    exact (World.putObj_heap_other (fun e => hne (by rw [e]))).trans hb
  row := fun g hg => .inl (by rwa [rowB_same (World.putObj_heap_other (by omega))] at hg)
  ok := fun h0 g hg => by
    have := h0 g (by rwa [rowB_same (World.putObj_heap_other (by omega))] at hg)
    simpa using this
theorem KpO.cell (h : KpO OB VB A B) {p : Addr} {v : Value} (hp : A.cell? p = some v) (hs : Safe OB VB A p.block) : B.cell? p = some v := by
  obtain ⟨o, ho, hc⟩ := cells_of_cell hp
  exact (World.cell?_of_block ((h.keep _ o ho hc hs.1 hs.2.1 hs.2.2).trans ho.symm)).trans hp
theorem KpO.safe (h : KpO OB VB A B) {b : Nat} (hb : b < A.heap.size) (hs : Safe OB VB A b) : Safe OB VB B b :=
  ⟨hs.1, hs.2.1, fun e => by
    rcases h.row b e with h4 | h4
    · exact hs.2.2 h4
    · omega⟩
theorem KpO.bs (h : KpO OB VB A B) {b : Nat} {x : Sp} (hx : Bs A b x) (hs : Safe OB VB A b) : Bs B b x := ⟨h.cell hx.c0 hs, h.cell hx.c1 hs, h.cell hx.c2 hs, h.cell hx.c3 hs⟩
theorem KpO.ss (h : KpO OB VB A B) {n₀ : Nat} {a : Option Addr} {l : List Sp} (hx : Ss A n₀ a l) (hs : ∀ b, b < n₀ → b ≠ OB → b ≠ VB → Safe OB VB A b) (hn : ∀ p, a = some p → p.block ≠ OB ∧ p.block ≠ VB) : Ss B n₀ a l := fun hl => by
  obtain ⟨b, o, e, hb, hc⟩ := hx hl
  refine ⟨b, o, e, hb, fun j x hj => ?_⟩
  obtain ⟨h1, h2⟩ := hn _ e
  have hsf := hs b hb h1 h2
  have q := hc j x hj
  exact ⟨h.cell q.c0 hsf, h.cell q.c1 hsf, h.cell q.c2 hsf, h.cell q.c3 hsf⟩
end
end Go.Proofs.YtmjneokjgcgchaaGreat
/-
  The program's own left: an iterator that reads a list.
-/
namespace Go.Proofs.YtmjneokjgcgchaaGreat
open Go.RowKit Go.Shelf
attribute [local go_sem] Oper.semAt_some

theorem leftG_stop {st : Bool} {s c : Sp} {cs : List Sp} {lo : Int} (h : ahS s c) : leftG st s lo (c :: cs) = if lo ≤ s.hi then [partS st s lo s.hi] else [] := by
  rw [leftG, if_pos h]
theorem leftG_cut {st : Bool} {s c : Sp} {cs : List Sp} {lo : Int} (h : ¬ ahS s c) (k : lo < c.lo) : leftG st s lo (c :: cs) = partS st s lo (c.lo - 1) :: leftG st s (c.hi + 1) cs := by
  rw [leftG, if_neg h, if_pos k]
  rfl
theorem leftG_skip {st : Bool} {s c : Sp} {cs : List Sp} {lo : Int} (h : ¬ ahS s c) (k : ¬ lo < c.lo) : leftG st s lo (c :: cs) = leftG st s (c.hi + 1) cs := by
  rw [leftG, if_neg h, if_neg k]
  rfl
set_option maxRecDepth 100000 in
set_option maxHeartbeats 8000000 in
theorem left1_in (m : Nat) (hm : 1 ≤ m) (st : Bool) (q sB cB tB n₀ : Nat) (A : Option Addr) (cap : Nat) (cs : List Sp) (s : Sp) (hl : cs.length ≤ 1048576) (hns : Nr s) (hnc : ∀ c ∈ cs, Nr c) (OB VB : Nat) (B0 : Nat) (J Jx : List Sp → World → Prop)
    (hJ : AbidesFrom B0 J)
    (hLn : ∀ p ∈ leftG st s s.lo cs, Nr p) (hY : ∀ pre x W, Nr x → J pre W → pre.length < (leftG st s s.lo cs).length → YieldAt Fence.wide (m - 1) Tryz.prog q #[sv x] W fun e W' =>
      (e = .returned (.bool true) ∧ J (pre ++ [x]) W' ∧ KpO OB VB W W') ∨ (e = .returned (.bool false) ∧ Jx (pre ++ [x]) W'))
    (W : World) (hs : Bs W sB s) (hc : W.cell? ⟨cB, 0, none⟩ = some (.slice A cs.length cap)) (ht : W.cell? ⟨tB, 0, none⟩ = some (.bool st)) (hA : Ss W n₀ A cs) (hO : OB < W.heap.size) (hV : VB < W.heap.size) (hok : ∀ g, rowB OB W = some g → g < W.heap.size) (hsB : Safe OB VB W sB) (htB : Safe OB VB W tB) (hSf : ∀ b, b < n₀ → Safe OB VB W b) (h0 : J [] W) :
    CallsIn Fence.wide m Tryz.prog 169 #[.func (.yield q) #[] #[], .pointer (some ⟨sB, 0, none⟩), .pointer (some ⟨cB, 0, none⟩), .pointer (some ⟨tB, 0, none⟩)] W fun e W' => (∃ v, e = .returned v) ∧
      ((∃ ys, leftG st s s.lo cs = ys ∧ J ys W') ∨ (∃ pre, pre <+: leftG st s s.lo cs ∧ Jx pre W')) := by
  obtain ⟨n, hn⟩ : ∃ n, n = cs.length := ⟨_, rfl⟩
  have HN := Lib.hid hn
  have HNC := Lib.hid hnc
  obtain ⟨L, hL⟩ : ∃ L, L = leftG st s s.lo cs := ⟨_, rfl⟩
  rw [← hL] at hY hLn ⊢
  have HLN := Lib.hid hLn
  clear hLn
  have HL0 := Lib.hid hL
  rw [← hn] at hl hc
  have HS : Hid (∀ w', KpO OB VB W w' → (w'.cell? ⟨sB, 0, none⟩ = some (.int .i64 s.n) ∧ w'.cell? ⟨sB, 1, none⟩ = some (.int .i64 s.lo) ∧ w'.cell? ⟨sB, 2, none⟩ = some (.int .i64 s.hi) ∧ w'.cell? ⟨sB, 3, none⟩ = some (.int .i64 s.to)) ∧ w'.cell? ⟨tB, 0, none⟩ = some (.bool st)) := Lib.hid fun w' hw => by
    have p := hw.bs hs hsB
    exact ⟨⟨p.c0, by simpa using p.c1, by simpa using p.c2, by simpa using p.c3⟩, hw.cell ht htB⟩
  have HAS : Hid (∀ w', KpO OB VB W w' → Ss w' n₀ A cs) := Lib.hid fun w' hw hn0 => by
    obtain ⟨b, o, e, hb, hc⟩ := hA hn0
    have hsf := hSf b hb
    exact ⟨b, o, e, hb, fun j x hj => ⟨hw.cell (hc j x hj).c0 hsf, hw.cell (hc j x hj).c1 hsf, hw.cell (hc j x hj).c2 hsf, hw.cell (hc j x hj).c3 hsf⟩⟩
  have HOK := Lib.hid hok
  clear hok
  clear hn hA hnc hL hs ht
  obtain ⟨⟨c0, c1, c2, c3⟩, c4⟩ := HS.out W (KpO.refl _ _ _)
  refine callsIn_of_wp Tryz.func169 rfl trivial ?_ rfl
  simp only [Tryz.ntmps169, List.size_toArray, List.length_cons, List.length_nil, Nat.reduceAdd, Nat.reduceSub, Array.replicate_succ, Array.replicate_zero, List.push_toArray, List.append_toArray, List.nil_append, List.cons_append]
  gi_wp2
  gi_loopw [5, 12] (fun lv i wr => ∃ (k : Nat) (lo : Int) (pre : List Sp), k ≤ n ∧ i = .int .i64 (k : Int) ∧ lv = .int .i64 lo ∧ 0 ≤ lo ∧ lo ≤ 4294967296 ∧ Hid (pre ++ leftG st s lo (cs.drop k) = L) ∧ J pre wr ∧ KpO OB VB W wr)
    (fun _ i _ => n - (intOf i).toNat)
  case atStart => exact ⟨0, s.lo, [], Nat.zero_le _, rfl, rfl, hns.l0, by have := hns.l1; omega, Lib.hid (by rw [HL0.out]; rfl), h0, KpO.refl _ _ _⟩
  case round =>
    clear c0 c1 c2 c3 c4 hc h0
    obtain ⟨k, lo, pre, hk, rfl, rfl, hlo0, hlo1, HL, hJs, hnx⟩ := hrel
    have hszr := hnx.size
    have hokr : ∀ g, rowB OB wr = some g → g < wr.heap.size := hnx.ok HOK.out
    have HOKR := Lib.hid hokr
    clear hokr
    by_cases hlt : k < n
    · have t0 : decide (k < n) = true := decide_eq_true hlt
      have hx := List.getElem?_eq_getElem (l := cs) (i := k) (by have := HN.out; omega)
      generalize cs[k]'(by have := HN.out; omega) = c at *
      obtain ⟨b, o, rfl, hb, ⟨y0, y1, y2, y3⟩⟩ := (HAS.out _ hnx).at hx
      have hd : cs.drop k = c :: cs.drop (k + 1) := by
        rw [List.drop_eq_getElem_cons (by have := HN.out; omega)]
        have := hx
        rw [List.getElem?_eq_getElem (by have := HN.out; omega)] at this
        injection this with this
        rw [this]
      rw [hd] at HL
      have hncc : Nr c := HNC.out c (List.mem_of_getElem? hx)
      have HX := Lib.hid hx
      clear hx hd
      have hbA : KpO OB VB W (wr.alloc (.cells #[.int .i64 c.n, .int .i64 c.lo, .int .i64 c.hi, .int .i64 c.to] 87)) := hnx.trans (KpO.below (by omega) ((Below.refl _ _).alloc (Nat.le_refl _) _))
      have hJA : J pre (wr.alloc (.cells #[.int .i64 c.n, .int .i64 c.lo, .int .i64 c.hi, .int .i64 c.to] 87)) := hJ pre wr _ none hJs (World.grownBy_alloc _ _ _) (fun r e => by cases e)
      have hszA : (wr.alloc (.cells #[.int .i64 c.n, .int .i64 c.lo, .int .i64 c.hi, .int .i64 c.to] 87)).heap.size = wr.heap.size + 1 := by simp
      have hcB1 : Bs (wr.alloc (.cells #[.int .i64 c.n, .int .i64 c.lo, .int .i64 c.hi, .int .i64 c.to] 87)) wr.heap.size c := Bs.new _ _ _
      have K1 := Lib.hid (fun W => ahead_any s c W)
      unfold sv at K1
      have HAA : Hid (∀ w', Below (wr.alloc (.cells #[.int .i64 c.n, .int .i64 c.lo, .int .i64 c.hi, .int .i64 c.to] 87)).heap.size (wr.alloc (.cells #[.int .i64 c.n, .int .i64 c.lo, .int .i64 c.hi, .int .i64 c.to] 87)) w' → (((w'.cell? ⟨sB, 0, none⟩ = some (.int .i64 s.n) ∧ w'.cell? ⟨sB, 1, none⟩ = some (.int .i64 s.lo) ∧ w'.cell? ⟨sB, 2, none⟩ = some (.int .i64 s.hi) ∧ w'.cell? ⟨sB, 3, none⟩ = some (.int .i64 s.to)) ∧ w'.cell? ⟨tB, 0, none⟩ = some (.bool st)) ∧ (w'.cell? ⟨wr.heap.size, 0, none⟩ = some (.int .i64 c.n) ∧ w'.cell? ⟨wr.heap.size, 1, none⟩ = some (.int .i64 c.lo) ∧ w'.cell? ⟨wr.heap.size, 2, none⟩ = some (.int .i64 c.hi) ∧ w'.cell? ⟨wr.heap.size, 3, none⟩ = some (.int .i64 c.to))) ∧ J pre w' ∧ KpO OB VB W w') := Lib.hid fun w' hw => by
        have p := hcB1.below hw (by omega)
        have hk := hbA.trans (KpO.below (VB := VB) (by omega) hw)
        exact ⟨⟨HS.out w' hk, p.c0, by simpa using p.c1, by simpa using p.c2, by simpa using p.c3⟩, hJ pre _ w' none hJA (gb_below hw none) (fun r e => by cases e), hk⟩
      obtain ⟨⟨⟨s0, s1, s2, s3⟩, s4⟩, z0, z1, z2, z3⟩ := (HAA.out (wr.alloc (.cells #[.int .i64 c.n, .int .i64 c.lo, .int .i64 c.hi, .int .i64 c.to] 87)) (Below.refl _ _)).1
      clear hbA hJA hcB1
      by_cases hah : ahS s c
      · rw [decide_eq_true hah] at K1
        have HAH := Lib.hid hah
        clear hah
        gi_wp2_with fail
        refine ⟨trivial, ?_⟩
        refine (callsIn_wide.2 (K1.out _)).mono ?_
        rintro e w1 ⟨rfl, hb1⟩
        obtain ⟨⟨⟨⟨x0, x1, x2, x3⟩, x4⟩, _⟩, hJ1, hn1⟩ := HAA.out w1 hb1
        clear s0 s1 s2 s3 s4 z0 z1 z2 z3 y0 y1 y2 y3
        by_cases hfin : lo ≤ s.hi
        · have hG : L = pre ++ [partS st s lo s.hi] := by rw [← HL.out, leftG_stop HAH.out, if_pos hfin]
          obtain ⟨px, hpx⟩ : ∃ px, px = partS st s lo s.hi := ⟨_, rfl⟩
          rw [← hpx] at hG
          have KP : Hid (∀ W, Calls Tryz.prog 170 #[.agg #[.int .i64 s.n, .int .i64 s.lo, .int .i64 s.hi, .int .i64 s.to], .int .i64 lo, .int .i64 s.hi, .bool st] W fun e w' => e = .returned (sv px) ∧ Below W.heap.size W w') := Lib.hid fun W => by rw [hpx]; exact part_any st s lo s.hi W hns hlo0 hlo1
          have HG := Lib.hid hG
          clear hG hpx
          gi_wp2_with fail
          refine ⟨trivial, ?_⟩
          refine (callsIn_wide.2 (KP.out _)).mono ?_
          rintro e w2 ⟨rfl, hb2⟩
          obtain ⟨fn, tmps, assign, body, hy, hR⟩   := hY pre px w2 (HLN.out px (by rw [HG.out]; simp)) (hJ pre _ w2 none hJ1 (gb_below hb2 none) (fun r e => by cases e)) (by rw [HG.out]; simp)
          gi_wp2
          refine hR.mono ?_
          rintro e W3 (⟨rfl, hJ3, hk3⟩ | ⟨rfl, hJx3⟩)
          · gi_wp2
            go_end0
            first | exact ⟨⟨_, rfl⟩, .inl ⟨_, HG.out, hJ3⟩⟩ | (rw [HG.out]; exact ⟨⟨_, rfl⟩, .inl hJ3⟩)
          · gi_wp2
            go_end0
            exact ⟨⟨_, rfl⟩, .inr ⟨pre ++ [px], by rw [HG.out]; exact List.prefix_refl _, hJx3⟩⟩
        · have hG : L = pre := by rw [← HL.out, leftG_stop HAH.out, if_neg hfin, List.append_nil]
          have HG := Lib.hid hG
          clear hG
          gi_wp2
          go_end0
          first | exact ⟨⟨_, rfl⟩, .inl ⟨_, HG.out, hJ1⟩⟩ | (rw [HG.out]; exact ⟨⟨_, rfl⟩, .inl hJ1⟩)
      · rw [decide_eq_false hah] at K1
        by_cases hlc : lo < c.lo
        · have t1 : decide (lo < c.lo) = true := decide_eq_true hlc
          have hLL := HL.out
          rw [leftG_cut hah hlc] at hLL
          obtain ⟨px, hpx⟩ : ∃ px, px = partS st s lo (c.lo - 1) := ⟨_, rfl⟩
          rw [← hpx] at hLL
          have KP : Hid (∀ W, Calls Tryz.prog 170 #[.agg #[.int .i64 s.n, .int .i64 s.lo, .int .i64 s.hi, .int .i64 s.to], .int .i64 lo, .int .i64 (c.lo - 1), .bool st] W fun e w' => e = .returned (sv px) ∧ Below W.heap.size W w') := Lib.hid fun W => by rw [hpx]; exact part_any st s lo (c.lo - 1) W hns hlo0 hlo1
          have HLL := Lib.hid hLL
          have hwr : IntKind.i64.wrap (c.lo - 1) = c.lo - 1 := IntWalk.i64_in _ (by have := hncc.l0; have := hncc.l1; omega)
          have hwh : IntKind.i64.wrap (c.hi + 1) = c.hi + 1 := IntWalk.i64_in _ (by have := hncc.h0; have := hncc.h1; omega)
          obtain ⟨_, _, n0, n1, _, _⟩ := hncc
          clear hah hlc hLL hpx
          gi_wp2_with fail
          refine ⟨trivial, ?_⟩
          refine (callsIn_wide.2 (K1.out _)).mono ?_
          rintro e w1 ⟨rfl, hb1⟩
          obtain ⟨⟨⟨⟨x0, x1, x2, x3⟩, x4⟩, v0, v1, v2, v3⟩, hJ1, hn1⟩ := HAA.out w1 hb1
          clear s0 s1 s2 s3 s4 z0 z1 z2 z3 y0 y1 y2 y3
          gi_wp2_with fail
          refine ⟨trivial, ?_⟩
          refine (callsIn_wide.2 (KP.out _)).mono ?_
          rintro e w2 ⟨rfl, hb2⟩
          obtain ⟨_, hJ2, hn2⟩ := HAA.out w2 (hb1.trans (hb2.mono hb1.size))
          have hw2 := Nat.le_trans hb1.size hb2.size
          obtain ⟨fn, tmps, assign, body, hy, hR⟩   := hY pre px w2 (HLN.out px (by rw [← HLL.out]; simp)) hJ2 (by rw [← HLL.out]; simp)
          clear x0 x1 x2 x3 x4 v0 v1 v2 v3
          gi_wp2
          refine hR.mono ?_
          rintro e W3 (⟨rfl, hJ3, hk3⟩ | ⟨rfl, hJx3⟩)
          · obtain ⟨⟨_, v0, v1, v2, v3⟩, _, hn2⟩ := HAA.out w2 (hb1.trans (hb2.mono hb1.size))
            have hsafe : Safe OB VB w2 wr.heap.size := ⟨by omega, by omega, fun e => by
              have hbw := hb1.trans (hb2.mono hb1.size)
              rw [rowB_same (hbw.block OB (by omega)), rowB_same (((Below.refl _ wr).alloc (Nat.le_refl _) _).block OB (by omega))] at e
              exact absurd (HOKR.out _ e) (Nat.lt_irrefl _)⟩
            have g2 := hk3.cell (p := ⟨wr.heap.size, 2, none⟩) v2 hsafe
            clear v0 v1 v2 v3
            gi_wp2
            go_roundw
            case rel => exact ⟨k + 1, c.hi + 1, pre ++ [px], by omega, by go_num, rfl, by omega, by omega, Lib.hid (by rw [List.append_assoc]; exact HLL.out), hJ3, hn2.trans hk3⟩
            case measure => simp [intOf]; omega
          · gi_wp2
            refine bodyPost_ret (results_none rfl _ _ _) rfl ?_
            exact ⟨⟨_, rfl⟩, .inr ⟨pre ++ [px], ⟨leftG st s (c.hi + 1) (cs.drop (k + 1)), by rw [List.append_assoc]; exact HLL.out⟩, hJx3⟩⟩
        · have t1 : decide (lo < c.lo) = false := decide_eq_false hlc
          have hLL := HL.out
          rw [leftG_skip hah hlc] at hLL
          have HLL := Lib.hid hLL
          have hwh : IntKind.i64.wrap (c.hi + 1) = c.hi + 1 := IntWalk.i64_in _ (by have := hncc.h0; have := hncc.h1; omega)
          obtain ⟨_, _, n0, n1, _, _⟩ := hncc
          clear hah hlc hLL
          gi_wp2_with fail
          refine ⟨trivial, ?_⟩
          refine (callsIn_wide.2 (K1.out _)).mono ?_
          rintro e w1 ⟨rfl, hb1⟩
          obtain ⟨⟨⟨⟨x0, x1, x2, x3⟩, x4⟩, v0, v1, v2, v3⟩, hJ1, hn1⟩ := HAA.out w1 hb1
          clear s0 s1 s2 s3 s4 z0 z1 z2 z3 y0 y1 y2 y3
          gi_wp2
          refine ⟨trivial, ?_⟩
          gi_wp2
          refine ⟨fun _ h => (by cases h), ?_⟩
          gi_wp2
          go_roundw
          case rel => exact ⟨k + 1, c.hi + 1, pre, by omega, by go_num, rfl, by omega, by omega, HLL, hJ1, hn1⟩
          case measure => simp [intOf]; omega
    · have t0 : decide (k < n) = false := decide_eq_false hlt
      obtain rfl : k = n := by omega
      obtain ⟨⟨x0, x1, x2, x3⟩, x4⟩ := HS.out wr hnx
      by_cases hfin : lo ≤ s.hi
      · have hG : L = pre ++ [partS st s lo s.hi] := by rw [← HL.out, show leftG st s lo (cs.drop k) = (if lo ≤ s.hi then [partS st s lo s.hi] else []) by rw [List.drop_eq_nil_of_le (by rw [← HN.out]; exact Nat.le_refl _), leftG], if_pos hfin]
        obtain ⟨px, hpx⟩ : ∃ px, px = partS st s lo s.hi := ⟨_, rfl⟩
        rw [← hpx] at hG
        have KP : Hid (∀ W, Calls Tryz.prog 170 #[.agg #[.int .i64 s.n, .int .i64 s.lo, .int .i64 s.hi, .int .i64 s.to], .int .i64 lo, .int .i64 s.hi, .bool st] W fun e w' => e = .returned (sv px) ∧ Below W.heap.size W w') := Lib.hid fun W => by rw [hpx]; exact part_any st s lo s.hi W hns hlo0 hlo1
        have HG := Lib.hid hG
        clear hG hpx
        gi_wp2_with fail
        refine ⟨trivial, ?_⟩
        refine (callsIn_wide.2 (KP.out _)).mono ?_
        rintro e w2 ⟨rfl, hb2⟩
        obtain ⟨fn, tmps, assign, body, hy, hR⟩   := hY pre px w2 (HLN.out px (by rw [HG.out]; simp)) (hJ pre _ w2 none hJs (gb_below hb2 none) (fun r e => by cases e)) (by rw [HG.out]; simp)
        gi_wp2
        refine hR.mono ?_
        rintro e W3 (⟨rfl, hJ3, hk3⟩ | ⟨rfl, hJx3⟩)
        · gi_wp2
          go_end0
          first | exact ⟨⟨_, rfl⟩, .inl ⟨_, HG.out, hJ3⟩⟩ | (rw [HG.out]; exact ⟨⟨_, rfl⟩, .inl hJ3⟩)
        · gi_wp2
          go_end0
          exact ⟨⟨_, rfl⟩, .inr ⟨pre ++ [px], by rw [HG.out]; exact List.prefix_refl _, hJx3⟩⟩
      · have hG : L = pre := by rw [← HL.out, show leftG st s lo (cs.drop k) = (if lo ≤ s.hi then [partS st s lo s.hi] else []) by rw [List.drop_eq_nil_of_le (by rw [← HN.out]; exact Nat.le_refl _), leftG], if_neg hfin, List.append_nil]
        have HG := Lib.hid hG
        clear hG
        gi_wp2
        go_end0
        first | exact ⟨⟨_, rfl⟩, .inl ⟨_, HG.out, hJs⟩⟩ | (rw [HG.out]; exact ⟨⟨_, rfl⟩, .inl hJs⟩)
set_option maxHeartbeats 1000000 in
theorem left_in (m : Nat) (s : Sp) (a : Option Addr) (len cap : Nat) (st : Bool) (w : World) :
    CallsIn Fence.wide m Tryz.prog 154 #[sv s, .slice a len cap, .bool st] w fun e w' => e = .returned (.func (.func 169) #[] #[.pointer (some ⟨w.heap.size, 0, none⟩), .pointer (some ⟨w.heap.size + 1, 0, none⟩), .pointer (some ⟨w.heap.size + 1 + 1, 0, none⟩)]) ∧ w' = ((w.alloc (.cells #[.int .i64 s.n, .int .i64 s.lo, .int .i64 s.hi, .int .i64 s.to] 87)).alloc (.cells #[.slice a len cap] 24)).alloc (.cells #[.bool st] 4) := by
  unfold sv
  refine callsIn_of_wp Tryz.func154 rfl trivial ?_ rfl
  simp only [Tryz.ntmps154, List.size_toArray, List.length_cons, List.length_nil, Nat.reduceAdd, Nat.reduceSub, Array.replicate_succ, Array.replicate_zero, List.push_toArray, List.append_toArray, List.nil_append, List.cons_append]
  gi_wp2
  go_ret
  exact ⟨rfl, rfl⟩
/-- Parts, small. -/
abbrev Pt := { x : Sp // Nr x }
theorem left_stops (m : Nat) (hm : 1 ≤ m) (st : Bool) (sB cB tB n₀ : Nat) (A : Option Addr) (cap : Nat) (cs : List Sp) (s : Sp) (hl : cs.length ≤ 1048576) (hns : Nr s) (hnc : ∀ c ∈ cs, Nr c) (hLn : ∀ p ∈ leftG st s s.lo cs, Nr p) (OB VB : Nat) (w : World) (hs : Bs w sB s) (hc : w.cell? ⟨cB, 0, none⟩ = some (.slice A cs.length cap)) (ht : w.cell? ⟨tB, 0, none⟩ = some (.bool st)) (hA : Ss w n₀ A cs) (hn₀ : n₀ ≤ w.heap.size) (hO : OB < w.heap.size) (hV : VB < w.heap.size) (hok : ∀ g, rowB OB w = some g → g < w.heap.size) (hsB : Safe OB VB w sB) (hsl : sB < w.heap.size) (hcl : cB < w.heap.size) (htB : Safe OB VB w tB) (htl : tB < w.heap.size) (hSf : ∀ b, b < n₀ → Safe OB VB w b) :
    SeqStopsK Fence.wide m Tryz.prog 169 #[.pointer (some ⟨sB, 0, none⟩), .pointer (some ⟨cB, 0, none⟩), .pointer (some ⟨tB, 0, none⟩)] (fun x : Pt => #[sv x.1]) (KpO OB VB) (fun ys => leftG st s s.lo cs = ys.map (·.1)) (fun _ => True) (leftG st s s.lo cs).length w := fun q J Jx W hW hJ _ hY h0 => by
  have hk : KpO OB VB w W := KpO.below hO hW
  refine (left1_in m hm st q sB cB tB n₀ A cap cs s hl hns hnc OB VB W.heap.size (fun pre W => ∃ p' : List Pt, p'.map (·.1) = pre ∧ J p' W) (fun pre W => ∃ p' : List Pt, p'.map (·.1) = pre ∧ Jx p' W) (fun pre X Y r ⟨p', e, h⟩ hg hr => ⟨p', e, hJ p' X Y r h hg hr⟩) hLn (fun pre x W hx ⟨p', e, h⟩ hlen => ?_) W (hk.bs hs hsB) ((hW.cell (p := ⟨cB, 0, none⟩) hcl).trans hc) ((hW.cell (p := ⟨tB, 0, none⟩) htl).trans ht) (hA.below (hW.mono hn₀)) (Nat.lt_of_lt_of_le hO hW.size) (Nat.lt_of_lt_of_le hV hW.size) (hk.ok hok) (hk.safe hsl hsB) (hk.safe htl htB) (fun b hb => hk.safe (by omega) (hSf b hb)) ⟨[], rfl, h0⟩).mono ?_
  · have hY1 := hY p' ⟨x, hx⟩ W h (by rw [← e, List.length_map] at hlen; exact hlen)
    refine hY1.mono fun e' W' h' => ?_
    rcases h' with ⟨h1, h2, h3⟩ | ⟨h1, h2⟩
    · exact .inl ⟨h1, ⟨p' ++ [⟨x, hx⟩], by rw [List.map_append, e]; rfl, h2⟩, h3⟩
    · exact .inr ⟨h1, ⟨p' ++ [⟨x, hx⟩], by rw [List.map_append, e]; rfl, h2⟩⟩
  · rintro e' W' ⟨h1, ⟨ys, h2, p', h3, h4⟩ | ⟨pre, _, p', _, h4⟩⟩
    · exact ⟨h1, .inl ⟨p', h2.trans h3.symm, h4⟩⟩
    · exact ⟨h1, .inr ⟨p', trivial, h4⟩⟩
end Go.Proofs.YtmjneokjgcgchaaGreat
/-
  The program's own addAhead.
-/
namespace Go.Proofs.YtmjneokjgcgchaaGreat
open Go.RowKit
attribute [local go_sem ↓] Go.wp_at_zero Go.wp_at_succ

theorem addL_nr {st : Bool} {o : List Sp} {x : Sp} (ho : ∀ y ∈ o, Nr y) (hx : Nr x) : ∀ y ∈ addL st o x, Nr y := by
  revert ho
  refine addL_ind (C := fun o r => (∀ y ∈ o, Nr y) → ∀ y ∈ r, Nr y) ?_ ?_ ?_
  · intro _ y hy
    rw [List.mem_singleton] at hy
    rw [hy]; exact hx
  · intro p e _ ho y hy
    rcases List.mem_append.1 hy with hy | hy
    · exact ho y (List.mem_append_left _ hy)
    · rw [List.mem_singleton] at hy
      subst hy
      obtain ⟨a, b, _, _, e, f⟩ := ho e (by simp)
      exact ⟨a, b, hx.h0, hx.h1, e, f⟩
  · intro p e _ ho y hy
    rcases List.mem_append.1 hy with hy | hy
    · exact ho y hy
    · rw [List.mem_singleton] at hy
      rw [hy]; exact hx
theorem addA_nr {st : Bool} {s : Sp} : ∀ {v o : List Sp}, (∀ y ∈ o, Nr y) → (∀ y ∈ v, Nr y) → (∀ y ∈ (addA st o v s).1, Nr y) ∧ (∀ y ∈ (addA st o v s).2, Nr y)
  | [], o, ho, hv => ⟨ho, hv⟩
  | x :: v, o, ho, hv => by
    rw [addA]
    split
    · exact addA_nr (addL_nr ho (hv x List.mem_cons_self)) (fun y hy => hv y (List.mem_cons_of_mem _ hy))
    · exact ⟨ho, hv⟩
/-- How long a slice is. -/
def slLen : Value → Nat
  | .slice _ n _ => n
  | _ => 0
/-- A row and the rest of a list. -/
def Ahd (w : World) (base : Nat) (v : Value) (q : List Sp × List Sp) (e : Ending) (w' : World) : Prop :=
  ∃ v' A c, e = .returned (.tuple #[v', .slice A q.2.length c]) ∧ q.2.length ≤ c ∧ Ss w' base A q.2 ∧ w'.ownsRow base 87 4 v' q.1.length (svs q.1) ∧ w.grownBy w' v.ownBlock ∧ (∀ g, v'.ownBlock = some g → v.ownBlock = some g ∨ w.heap.size ≤ g)
theorem own_lt {w : World} {base : Nat} {e : TypeId} {v : Value} {n g size : Nat} {xs : List Value} (h : w.ownsRow base e size v n xs) (hg : v.ownBlock = some g) : base ≤ g ∧ g < w.heap.size := by
  rcases h.2 with ⟨rfl, _⟩ | ⟨g', cap, cur, rfl, h1, hg', _⟩
  · cases hg
  · have e2 : g' = g := by simpa [Value.ownBlock] using hg
    subst e2
    exact ⟨h1, (Array.getElem?_eq_some_iff.1 hg').1⟩
theorem Ss.grown {w w' : World} {B : Nat} {A : Option Addr} {l : List Sp} {row : Option Nat} (h : Ss w B A l) (hg : w.grownBy w' row) (hB : B ≤ w.heap.size) (hr : ∀ g, row = some g → B ≤ g) : Ss w' B A l :=
  h.keep fun p hp => hg.cell_far p (by omega) (fun e => by have := hr _ e.symm; omega)
theorem Bs.grown {w w' : World} {b : Nat} {x : Sp} {row : Option Nat} (h : Bs w b x) (hg : w.grownBy w' row) (hb : b < w.heap.size) (hr : some b ≠ row) : Bs w' b x :=
  S4.keep h fun i => hg.cell_far ⟨b, i, none⟩ hb hr
set_option maxRecDepth 100000 in
set_option maxHeartbeats 4000000 in
theorem addAhead_any (st : Bool) (base : Nat) (v : Value) (A : Option Addr) (c : Nat) (o l : List Sp) (s : Sp) (w : World) (hown : w.ownsRow base 87 4 v o.length (svs o)) (hbase : base ≤ w.heap.size) (hA : Ss w base A l) (hc : l.length ≤ c) (hl : o.length + l.length ≤ 1073741824) (ho : ∀ y ∈ o, Nr y) (hv : ∀ y ∈ l, Nr y) :
    Calls Tryz.prog 153 #[v, .slice A l.length c, sv s, .bool st] w (Ahd w base v (addA st o l s)) := by
  obtain ⟨Q, hQ⟩ : ∃ Q, Q = addA st o l s := ⟨_, rfl⟩
  rw [← hQ]
  have hlt : ∀ g, v.ownBlock = some g → base ≤ g ∧ g < w.heap.size := fun g hg => own_lt hown hg
  have HLT := Lib.hid hlt
  have HOV := Lib.hid (And.intro ho hv)
  have H0 : Hid (addA st o l s = Q) := Lib.hid hQ.symm
  clear hQ hlt ho hv
  unfold sv
  go_enter Tryz.func153, Tryz.ntmps153
  go_wp2
  have hb0 : Below w.heap.size w (w.alloc (.cells #[.int .i64 s.n, .int .i64 s.lo, .int .i64 s.hi, .int .i64 s.to] 87)) := (Below.refl _ _).alloc (Nat.le_refl _) _
  have hbs : Bs (w.alloc (.cells #[.int .i64 s.n, .int .i64 s.lo, .int .i64 s.hi, .int .i64 s.to] 87)) w.heap.size s := Bs.new _ _ _
  have hsz : (w.alloc (.cells #[.int .i64 s.n, .int .i64 s.lo, .int .i64 s.hi, .int .i64 s.to] 87)).heap.size = w.heap.size + 1 := by simp
  have hown0 := own_belowS hown hb0 (Nat.le_refl _)
  have hA0 := hA.below (hb0.mono hbase)
  generalize w.alloc (.cells #[.int .i64 s.n, .int .i64 s.lo, .int .i64 s.hi, .int .i64 s.to] 87) = W0 at *
  clear hown hA
  go_loopw [0, 1] (fun a b wr => ∃ (o1 v1 : List Sp) (A1 : Option Addr) (c1 : Nat), Hid (addA st o1 v1 s = Q) ∧ b = .slice A1 v1.length c1 ∧ v1.length ≤ c1 ∧ Ss wr base A1 v1 ∧ wr.ownsRow base 87 4 a o1.length (svs o1) ∧ W0.grownBy wr v.ownBlock ∧ Hid (∀ g, a.ownBlock = some g → v.ownBlock = some g ∨ W0.heap.size ≤ g) ∧ o1.length + v1.length ≤ 1073741824 ∧ Hid ((∀ y ∈ o1, Nr y) ∧ (∀ y ∈ v1, Nr y))) (fun _ b _ => slLen b)
  case atStart => exact ⟨o, l, A, c, H0, rfl, hc, hA0, hown0, World.grownBy.refl _ _, Lib.hid (fun g hg => .inl hg), hl, HOV⟩
  case round =>
    clear hown0 hA0 H0 HOV hl hc
    obtain ⟨o1, v1, A1, c1, HQ, rfl, hc1, hA1, hown1, hgr, HF, hl1, HN1⟩ := hrel
    have hbs1 := hbs.grown hgr (by omega) (fun e => by have := HLT.out _ e.symm; omega)
    have hszr := hgr.size
    have hbr : base ≤ wr.heap.size := by omega
    have fin : ∀ W, Below wr.heap.size wr W → w.grownBy W v.ownBlock ∧ W.ownsRow base 87 4 u0 o1.length (svs o1) ∧ Ss W base A1 v1 := fun W hW => ⟨gb_trans (gb_trans (gb_below hb0 _) hgr (fun g e => .inl e)) (gb_below hW _) (fun g e => .inl e), own_belowS hown1 hW (Nat.le_refl _), hA1.below (hW.mono hbr)⟩
    have FIN := Lib.hid fin
    clear fin
    cases v1 with
    | nil =>
      go_wp2
      go_quiet (fail)
      go_wp2
      go_returns
      obtain ⟨f1, f2, f3⟩ := FIN.out (wr.drewN nq) (below_drewN (Below.refl _ _) _)
      have hq : Q = (o1, []) := HQ.out.symm
      rw [hq]
      exact ⟨_, _, _, rfl, hc1, f3, f2, f1, fun g hg => (HF.out g hg).imp id (by omega)⟩
    | cons x v2 =>
      obtain ⟨b, q, rfl, hbb, hx4⟩ := hA1.at (j := 0) (x := x) rfl
      rw [Nat.zero_mul, Nat.add_zero] at hx4
      have HH : Hid (∀ w', Below wr.heap.size wr w' → (w'.cell? ⟨b, q, none⟩ = some (.int .i64 x.n) ∧ w'.cell? ⟨b, q + 1, none⟩ = some (.int .i64 x.lo) ∧ w'.cell? ⟨b, q + 2, none⟩ = some (.int .i64 x.hi) ∧ w'.cell? ⟨b, q + 3, none⟩ = some (.int .i64 x.to)) ∧ w'.cell? ⟨w.heap.size, 0, none⟩ = some (.int .i64 s.n) ∧ w'.cell? ⟨w.heap.size, 1, none⟩ = some (.int .i64 s.lo) ∧ w'.cell? ⟨w.heap.size, 2, none⟩ = some (.int .i64 s.hi) ∧ w'.cell? ⟨w.heap.size, 3, none⟩ = some (.int .i64 s.to)) := Lib.hid fun w' hw => by
        have p := hx4.keep (w' := w') fun i => hw.cell (p := ⟨b, i, none⟩) (by show b < _; omega)
        have r := hbs1.below hw (by omega)
        exact ⟨⟨p.c0, p.c1, p.c2, p.c3⟩, r.c0, r.c1, r.c2, r.c3⟩
      have K1 := Lib.hid (fun W => ahead_any x s W)
      have z0 : Below wr.heap.size wr wr.drew := (Below.refl _ _).drew
      have hl2 : (x :: v2).length = v2.length + 1 := rfl
      rw [hl2] at hl1 hc1 ⊢
      unfold sv at K1
      by_cases hah : ahS x s
      · rw [decide_eq_true hah] at K1
        have hq2 : addA st (addL st o1 x) v2 s = Q := by
          have := HQ.out
          rwa [addA, if_pos hah] at this
        have HQ2 := Lib.hid hq2
        clear hah hq2 hx4 hbs1 hl2
        go_wp2_with fail
        go_region_held (fun w' => (w'.cell? ⟨b, q, none⟩ = some (.int .i64 x.n) ∧ w'.cell? ⟨b, q + 1, none⟩ = some (.int .i64 x.lo) ∧ w'.cell? ⟨b, q + 2, none⟩ = some (.int .i64 x.hi) ∧ w'.cell? ⟨b, q + 3, none⟩ = some (.int .i64 x.to)) ∧ w'.cell? ⟨w.heap.size, 0, none⟩ = some (.int .i64 s.n) ∧ w'.cell? ⟨w.heap.size, 1, none⟩ = some (.int .i64 s.lo) ∧ w'.cell? ⟨w.heap.size, 2, none⟩ = some (.int .i64 s.hi) ∧ w'.cell? ⟨w.heap.size, 3, none⟩ = some (.int .i64 s.to))
          (first | with_reducible exact HH.out _ z8 | with_reducible exact HH.out _ z0)
          ((go_at_call 104; with_reducible refine (K1.out _).mono ?_; rintro e W1 ⟨rfl, y8⟩; have z8 := z0.trans (y8.mono z0.size)))
        all_goals
          obtain ⟨f1, f2, f3⟩ := FIN.out _ z8
          obtain ⟨⟨x0, x1, x2, x3⟩, y0, y1, y2, y3⟩ := HH.out _ z8
          have hnx : Nr x := HN1.out.2 x List.mem_cons_self
          have K2 := Lib.hid (add_any st base u0 o1 x W1 f2 (by have := z8.size; omega) (by omega) HN1.out.1 hnx)
          unfold sv at K2
          have G1 : Hid (W0.grownBy W1 v.ownBlock) := Lib.hid (gb_trans hgr (gb_below z8 _) (fun g e => .inl e))
          have hs1 := z8.size
          clear f1 f2 hnx
          go_wp2_with fail
          refine K2.out.mono ?_
          rintro e W2 ⟨v2', rfl, h1, h2, h3⟩
          have hA2 := f3.grown h2 (by omega) (fun g hg => by rcases HF.out g hg with h | h; exact (HLT.out g h).1; omega)
          have hdr := hA2.drop 1
          clear x0 x1 x2 x3 y0 y1 y2 y3 f3
          go_wp2
          refine ⟨⟨addL st o1 x, v2, _, _, HQ2, rfl, by omega, ?_, h1, gb_trans G1.out h2 (fun g e => HF.out g e), Lib.hid (fun g hg => ?_), ?_, Lib.hid ⟨addL_nr HN1.out.1 (HN1.out.2 x List.mem_cons_self), fun y hy => HN1.out.2 y (List.mem_cons_of_mem _ hy)⟩⟩, by simp [slLen]⟩
          · split
            · obtain rfl : v2 = [] := List.eq_nil_of_length_eq_zero (by omega)
              exact Ss.nil
            · simpa using hdr
          · rcases h3 g hg with h | h
            · exact HF.out g h
            · right; omega
          · have := addL_length (st := st) o1 x
            omega
      · rw [decide_eq_false hah] at K1
        have hq2 : (o1, x :: v2) = Q := by
          have := HQ.out
          rwa [addA, if_neg hah] at this
        have HQ2 := Lib.hid hq2
        clear hah hq2 hx4 hbs1 hl2
        go_wp2_with fail
        go_region_held (fun w' => (w'.cell? ⟨b, q, none⟩ = some (.int .i64 x.n) ∧ w'.cell? ⟨b, q + 1, none⟩ = some (.int .i64 x.lo) ∧ w'.cell? ⟨b, q + 2, none⟩ = some (.int .i64 x.hi) ∧ w'.cell? ⟨b, q + 3, none⟩ = some (.int .i64 x.to)) ∧ w'.cell? ⟨w.heap.size, 0, none⟩ = some (.int .i64 s.n) ∧ w'.cell? ⟨w.heap.size, 1, none⟩ = some (.int .i64 s.lo) ∧ w'.cell? ⟨w.heap.size, 2, none⟩ = some (.int .i64 s.hi) ∧ w'.cell? ⟨w.heap.size, 3, none⟩ = some (.int .i64 s.to))
          (first | with_reducible exact HH.out _ z8 | with_reducible exact HH.out _ z0)
          ((go_at_call 104; with_reducible refine (K1.out _).mono ?_; rintro e W1 ⟨rfl, y8⟩; have z8 := z0.trans (y8.mono z0.size)))
        all_goals
          go_wp2
          go_returns
          obtain ⟨f1, f2, f3⟩ := FIN.out _ z8
          rw [← HQ2.out]
          exact ⟨_, _, _, rfl, hc1, f3, f2, f1, fun g hg => (HF.out g hg).imp id (by omega)⟩
end Go.Proofs.YtmjneokjgcgchaaGreat
/-
  What memory holds while one table is put over another.
-/
namespace Go.Proofs.YtmjneokjgcgchaaGreat
open Go.RowKit

/-- The row that is made, the rest of the one above, and step, in their boxes. -/
structure Ov (w : World) (st : Bool) (q : List Sp × List Sp) (W : World) : Prop where
  bel : Below w.heap.size w W
  sz : w.heap.size + 4 ≤ W.heap.size
  stp : Boxed W (w.heap.size + 1) 4 (.bool st)
  row : ∃ v, Boxed W (w.heap.size + 3) 24 v ∧ W.ownsRow w.heap.size 87 4 v q.1.length (svs q.1) ∧ (∀ g, v.ownBlock = some g → w.heap.size + 2 ≤ g ∧ g ≠ w.heap.size + 3)
  ovr : ∃ A c, Boxed W w.heap.size 24 (.slice A q.2.length c) ∧ q.2.length ≤ c ∧ Ss W w.heap.size A q.2
/-- What a step changes: the boxes OB and VB, and the row. -/
structure Eff (OB VB : Nat) (A B : World) : Prop where
  size : A.heap.size ≤ B.heap.size
  keep : ∀ b, b < A.heap.size → b ≠ OB → b ≠ VB → rowB OB A ≠ some b → B.heap[b]? = A.heap[b]?
  row : ∀ g, rowB OB B = some g → rowB OB A = some g ∨ A.heap.size ≤ g
  ok : (∀ g, rowB OB A = some g → g < A.heap.size) → ∀ g, rowB OB B = some g → g < B.heap.size
section
variable {OB VB : Nat} {A B C : World}
theorem Eff.trans (h : Eff OB VB A B) (k : Eff OB VB B C) : Eff OB VB A C where
  size := Nat.le_trans h.size k.size
  keep := fun b hb h1 h2 h3 => (k.keep b (Nat.lt_of_lt_of_le hb h.size) h1 h2 fun e => by
    rcases h.row b e with h4 | h4
    · exact h3 h4
    · omega).trans (h.keep b hb h1 h2 h3)
  row := fun g hg => by
    rcases k.row g hg with h4 | h4
    · exact h.row g h4
    · exact .inr (Nat.le_trans h.size h4)
  ok := fun h0 => k.ok (h.ok h0)
theorem Eff.below (hO : OB < A.heap.size) (h : Below A.heap.size A B) : Eff OB VB A B where
  size := h.size
  keep := fun b hb _ _ _ => h.block b hb
  row := fun g hg => .inl (by rwa [rowB_same (h.block OB hO)] at hg)
  ok := fun h0 g hg => Nat.lt_of_lt_of_le (h0 g (by rwa [rowB_same (h.block OB hO)] at hg)) h.size
theorem Eff.kp (h : Eff OB VB A B) : KpO OB VB A B := ⟨h.size, fun b _ hb _ h1 h2 h3 => (h.keep b (Array.getElem?_eq_some_iff.1 hb).1 h1 h2 h3).trans hb, h.row, h.ok⟩
end
section
variable {w W : World} {st : Bool} {q : List Sp × List Sp}
theorem Ov.ok (h : Ov w st q W) : ∀ g, rowB (w.heap.size + 3) W = some g → w.heap.size + 2 ≤ g ∧ g ≠ w.heap.size + 3 ∧ g < W.heap.size := fun g hg => by
  obtain ⟨v, hb, ho, hv⟩ := h.row
  rw [rowB_of hb.cell] at hg
  exact ⟨(hv g hg).1, (hv g hg).2, (own_lt ho hg).2⟩
theorem Ov.cells (h : Ov w st q W) {g : Nat} (hg : rowB (w.heap.size + 3) W = some g) : ∃ o : Obj, W.heap[g]? = some o ∧ o.isCells = true := by
  obtain ⟨v, hb, ho, hv⟩ := h.row
  rw [rowB_of hb.cell] at hg
  rcases ho.2 with ⟨rfl, _⟩ | ⟨g', cap, cur, rfl, h1, hg', _⟩
  · cases hg
  · have e2 : g' = g := by simpa [Value.ownBlock] using hg
    subst e2
    exact ⟨_, hg', rfl⟩
/-- What is no cells stays. -/
theorem Ov.noncells (h : Ov w st q W) {W2 : World} (he : Eff (w.heap.size + 3) w.heap.size W W2) {b : Nat} {o : Obj} (hb : W.heap[b]? = some o) (ho : o.isCells = false) : W2.heap[b]? = some o := by
  obtain ⟨v, h1, _, _⟩ := h.row
  obtain ⟨A, c, h2, _, _⟩ := h.ovr
  have n1 : b ≠ w.heap.size + 3 := fun e => by
    subst e
    rw [show W.heap[w.heap.size + 3]? = _ from h1] at hb
    cases hb
    cases ho
  have n2 : b ≠ w.heap.size := fun e => by
    subst e
    rw [show W.heap[w.heap.size]? = _ from h2] at hb
    cases hb
    cases ho
  refine (he.keep b (Array.getElem?_eq_some_iff.1 hb).1 n1 n2 fun e => ?_).trans hb
  obtain ⟨o2, e1, e2⟩ := h.cells e
  rw [hb] at e1
  cases e1
  rw [ho] at e2
  cases e2
theorem Ov.keepsFrom (h : Ov w st q W) {W2 : World} (he : Eff (w.heap.size + 3) w.heap.size W W2) (B : Nat) : KeepsFrom B W W2 := ⟨he.size, fun _ _ _ h0 h1 => h.noncells he h0 h1⟩
theorem Ov.safe (h : Ov w st q W) {b : Nat} (hb : b < w.heap.size ∨ b = w.heap.size + 1) : Safe (w.heap.size + 3) w.heap.size W b := ⟨by omega, by omega, fun e => by have := h.ok b e; omega⟩
theorem Ov.below (h : Ov w st q W) {W2 : World} (hb : Below W.heap.size W W2) : Ov w st q W2 where
  bel := h.bel.trans (hb.mono h.bel.size)
  sz := Nat.le_trans h.sz hb.size
  stp := (hb.block _ (by have := h.sz; omega)).trans h.stp
  row := by
    obtain ⟨v, h1, h2, h3⟩ := h.row
    exact ⟨v, (hb.block _ (by have := h.sz; omega)).trans h1, own_belowS h2 hb (Nat.le_refl _), h3⟩
  ovr := by
    obtain ⟨A, c, h1, h2, h3⟩ := h.ovr
    exact ⟨A, c, (hb.block _ (by have := h.sz; omega)).trans h1, h2, h3.below (hb.mono h.bel.size)⟩
/-- It speaks of cells alone. -/
theorem Ov.own {β : Type} {B : Nat} (hB : w.heap.size ≤ B) (f : β → List Sp × List Sp) : OwnFrom B (fun s W => Ov w st (f s) W) := fun s X Y r h hg hr => by
  have hr' : ∀ k, r = some k → ∃ o : Obj, X.heap[k]? = some o ∧ o.isCells = false := fun k e => (hr k e).2
  refine ⟨h.bel.grown hg h.bel.size (fun k e => Nat.le_trans hB (hr k e).1), Nat.le_trans h.sz hg.size, boxed_own _ _ (fun (_ : Unit) => Value.bool st) () X Y r h.stp hg hr', ?_, ?_⟩
  · obtain ⟨v, h1, h2, h3⟩ := h.row
    refine ⟨v, boxed_own _ _ (fun (_ : Unit) => v) () X Y r h1 hg hr', ⟨h2.1, ?_⟩, h3⟩
    rcases h2.2 with hn | ⟨g, cap, cur, rfl, k1, k2, rest⟩
    · exact .inl hn
    · refine .inr ⟨g, cap, cur, rfl, k1, ?_, rest⟩
      refine (hg.block g (Array.getElem?_eq_some_iff.1 k2).1 fun e => ?_).trans k2
      obtain ⟨o, ho, hc⟩ := hr' g e.symm
      rw [k2] at ho
      cases ho
      cases hc
  · obtain ⟨A, c, h1, h2, h3⟩ := h.ovr
    exact ⟨A, c, boxed_own _ _ (fun (_ : Unit) => Value.slice A (f s).2.length c) () X Y r h1 hg hr', h2, h3.grown hg h.bel.size (fun g e => Nat.le_trans hB (hr g e).1)⟩
theorem Ss.setCell {W : World} {n₀ : Nat} {A : Option Addr} {l : List Sp} (h : Ss W n₀ A l) {b : Nat} (hb : n₀ ≤ b) (u : Value) : Ss (W.setCell ⟨b, 0, none⟩ u) n₀ A l :=
  h.keep fun p hp => World.cell?_of_block (heap_setCell_other W ⟨b, 0, none⟩ p.block u (by show p.block ≠ b; omega))
theorem Ov.step1 (h : Ov w st q W) {v : Value} (hv : Boxed W (w.heap.size + 3) 24 v) {q' : List Sp × List Sp} {v' : Value} {A' : Option Addr} {c' : Nat} {W1 : World} (h2 : q'.2.length ≤ c') (h3 : Ss W1 w.heap.size A' q'.2) (h4 : W1.ownsRow w.heap.size 87 4 v' q'.1.length (svs q'.1)) (h5 : W.grownBy W1 v.ownBlock) (h6 : ∀ g, v'.ownBlock = some g → v.ownBlock = some g ∨ W.heap.size ≤ g) :
    Ov w st q' ((W1.setCell ⟨w.heap.size + 3, 0, none⟩ v').setCell ⟨w.heap.size, 0, none⟩ (.slice A' q'.2.length c')) ∧ Eff (w.heap.size + 3) w.heap.size W ((W1.setCell ⟨w.heap.size + 3, 0, none⟩ v').setCell ⟨w.heap.size, 0, none⟩ (.slice A' q'.2.length c')) := by
  have hsz := h.sz
  have hsz1 := h5.size
  have hok : ∀ g, v.ownBlock = some g → w.heap.size + 2 ≤ g ∧ g ≠ w.heap.size + 3 := fun g hg => by
    have := h.ok g (by rw [rowB_of hv.cell, hg])
    exact ⟨this.1, this.2.1⟩
  have hok' : ∀ g, v'.ownBlock = some g → w.heap.size + 2 ≤ g ∧ g ≠ w.heap.size + 3 := fun g hg => by
    rcases h6 g hg with k | k
    · exact hok g k
    · omega
  have ne : ∀ b, b < w.heap.size + 2 ∨ b = w.heap.size + 3 → some b ≠ v.ownBlock := fun b hb e => by have := hok b e.symm; omega
  have ne' : ∀ b, b < w.heap.size + 2 ∨ b = w.heap.size + 3 → v'.ownBlock ≠ some b := fun b hb e => by have := hok' b e; omega
  have b1 : Boxed W1 (w.heap.size + 3) 24 v := hv.kept h5 (ne _ (.inr rfl))
  obtain ⟨A, c, b2, _, _⟩ := h.ovr
  have b2 := b2.kept h5 (ne _ (by omega))
  have b3 := h.stp.kept h5 (ne _ (by omega))
  have hO := (b1.set v').other (B' := w.heap.size) (by omega) (.slice A' q'.2.length c')
  have hbel : Below w.heap.size w W1 := h.bel.grown h5 h.bel.size (fun g e => by have := hok g e; omega)
  refine ⟨⟨(hbel.setCell (p := ⟨w.heap.size + 3, 0, none⟩) (by show w.heap.size ≤ w.heap.size + 3; omega) _).setCell (p := ⟨w.heap.size, 0, none⟩) (Nat.le_refl _) _, by simp; omega, (b3.other (by omega) _).other (by omega) _, ⟨v', hO, ownsRow_setCell_other (ownsRow_setCell_other h4 (ne' _ (.inr rfl)) _) (ne' _ (by show w.heap.size < _ ∨ _; omega)) _, hok'⟩, ⟨A', c', (b2.other (by omega) _).set _, h2, (h3.setCell (by omega) _).setCell (Nat.le_refl _) _⟩⟩, ⟨by simp; omega, fun b hb n1 n2 n3 => ?_, fun g hg => ?_, fun _ g hg => ?_⟩⟩
  · rw [rowB_of hv.cell] at n3
    rw [heap_setCell_other _ _ _ _ (show b ≠ w.heap.size from n2), heap_setCell_other _ _ _ _ (show b ≠ w.heap.size + 3 from n1)]
    exact h5.block b hb (fun e => n3 e.symm)
  · rw [rowB_of hO.cell] at hg
    rw [rowB_of hv.cell]
    exact h6 g hg
  · rw [rowB_of hO.cell] at hg
    simpa using (own_lt h4 hg).2
theorem Ov.step2 (h : Ov w st q W) {v : Value} (hv : Boxed W (w.heap.size + 3) 24 v) {o' : List Sp} {v' : Value} {W1 : World} (h4 : W1.ownsRow w.heap.size 87 4 v' o'.length (svs o')) (h5 : W.grownBy W1 v.ownBlock) (h6 : ∀ g, v'.ownBlock = some g → v.ownBlock = some g ∨ W.heap.size ≤ g) :
    Ov w st (o', q.2) (W1.setCell ⟨w.heap.size + 3, 0, none⟩ v') ∧ Eff (w.heap.size + 3) w.heap.size W (W1.setCell ⟨w.heap.size + 3, 0, none⟩ v') := by
  have hsz := h.sz
  have hsz1 := h5.size
  have hok : ∀ g, v.ownBlock = some g → w.heap.size + 2 ≤ g ∧ g ≠ w.heap.size + 3 := fun g hg => by
    have := h.ok g (by rw [rowB_of hv.cell, hg])
    exact ⟨this.1, this.2.1⟩
  have hok' : ∀ g, v'.ownBlock = some g → w.heap.size + 2 ≤ g ∧ g ≠ w.heap.size + 3 := fun g hg => by
    rcases h6 g hg with k | k
    · exact hok g k
    · omega
  have ne : ∀ b, b < w.heap.size + 2 ∨ b = w.heap.size + 3 → some b ≠ v.ownBlock := fun b hb e => by have := hok b e.symm; omega
  have ne' : ∀ b, b < w.heap.size + 2 ∨ b = w.heap.size + 3 → v'.ownBlock ≠ some b := fun b hb e => by have := hok' b e; omega
  have b1 : Boxed W1 (w.heap.size + 3) 24 v := hv.kept h5 (ne _ (.inr rfl))
  obtain ⟨A, c, b2, hc, hA⟩ := h.ovr
  have b2 := b2.kept h5 (ne _ (by omega))
  have b3 := h.stp.kept h5 (ne _ (by omega))
  have hO := b1.set v'
  have hbel : Below w.heap.size w W1 := h.bel.grown h5 h.bel.size (fun g e => by have := hok g e; omega)
  refine ⟨⟨hbel.setCell (p := ⟨w.heap.size + 3, 0, none⟩) (by show w.heap.size ≤ w.heap.size + 3; omega) _, by simp; omega, b3.other (by omega) _, ⟨v', hO, ownsRow_setCell_other h4 (ne' _ (.inr rfl)) _, hok'⟩, ⟨A, c, b2.other (by omega) _, hc, (hA.grown h5 h.bel.size (fun g e => by have := hok g e; omega)).setCell (by omega) _⟩⟩, ⟨by simp; omega, fun b hb n1 n2 n3 => ?_, fun g hg => ?_, fun _ g hg => ?_⟩⟩
  · rw [rowB_of hv.cell] at n3
    rw [heap_setCell_other _ _ _ _ (show b ≠ w.heap.size + 3 from n1)]
    exact h5.block b hb (fun e => n3 e.symm)
  · rw [rowB_of hO.cell] at hg
    rw [rowB_of hv.cell]
    exact h6 g hg
  · rw [rowB_of hO.cell] at hg
    simpa using (own_lt h4 hg).2
end
end Go.Proofs.YtmjneokjgcgchaaGreat
/-
  The program's own overlay: one table of two, the second of which overrides.
-/
namespace Go.Proofs.YtmjneokjgcgchaaGreat
open Go.RowKit Go.Shelf
attribute [local go_sem] Oper.semAt_some

section
variable {st : Bool}
theorem stepP_lens (q : List Sp × List Sp) (p : Sp) : (stepP st q p).1.length + (stepP st q p).2.length ≤ q.1.length + q.2.length + 1 ∧ (stepP st q p).2.length ≤ q.2.length := by
  have h1 := addA_lens (st := st) (s := p) (v := q.2) (o := q.1)
  have h2 := addL_length (st := st) (addA st q.1 q.2 p).1 p
  show (addL st (addA st q.1 q.2 p).1 p).length + (addA st q.1 q.2 p).2.length ≤ _ ∧ (addA st q.1 q.2 p).2.length ≤ _
  omega
theorem foldP_lens : ∀ (P : List Sp) (q : List Sp × List Sp), (P.foldl (stepP st) q).1.length + (P.foldl (stepP st) q).2.length ≤ q.1.length + q.2.length + P.length ∧ (P.foldl (stepP st) q).2.length ≤ q.2.length
  | [], q => ⟨Nat.le_refl _, Nat.le_refl _⟩
  | p :: P, q => by
    have h1 := stepP_lens (st := st) q p
    have h2 := foldP_lens P (stepP st q p)
    rw [List.foldl_cons, List.length_cons]
    omega
theorem stepS_lens (q : List Sp × List Sp) (s : Sp) : (stepS st q s).1.length + (stepS st q s).2.length ≤ q.1.length + q.2.length + q.2.length + 1 ∧ (stepS st q s).2.length ≤ q.2.length := by
  have h1 := addA_lens (st := st) (s := s) (v := q.2) (o := q.1)
  have h2 := leftG_length (st := st) s (addA st q.1 q.2 s).2 s.lo
  have h3 := foldP_lens (st := st) (leftG st s s.lo (addA st q.1 q.2 s).2) (addA st q.1 q.2 s)
  unfold stepS
  omega
/-- All small. -/
def Nq (q : List Sp × List Sp) : Prop := (∀ y ∈ q.1, Nr y) ∧ (∀ y ∈ q.2, Nr y)
theorem stepP_nr {q : List Sp × List Sp} {p : Sp} (h : Nq q) (hp : Nr p) : Nq (stepP st q p) := by
  have h1 := addA_nr (st := st) (s := p) h.1 h.2
  exact ⟨addL_nr h1.1 hp, h1.2⟩
theorem foldP_nr : ∀ (P : List Pt) (q : List Sp × List Sp), Nq q → Nq ((P.map (·.1)).foldl (stepP st) q)
  | [], _, h => h
  | p :: P, q, h => by
    rw [List.map_cons, List.foldl_cons]
    exact foldP_nr P _ (stepP_nr h p.2)
theorem Iv.nq {q : List Sp × List Sp} {T : List Sp} (h : Iv st q.1 q.2 T) : Nq q := ⟨fun y hy => Sn.nr (h.co.1 y hy), fun y hy => Sn.nr (h.cv.1 y hy)⟩
theorem Iv.sts {T : List Sp} : ∀ (k : Nat) (o v : List Sp), Iv st o v T → Iv st ((T.take k).foldl (stepS st) (o, v)).1 ((T.take k).foldl (stepS st) (o, v)).2 (T.drop k) := by
  induction T with
  | nil => intro k o v h; simpa using h
  | cons s T ih =>
    intro k o v h
    cases k with
    | zero => exact h
    | succ k =>
      rw [List.take_succ_cons, List.foldl_cons, List.drop_succ_cons]
      exact ih k _ _ h.one.1
end
/-- The marks of loops that are over. -/
structure Mk (B : Nat) (w : World) (ds : List Deferred) (W : World) : Prop where
  all : ∀ d ∈ ds, ∃ D, d = { target := .collected D, args := #[] } ∧ w.heap.size ≤ D ∧ D < B ∧ W.heap[D]? = some (.deferred (some []))
  pw : ds.Pairwise (· ≠ ·)
section
variable {w W W2 : World} {ds : List Deferred} {B : Nat} {st : Bool} {q : List Sp × List Sp}
theorem Mk.eff (h : Mk B w ds W) (ho : Ov w st q W) (he : Eff (w.heap.size + 3) w.heap.size W W2) : Mk B w ds W2 :=
  ⟨fun d hd => by
    obtain ⟨D, h1, h2, h3, h4⟩ := h.all d hd
    exact ⟨D, h1, h2, h3, ho.noncells he h4 rfl⟩, h.pw⟩
theorem Mk.more (h : Mk B w ds W) {B' : Nat} (hB : B ≤ B') : Mk B' w ds W :=
  ⟨fun d hd => by
    obtain ⟨D, h1, h2, h3, h4⟩ := h.all d hd
    exact ⟨D, h1, h2, Nat.lt_of_lt_of_le h3 hB, h4⟩, h.pw⟩
theorem Mk.own {β : Type} : OwnFrom B (fun (_ : β) W => Mk B w ds W) := fun _ X Y r h hg hr =>
  ⟨fun d hd => by
    obtain ⟨D, h1, h2, h3, h4⟩ := h.all d hd
    exact ⟨D, h1, h2, h3, (hg.block D (Array.getElem?_eq_some_iff.1 h4).1 (fun e => by have := (hr D e.symm).1; omega)).trans h4⟩, h.pw⟩
theorem Mk.cons (h : Mk B w ds W) {D : Nat} (h1 : B ≤ D) (h2 : w.heap.size ≤ D) (h3 : W.heap[D]? = some (.deferred (some []))) : Mk W.heap.size w ({ target := .collected D, args := #[] } :: ds) W :=
  ⟨fun d hd => by
    rcases List.mem_cons.1 hd with rfl | hd
    · exact ⟨D, rfl, h2, (Array.getElem?_eq_some_iff.1 h3).1, h3⟩
    · obtain ⟨E, k1, k2, _, k4⟩ := h.all d hd
      exact ⟨E, k1, k2, (Array.getElem?_eq_some_iff.1 k4).1, k4⟩,
   List.pairwise_cons.2 ⟨fun d hd e => by
    obtain ⟨E, k1, _, k3, _⟩ := h.all d hd
    rw [k1] at e
    injection e with e _
    injection e with e
    omega, h.pw⟩⟩
/-- Out of a function with marks. -/
theorem leaves_marks {F : Fence} {n : Nat} {P : Program} {fn : Func} {tmps : Array Value} {R : Ending → World → Prop} {Z : World → Prop} {u : FrameMode} (hu : u ≠ .run) (hz : ∀ (W : World) (D : Nat), w.heap.size ≤ D → W.heap[D]? = some (.deferred (some [])) → Z W → Z (W.putObj D (.deferred none))) (hend : ∀ W, Z W → LeavesInM F n P fn tmps R [] u W) :
    ∀ (ds : List Deferred) (W : World), Mk B w ds W → Z W → LeavesInM F n P fn tmps R ds u W := by
  intro ds
  induction ds with
  | nil => exact fun W _ h => hend W h
  | cons d ds ih =>
    intro W hm hW
    obtain ⟨D, rfl, h2, h3, h4⟩ := hm.all d List.mem_cons_self
    refine ⟨hu, .inl ⟨D, _, rfl, run_takeDeferred h4, ih _ ⟨fun e he => ?_, (List.pairwise_cons.1 hm.pw).2⟩ (hz W D h2 h4 hW)⟩⟩
    obtain ⟨E, k1, k2, k3, k4⟩ := hm.all e (List.mem_cons_of_mem _ he)
    have hne : E ≠ D := fun e2 => (List.pairwise_cons.1 hm.pw).1 e he (by rw [k1, e2])
    exact ⟨E, k1, k2, k3, (World.putObj_heap_other hne).trans k4⟩
end
theorem Ov.ss {w : World} {st : Bool} {q q' : List Sp × List Sp} {W1 W2 : World} (h1 : Ov w st q W1) (h2 : Ov w st q' W2) {A : Option Addr} {l : List Sp} (h : Ss W1 w.heap.size A l) : Ss W2 w.heap.size A l :=
  h.keep fun _ hp => (h2.bel.cell hp).trans (h1.bel.cell hp).symm
theorem Ov.kept {w : World} {st : Bool} {q : List Sp × List Sp} {W W1 : World} {v : Value} (h : Ov w st q W) (hv : Boxed W (w.heap.size + 3) 24 v) (h5 : W.grownBy W1 v.ownBlock) : Boxed W1 (w.heap.size + 3) 24 v ∧ (∃ u, Boxed W1 w.heap.size 24 u) ∧ Boxed W1 (w.heap.size + 1) 4 (.bool st) := by
  have ne : ∀ b, b < w.heap.size + 2 ∨ b = w.heap.size + 3 → some b ≠ v.ownBlock := fun b hb e => by
    have := h.ok b (by rw [rowB_of hv.cell, ← e])
    omega
  obtain ⟨A, c, b2, _, _⟩ := h.ovr
  exact ⟨hv.kept h5 (ne _ (.inr rfl)), ⟨_, b2.kept h5 (ne _ (by omega))⟩, h.stp.kept h5 (ne _ (by omega))⟩
/-- Where the row ends. -/
theorem own_ret {w W : World} {v : Value} {l : List Sp} (h : W.ownsRow w.heap.size 87 4 v l.length (svs l)) (hb : Below w.heap.size w W) : RetS w l (.returned v) W := by
  rcases h.2 with ⟨hv, hn⟩ | ⟨g, cap, cur, hv, _⟩
  · obtain rfl : l = [] := List.eq_nil_of_length_eq_zero hn
    exact ⟨none, 0, by rw [hv]; rfl, Nat.le_refl _, fun _ => rfl, Ss.nil, hb⟩
  · obtain ⟨c, _, h2, A, h3, h4⟩ := Ss.of_own h
    refine ⟨A, c, by rw [h3], h2, fun e => ?_, h4, hb⟩
    rw [h3, e] at hv
    cases hv
theorem own_put {w W : World} {v : Value} {l : List Sp} {D : Nat} (hD : w.heap.size ≤ D) (hK : W.heap[D]? = some (.deferred (some []))) (h : W.ownsRow w.heap.size 87 4 v l.length (svs l) ∧ Below w.heap.size w W) : (W.putObj D (.deferred none)).ownsRow w.heap.size 87 4 v l.length (svs l) ∧ Below w.heap.size w (W.putObj D (.deferred none)) := by
  refine ⟨⟨h.1.1, ?_⟩, h.2.grown (grownBy_putObj' W D (.deferred none)) h.2.size (fun g e => by cases e; exact hD)⟩
  rcases h.1.2 with hn | ⟨g, cap, cur, rfl, k1, k2, rest⟩
  · exact .inl hn
  · refine .inr ⟨g, cap, cur, rfl, k1, (World.putObj_heap_other fun e => ?_).trans k2, rest⟩
    subst e
    rw [hK] at k2
    cases k2
set_option maxRecDepth 100000 in
set_option maxHeartbeats 8000000 in
theorem overlay_any (st : Bool) (A0 A1 : Option Addr) (c0 c1 : Nat) (t over : List Sp) (w : World) (h0 : Ss w w.heap.size A0 t) (h1 : Ss w w.heap.size A1 over) (hc1 : over.length ≤ c1) (ht : Cn st t) (hv : Cn st over) (hlt : t.length ≤ 10000) (hlv : over.length ≤ 10000) :
    Calls Tryz.prog 140 #[.slice A0 t.length c0, .slice A1 over.length c1, .bool st] w (RetS w (overL st t over)) := by
  obtain ⟨i0, hi, hz0, hz1, hz2⟩ := info_parts infoS
  have HT := Lib.hid h0
  have HV1 := Lib.hid h1
  have hIv : Iv st [] over t := ⟨Cn.nil, hv, ht.1, ht.ah, by simp, by simp⟩
  have HIV := Lib.hid hIv
  obtain ⟨n, hn⟩ : ∃ n, n = t.length := ⟨_, rfl⟩
  obtain ⟨m, hm⟩ : ∃ m, m = over.length := ⟨_, rfl⟩
  have HN := Lib.hid hn
  have HM := Lib.hid hm
  rw [← hn, ← hm]
  rw [← hn] at hlt
  rw [← hm] at hlv hc1
  clear hn hm h0 h1 ht hv hIv
  refine (callsIn_wide (n := 8)).1 ?_
  refine callsIn_of_wp_marks Tryz.func140 rfl trivial ?_
  simp only [Tryz.ntmps140, List.size_toArray, List.length_cons, List.length_nil, Nat.reduceAdd, Nat.reduceSub, Array.replicate_succ, Array.replicate_zero, List.push_toArray, List.append_toArray, List.nil_append, List.cons_append]
  have hmk : ∀ W : World, (Instr.makeSlice 24 (.int .i64 0) (.int .i64 ((n : Int) + (m : Int)))).run Tryz.prog W = .ok (.slice (some ⟨W.heap.size, 0, none⟩) 0 (n + m)) (W.alloc (.cells (madeCells (Value.agg #[.int .i64 0, .int .i64 0, .int .i64 0, .int .i64 0]).cells ((n + m) * 4)) 87)) := fun W => by
    have h := run_make (P := Tryz.prog) W 24 87 i0 (.agg #[.int .i64 0, .int .i64 0, .int .i64 0, .int .i64 0]) Tryz.underlying24 hi hz0 .i64 .i64 0 ((n : Int) + (m : Int)) (Int.le_refl _) (by omega) (by rw [hz2]; omega) (by omega)
    rw [hz1, show ((n : Int) + (m : Int)).toNat = n + m by omega] at h
    exact h
  gi_wp2
  have hOv : Ov w st ([], over) ((((w.alloc (.cells #[.slice A1 m c1] 24)).alloc (.cells #[.bool st] 4)).alloc (.cells (madeCells #[.int .i64 0, .int .i64 0, .int .i64 0, .int .i64 0] ((n + m) * 4)) 87)).alloc (.cells #[.slice (some ⟨w.heap.size + 1 + 1, 0, none⟩) 0 (n + m)] 24)) := by
    have b1 := (Boxed.new w 24 (.slice A1 m c1)).alloc (.cells #[.bool st] 4)
    have b2 := Boxed.new (w.alloc (.cells #[.slice A1 m c1] 24)) 4 (.bool st)
    have hr := World.ownsRow_made (base := w.heap.size) (e := 87) (size := 4) ((w.alloc (.cells #[.slice A1 m c1] 24)).alloc (.cells #[.bool st] 4)) (madeCells #[.int .i64 0, .int .i64 0, .int .i64 0, .int .i64 0] ((n + m) * 4)) (n + m) (by simp; omega) (by unfold maxLen; omega) (size_madeCells _ _)
    have bl : ∀ (a b : World) (o : Obj), Below w.heap.size a b → w.heap.size ≤ b.heap.size → Below w.heap.size a (b.alloc o) ∧ w.heap.size ≤ (b.alloc o).heap.size := fun a b o k1 k2 => ⟨k1.alloc k2 o, by rw [World.size_alloc]; omega⟩
    have k1 := bl w w (.cells #[.slice A1 m c1] 24) (Below.refl _ _) (Nat.le_refl _)
    have k2 := bl _ _ (.cells #[.bool st] 4) k1.1 k1.2
    have k3 := bl _ _ (.cells (madeCells #[.int .i64 0, .int .i64 0, .int .i64 0, .int .i64 0] ((n + m) * 4)) 87) k2.1 k2.2
    have k4 := bl _ _ (.cells #[.slice (some ⟨w.heap.size + 1 + 1, 0, none⟩) 0 (n + m)] 24) k3.1 k3.2
    simp only [World.size_alloc] at b2 hr
    generalize madeCells #[.int .i64 0, .int .i64 0, .int .i64 0, .int .i64 0] ((n + m) * 4) = cs at *
    have b4 := Boxed.new (((w.alloc (.cells #[.slice A1 m c1] 24)).alloc (.cells #[.bool st] 4)).alloc (.cells cs 87)) 24 (.slice (some ⟨w.heap.size + 1 + 1, 0, none⟩) 0 (n + m))
    simp only [World.size_alloc] at b4
    refine ⟨k4.1, by simp, (b2.alloc _).alloc _, ⟨_, b4, hr.alloc _, fun g hg => ?_⟩, ⟨A1, c1, ?_, by rw [← HM.out]; exact hc1, HV1.out.below k4.1⟩⟩
    · have e : w.heap.size + 1 + 1 = g := by simpa [Value.ownBlock] using hg
      omega
    · show Boxed _ _ _ (.slice A1 over.length c1)
      rw [← HM.out]
      exact (b1.alloc _).alloc _
  obtain ⟨Ws, hWs⟩ : ∃ Ws, (((w.alloc (.cells #[.slice A1 m c1] 24)).alloc (.cells #[.bool st] 4)).alloc (.cells (madeCells #[.int .i64 0, .int .i64 0, .int .i64 0, .int .i64 0] ((n + m) * 4)) 87)).alloc (.cells #[.slice (some ⟨w.heap.size + 1 + 1, 0, none⟩) 0 (n + m)] 24) = Ws := ⟨_, rfl⟩
  rw [hWs] at hOv ⊢
  rw [show w.heap.size + 1 + 1 + 1 = w.heap.size + 3 from rfl]
  clear hWs hmk
  have HOV := Lib.hid hOv
  clear hOv
  refine wpIn_loop (fun a' wr => ∃ (k : Nat) (ds : List Deferred) (u9 u10 u22 u23 u24 u25 u26 u27 u28 u29 u30 u31 u32 u33 u34 u35 u36 u37 u38 u39 u40 u41 u42 u43 u44 u45 u46 u47 u48 u49 u50 : Value), (k ≤ n ∧ Hid (Ov w st ((t.take k).foldl (stepS st) ([], over)) wr) ∧ Hid (Mk wr.heap.size w ds wr) ∧ Hid (((t.take k).foldl (stepS st) ([], over)).1.length + ((t.take k).foldl (stepS st) ([], over)).2.length ≤ m + k * (m + 1) ∧ ((t.take k).foldl (stepS st) ([], over)).2.length ≤ m)) ∧ a' = { tmps := #[.slice A0 n c0, .slice A1 m c1, .bool st, undef, .pointer (some ⟨w.heap.size, 0, none⟩), .pointer (some ⟨w.heap.size + 1, 0, none⟩), .slice none 0 0, .pointer (some ⟨w.heap.size + 3, 0, none⟩), undef, u9, u10, undef, undef, .slice A0 n c0, .int .i64 (n : Int), .slice A1 m c1, .int .i64 (m : Int), .int .i64 ((n : Int) + (m : Int)), .slice (some ⟨w.heap.size + 1 + 1, 0, none⟩) 0 (n + m), .slice A0 n c0, .int .i64 (n : Int), .int .i64 (k : Int), u22, u23, u24, u25, u26, u27, u28, u29, u30, u31, u32, u33, u34, u35, u36, u37, u38, u39, u40, u41, u42, u43, u44, u45, u46, u47, u48, u49, u50, undef, undef, undef, undef, undef, undef, undef, undef, undef, undef, undef, undef], defers := ds }) (fun a' _ => n - (intOf (a'.tmps.getD 21 undef)).toNat) ?start ?round
  case start =>
    exact ⟨0, [], _, _, _, _, _, _, _, _, _, _, _, _, _, _, _, _, _, _, _, _, _, _, _, _, _, _, _, _, _, _, _, ⟨Nat.zero_le _, HOV, Lib.hid ⟨fun d hd => (by cases hd), List.Pairwise.nil⟩, Lib.hid ⟨by rw [List.take_zero]; simp [HM.out], by rw [List.take_zero]; simp [HM.out]⟩⟩, rfl⟩
  case round =>
    clear HOV
    rintro a' wq ⟨k, ds, u9, u10, u22, u23, u24, u25, u26, u27, u28, u29, u30, u31, u32, u33, u34, u35, u36, u37, u38, u39, u40, u41, u42, u43, u44, u45, u46, u47, u48, u49, u50, ⟨hk, HO, HMK, HLE⟩, rfl⟩
    by_cases hkn : k < n
    · have t0 : decide (k < n) = true := decide_eq_true hkn
      have hx := List.getElem?_eq_getElem (l := t) (i := k) (by have := HN.out; omega)
      generalize t[k]'(by have := HN.out; omega) = s at *
      obtain ⟨b, o, rfl, hb, ⟨y0, y1, y2, y3⟩⟩ := (HT.out.below HO.out.bel).at hx
      have etk : t.take (k + 1) = t.take k ++ [s] := by rw [List.take_add_one, hx]; rfl
      have hdr : t.drop k = s :: t.drop (k + 1) := by
        rw [List.drop_eq_getElem_cons (by have := HN.out; omega)]
        have := hx
        rw [List.getElem?_eq_getElem (by have := HN.out; omega)] at this
        injection this with this
        rw [this]
      have hiv := Iv.sts k [] over HIV.out
      rw [hdr] at hiv
      have HTK := Lib.hid etk
      generalize hr0 : (t.take k).foldl (stepS st) ([], over) = r at *
      have HR0 := Lib.hid hr0
      clear hr0
      obtain ⟨g1, _, g3, _⟩ := addA_spec hiv
      obtain ⟨k1, _, _⟩ := g1.cut g3
      have hLn : ∀ p ∈ leftG st s s.lo (addA st r.1 r.2 s).2, Nr p := fun p hp => Sn.nr (k1.sT p (List.mem_append_left _ hp))
      have hns : Nr s := Sn.nr (hiv.sT s List.mem_cons_self)
      have hnq : Nq r := hiv.nq
      have hnq1 : Nq (addA st r.1 r.2 s) := g1.nq
      have hln := addA_lens (st := st) (s := s) (v := r.2) (o := r.1)
      have HLN := Lib.hid hLn
      have HNS := Lib.hid hns
      have HNQ1 := Lib.hid hnq1
      have HLENS := Lib.hid hln
      clear hx etk hdr hiv g1 g3 k1 hLn
      have hoA := HO.out.below ((Below.refl wq.heap.size wq).alloc (Nat.le_refl _) (.cells #[.int .i64 s.n, .int .i64 s.lo, .int .i64 s.hi, .int .i64 s.to] 87))
      have hE0 : Eff (w.heap.size + 3) w.heap.size wq (wq.alloc (.cells #[.int .i64 s.n, .int .i64 s.lo, .int .i64 s.hi, .int .i64 s.to] 87)) := Eff.below (by have := HO.out.sz; omega) ((Below.refl wq.heap.size wq).alloc (Nat.le_refl _) _)
      have hbs := Bs.new wq s 87
      have hsA : (wq.alloc (.cells #[.int .i64 s.n, .int .i64 s.lo, .int .i64 s.hi, .int .i64 s.to] 87)).heap.size = wq.heap.size + 1 := by simp
      have hrow : rowB (w.heap.size + 3) (wq.alloc (.cells #[.int .i64 s.n, .int .i64 s.lo, .int .i64 s.hi, .int .i64 s.to] 87)) = rowB (w.heap.size + 3) wq := rowB_same (((Below.refl wq.heap.size wq).alloc (Nat.le_refl _) _).block _ (by have := HO.out.sz; omega))
      generalize hWA : wq.alloc (.cells #[.int .i64 s.n, .int .i64 s.lo, .int .i64 s.hi, .int .i64 s.to] 87) = WA at *
      obtain ⟨v, hvb, how, _⟩ := hoA.row
      obtain ⟨A, c, hab, hac, has⟩ := hoA.ovr
      obtain ⟨f, hf⟩ : ∃ f, f = r.2.length := ⟨_, rfl⟩
      have K1 := Lib.hid (addAhead_any st w.heap.size v A c r.1 r.2 s WA how hoA.bel.size has hac (by
        have h1 := HLE.out.1
        have h4 : k * (m + 1) ≤ 10000 * 10001 := Nat.mul_le_mul (by omega) (by omega)
        omega) hnq.1 hnq.2)
      rw [← hf] at K1 hab
      unfold sv at K1
      have cO := hvb.cell
      have cV := hab.cell
      have cT := hoA.stp.cell
      have hbs0 := hbs
      obtain ⟨e0, e1, e2, e3⟩ := hbs
      simp only [Nat.zero_add] at e1 e2 e3
      have HOA := Lib.hid hoA
      have HVB := Lib.hid hvb
      have HBS := Lib.hid hbs0
      clear hnq hnq1 hns hvb how hoA hab hac has hf hbs0 hln
      gi_wp2_with fail
      refine ⟨trivial, ?_⟩
      refine (callsIn_wide.2 K1.out).mono ?_
      rintro e W1 ⟨v', A2, c2, rfl, h2, h3, h4, h5, h6⟩
      obtain ⟨z1, ⟨u, z2⟩, z3⟩ := HOA.out.kept HVB.out h5
      obtain ⟨hO2, hE2⟩ := HOA.out.step1 HVB.out h2 h3 h4 h5 h6
      have hE := hE0.trans hE2
      have ci := z1.cell
      have fi := z1.frozen
      have cj := z2.cell
      have fj := z2.frozen
      have cs0 := hE2.kp.bs HBS.out ⟨by have := HO.out.sz; omega, by have := HO.out.sz; omega, fun e => by
        rw [hrow] at e
        have := HO.out.ok _ e
        omega⟩
      have zV : Boxed ((W1.setCell ⟨w.heap.size + 3, 0, none⟩ v').setCell ⟨w.heap.size, 0, none⟩ (.slice A2 (addA st r.1 r.2 s).2.length c2)) w.heap.size 24 (.slice A2 (addA st r.1 r.2 s).2.length c2) := (z2.other (by omega) _).set _
      have has2 : Ss ((W1.setCell ⟨w.heap.size + 3, 0, none⟩ v').setCell ⟨w.heap.size, 0, none⟩ (.slice A2 (addA st r.1 r.2 s).2.length c2)) w.heap.size A2 (addA st r.1 r.2 s).2 := (h3.setCell (by omega) _).setCell (Nat.le_refl _) _
      obtain ⟨cz, _, _, Az, ev, _⟩ := Ss.of_own h4
      obtain ⟨lz, hlz⟩ : ∃ lz, lz = (addA st r.1 r.2 s).1.length := ⟨_, rfl⟩
      obtain ⟨f2, hf2⟩ : ∃ f2, f2 = (addA st r.1 r.2 s).2.length := ⟨_, rfl⟩
      rw [← hlz] at ev
      rw [← hf2] at hO2 hE2 hE cs0 zV has2 ⊢
      subst ev
      have HF2 := Lib.hid hf2
      clear hlz hf2 cO cV cT e0 e1 e2 e3 z1 z2 z3 hWA hE2 h2 h3 h4 h5 h6 hrow
      generalize hW2 : (W1.setCell ⟨w.heap.size + 3, 0, none⟩ (.slice Az lz cz)).setCell ⟨w.heap.size, 0, none⟩ (.slice A2 f2 c2) = W2 at *
      have cV := zV.cell
      have cT := hO2.stp.cell
      obtain ⟨e0, e1, e2, e3⟩ := cs0
      simp only [Nat.zero_add] at e1 e2 e3
      have HO2 := Lib.hid hO2
      have HE := Lib.hid hE
      have HAS2 := Lib.hid has2
      clear zV hO2 hE has2
      gi_wp2_with fail
      refine ⟨trivial, ?_⟩
      refine (left_in _ s A2 f2 c2 st W2).mono ?_
      rintro e W3 ⟨rfl, rfl⟩
      have x1 : Bs (((W2.alloc (.cells #[.int .i64 s.n, .int .i64 s.lo, .int .i64 s.hi, .int .i64 s.to] 87)).alloc (.cells #[.slice A2 f2 c2] 24)).alloc (.cells #[.bool st] 4)) W2.heap.size s := ((Bs.new W2 s 87).below (((Below.refl _ _).alloc (Nat.le_refl _) (.cells #[.slice A2 f2 c2] 24)).alloc (by simp) (.cells #[.bool st] 4)) (by simp))
      have x2 := (Boxed.new (W2.alloc (.cells #[.int .i64 s.n, .int .i64 s.lo, .int .i64 s.hi, .int .i64 s.to] 87)) 24 (.slice A2 f2 c2)).alloc (.cells #[.bool st] 4)
      have x3 := Boxed.new ((W2.alloc (.cells #[.int .i64 s.n, .int .i64 s.lo, .int .i64 s.hi, .int .i64 s.to] 87)).alloc (.cells #[.slice A2 f2 c2] 24)) 4 (.bool st)
      simp only [World.size_alloc] at x2 x3
      have hB3 : Below W2.heap.size W2 (((W2.alloc (.cells #[.int .i64 s.n, .int .i64 s.lo, .int .i64 s.hi, .int .i64 s.to] 87)).alloc (.cells #[.slice A2 f2 c2] 24)).alloc (.cells #[.bool st] 4)) := (((Below.refl _ _).alloc (Nat.le_refl _) _).alloc (by simp) _).alloc (by simp; omega) _
      have hs3 : (((W2.alloc (.cells #[.int .i64 s.n, .int .i64 s.lo, .int .i64 s.hi, .int .i64 s.to] 87)).alloc (.cells #[.slice A2 f2 c2] 24)).alloc (.cells #[.bool st] 4)).heap.size = W2.heap.size + 3 := by simp
      clear cV cT e0 e1 e2 e3 hW2
      generalize hW3 : ((W2.alloc (.cells #[.int .i64 s.n, .int .i64 s.lo, .int .i64 s.hi, .int .i64 s.to] 87)).alloc (.cells #[.slice A2 f2 c2] 24)).alloc (.cells #[.bool st] 4) = W3 at *
      clear hW3
      have hO3 := HO2.out.below hB3
      have hE3 := HE.out.trans (Eff.below (by have := HO2.out.sz; omega) hB3)
      have hrow3 : ∀ b, W2.heap.size ≤ b → Safe (w.heap.size + 3) w.heap.size W3 b := fun b hb => ⟨by have := HO2.out.sz; omega, by have := HO2.out.sz; omega, fun e => by
        rw [rowB_same (hB3.block _ (by have := HO2.out.sz; omega))] at e
        have := HO2.out.ok _ e
        omega⟩
      have hls := left_stops 7 (by omega) st W2.heap.size (W2.heap.size + 1) (W2.heap.size + 1 + 1) w.heap.size A2 c2 (addA st r.1 r.2 s).2 s (by have := HLENS.out.2; have := HLE.out.2; omega) HNS.out HNQ1.out.2 HLN.out (w.heap.size + 3) w.heap.size W3 x1 (by rw [← HF2.out]; exact x2.cell) x3.cell (HAS2.out.below (hB3.mono HO2.out.bel.size)) hO3.bel.size (by have := hO3.sz; omega) (by have := hO3.sz; omega) (fun g hg => (hO3.ok g hg).2.2) (hrow3 _ (Nat.le_refl _)) (by omega) (by omega) (hrow3 _ (by omega)) (by omega) (fun b hb => hO3.safe (.inl hb))
      gi_wp2
      refine wpIn_rangeFunc_ownH rfl (by omega) (gf := 169) (lb := #[.pointer (some ⟨W2.heap.size, 0, none⟩), .pointer (some ⟨W2.heap.size + 1, 0, none⟩), .pointer (some ⟨W2.heap.size + 1 + 1, 0, none⟩)]) rfl trivial (enters_of Tryz.func169 (by kernel_rfl) rfl)
        hls (fun h1 h2 => KpO.trans h1 h2) (fun W l o o' hl h hc _ => KpO.put (w := W3) (by have := hO3.sz; omega) hl h hc) (Below.refl _ _) (fun _ => rfl)
        (fun pre W => Ov w st ((pre.map (·.1)).foldl (stepP st) (addA st r.1 r.2 s)) W ∧ Mk W3.heap.size w ds W ∧ W3.heap.size ≤ W.heap.size)
        (fun _ _ _ => False)
        (OwnFrom.and (Ov.own hO3.bel.size _) (OwnFrom.and Mk.own (fun _ _ _ _ h hg _ => Nat.le_trans h hg.size)))
        (fun _ _ _ _ _ hs _ _ => hs)
        ⟨hO3, ((HMK.out.eff HO.out hE3).more hE3.size), Nat.le_refl _⟩
        (fun x a' W => ∃ (Bz : Nat) (z0 z1 z2 z3 z6 z8 z9 z11 z12 z13 z14 z15 z16 z17 z18 z19 z20 z21 z22 z23 z24 z25 z26 z27 z28 z29 z30 z31 z32 z33 z34 z35 z36 z37 z38 z39 z40 z41 z42 z43 z44 z45 z46 z47 z48 z49 z50 z51 z52 z53 z54 z55 z56 z57 z58 z59 z60 z61 z62 : Value), W3.heap.size ≤ Bz ∧ Bs W Bz x.1 ∧ Bz < W.heap.size ∧ rowB (w.heap.size + 3) W ≠ some Bz ∧ a' = { tmps := #[z0, z1, z2, z3, .pointer (some ⟨w.heap.size, 0, none⟩), .pointer (some ⟨w.heap.size + 1, 0, none⟩), z6, .pointer (some ⟨w.heap.size + 3, 0, none⟩), z8, z9, .pointer (some ⟨Bz, 0, none⟩), z11, z12, z13, z14, z15, z16, z17, z18, z19, z20, z21, z22, z23, z24, z25, z26, z27, z28, z29, z30, z31, z32, z33, z34, z35, z36, z37, z38, z39, z40, z41, z42, z43, z44, z45, z46, z47, z48, z49, z50, z51, z52, z53, z54, z55, z56, z57, z58, z59, z60, z61, z62], defers := [] })
        ?hAx ?assign ?body ?done ?stop
      case hAx =>
        rintro x a' _ X Y row ⟨Bz, z0, z1, z2, z3, z6, z8, z9, z11, z12, z13, z14, z15, z16, z17, z18, z19, z20, z21, z22, z23, z24, z25, z26, z27, z28, z29, z30, z31, z32, z33, z34, z35, z36, z37, z38, z39, z40, z41, z42, z43, z44, z45, z46, z47, z48, z49, z50, z51, z52, z53, z54, z55, z56, z57, z58, z59, z60, z61, z62, h1, h2, h3, h5, h4⟩ hg hr
        have h6 : rowB (w.heap.size + 3) Y ≠ some Bz := by
          rw [rowB_same (hg.block (w.heap.size + 3) (by have := hO3.sz; omega) (fun e => by have := (hr _ e.symm).1; have := hO3.sz; omega))]
          exact h5
        have hr' : ∀ r, row = some r → ∃ o : Obj, X.heap[r]? = some o ∧ o.isCells = false := fun r e => (hr r e).2
        exact ⟨Bz, z0, z1, z2, z3, z6, z8, z9, z11, z12, z13, z14, z15, z16, z17, z18, z19, z20, z21, z22, z23, z24, z25, z26, z27, z28, z29, z30, z31, z32, z33, z34, z35, z36, z37, z38, z39, z40, z41, z42, z43, z44, z45, z46, z47, z48, z49, z50, z51, z52, z53, z54, z55, z56, z57, z58, z59, z60, z61, z62, h1, ⟨cell_kept h2.c0 hg hr', cell_kept h2.c1 hg hr', cell_kept h2.c2 hg hr', cell_kept h2.c3 hg hr'⟩, Nat.lt_of_lt_of_le h3 hg.size, h6, h4⟩
      case assign =>
        rintro q pre ⟨⟨xn, xlo, xhi, xto⟩, hx⟩ W K ⟨h1, h2, h3⟩ hK
        have hbA : Below W.heap.size W (W.alloc (.cells #[.int .i64 xn, .int .i64 xlo, .int .i64 xhi, .int .i64 xto] 87)) := (Below.refl _ _).alloc (Nat.le_refl _) _
        have hEA : Eff (w.heap.size + 3) w.heap.size W (W.alloc (.cells #[.int .i64 xn, .int .i64 xlo, .int .i64 xhi, .int .i64 xto] 87)) := Eff.below (by have := h1.sz; omega) hbA
        unfold sv
        dsimp only
        gi_wp2
        exact hK _ _ ((KeepsOthers.alloc _ _).from _) hEA.kp ⟨h1.below hbA, h2.eff h1 hEA, Nat.le_trans h3 hEA.size⟩ ⟨W.heap.size, _, _, _, _, _, _, _, _, _, _, _, _, _, _, _, _, _, _, _, _, _, _, _, _, _, _, _, _, _, _, _, _, _, _, _, _, _, _, _, _, _, _, _, _, _, _, _, _, _, _, _, _, _, _, _, _, _, _, _, h3, Bs.new W ⟨xn, xlo, xhi, xto⟩ 87, by simp, fun e => by
          rw [rowB_same (hbA.block _ (by have := h1.sz; omega))] at e
          have := h1.ok _ e
          omega, rfl⟩
      case body =>
        rintro q pre ⟨x, hnx⟩ a' W _ _ ⟨h1, h2, h3⟩ ⟨Bz, z0, z1, z2, z3, z6, z8, z9, z11, z12, z13, z14, z15, z16, z17, z18, z19, z20, z21, z22, z23, z24, z25, z26, z27, z28, z29, z30, z31, z32, z33, z34, z35, z36, z37, z38, z39, z40, z41, z42, z43, z44, z45, z46, z47, z48, z49, z50, z51, z52, z53, z54, z55, z56, z57, z58, z59, z60, z61, z62, hBz, hbx, hBl, hrB, rfl⟩ hpl
        dsimp only at hbx
        have hnq := foldP_nr (st := st) pre _ HNQ1.out
        have hfl := foldP_lens (st := st) (pre.map (·.1)) (addA st r.1 r.2 s)
        rw [List.length_map] at hfl
        have hlg := leftG_length (st := st) s (addA st r.1 r.2 s).2 s.lo
        have hbd : ((pre.map (·.1)).foldl (stepP st) (addA st r.1 r.2 s)).1.length + ((pre.map (·.1)).foldl (stepP st) (addA st r.1 r.2 s)).2.length ≤ 200000000 := by
          have h4 := HLE.out.1
          have h5 := HLENS.out
          have h6 : k * (m + 1) ≤ 10000 * 10001 := Nat.mul_le_mul (by omega) (by omega)
          have h7 := HLE.out.2
          omega
        have esp : ((pre ++ ([⟨x, hnx⟩] : List Pt)).map (·.1)).foldl (stepP st) (addA st r.1 r.2 s) = stepP st ((pre.map (·.1)).foldl (stepP st) (addA st r.1 r.2 s)) x := by rw [List.map_append, List.foldl_append]; rfl
        have HESP := Lib.hid esp
        clear hfl hlg hpl esp hls
        generalize (pre.map (·.1)).foldl (stepP st) (addA st r.1 r.2 s) = qq at *
        obtain ⟨v, hvb, how, _⟩ := h1.row
        obtain ⟨A, c, hab, hac, has⟩ := h1.ovr
        have K1 := Lib.hid (addAhead_any st w.heap.size v A c qq.1 qq.2 x W how h1.bel.size has hac (by omega) hnq.1 hnq.2)
        obtain ⟨f, hf⟩ : ∃ f, f = qq.2.length := ⟨_, rfl⟩
        rw [← hf] at K1 hab
        unfold sv at K1
        have cO := hvb.cell
        have cV := hab.cell
        have cT := h1.stp.cell
        have HBX := Lib.hid hbx
        obtain ⟨e0, e1, e2, e3⟩ := hbx
        simp only [Nat.zero_add] at e1 e2 e3
        have H1 := Lib.hid h1
        have H2 := Lib.hid h2
        have HVB := Lib.hid hvb
        have hnq1 := addA_nr (st := st) (s := x) hnq.1 hnq.2
        have hlq1 := addA_lens (st := st) (s := x) (v := qq.2) (o := qq.1)
        have hbz1 : w.heap.size + 4 ≤ Bz := Nat.le_trans hO3.sz hBz
        have hsafe : Safe (w.heap.size + 3) w.heap.size W Bz := ⟨by omega, by omega, hrB⟩
        have HSAFE := Lib.hid hsafe
        have HNQ2 := Lib.hid hnq1
        clear hvb hab has hac hf h1 h2 hnq hsafe hnq1 how
        gi_wp2_with fail
        refine ⟨trivial, ?_⟩
        refine (CallsIn.inRound q (callsIn_wide.2 K1.out)).mono ?_
        rintro e W1 ⟨v', A4, c4, rfl, k2, k3, k4, k5, k6⟩
        obtain ⟨z1, ⟨u, z2⟩, z3⟩ := H1.out.kept HVB.out k5
        obtain ⟨hO4, hE4⟩ := H1.out.step1 HVB.out k2 k3 k4 k5 k6
        have ci := z1.cell
        have fi := z1.frozen
        have cj := z2.cell
        have fj := z2.frozen
        have zO : Boxed ((W1.setCell ⟨w.heap.size + 3, 0, none⟩ v').setCell ⟨w.heap.size, 0, none⟩ (.slice A4 (addA st qq.1 qq.2 x).2.length c4)) (w.heap.size + 3) 24 v' := (z1.set _).other (by omega) _
        have kown : ((W1.setCell ⟨w.heap.size + 3, 0, none⟩ v').setCell ⟨w.heap.size, 0, none⟩ (.slice A4 (addA st qq.1 qq.2 x).2.length c4)).ownsRow w.heap.size 87 4 v' (addA st qq.1 qq.2 x).1.length (svs (addA st qq.1 qq.2 x).1) := by
          obtain ⟨v2, y1, y2, _⟩ := hO4.row
          have := y1.cell.symm.trans zO.cell
          injection this with this
          rw [this] at y2
          exact y2
        have hbx4 := hE4.kp.bs HBX.out HSAFE.out
        obtain ⟨cz2, _, _, Az2, ev, _⟩ := Ss.of_own k4
        obtain ⟨lz2, hlz⟩ : ∃ lz2, lz2 = (addA st qq.1 qq.2 x).1.length := ⟨_, rfl⟩
        obtain ⟨f4, hf4⟩ : ∃ f4, f4 = (addA st qq.1 qq.2 x).2.length := ⟨_, rfl⟩
        rw [← hlz] at ev
        rw [← hf4] at hO4 hE4 zO kown hbx4 ⊢
        subst ev
        clear hlz hf4 cO cV cT e0 e1 e2 e3 z1 z2 z3 k2 k3 k4 k5 k6
        generalize hW4 : (W1.setCell ⟨w.heap.size + 3, 0, none⟩ (.slice Az2 lz2 cz2)).setCell ⟨w.heap.size, 0, none⟩ (.slice A4 f4 c4) = W4 at *
        have K2 := Lib.hid (add_any st w.heap.size (.slice Az2 lz2 cz2) (addA st qq.1 qq.2 x).1 x W4 kown hO4.bel.size (by omega) HNQ2.out.1 hnx)
        unfold sv at K2
        have cO := zO.cell
        have cT := hO4.stp.cell
        obtain ⟨e0, e1, e2, e3⟩ := hbx4
        simp only [Nat.zero_add] at e1 e2 e3
        have HO4 := Lib.hid hO4
        have HE4 := Lib.hid hE4
        have HZO := Lib.hid zO
        clear zO kown hO4 hE4
        gi_wp2_with fail
        refine ⟨trivial, ?_⟩
        refine (CallsIn.inRound q (callsIn_wide.2 K2.out)).mono ?_
        rintro e W5 ⟨v5, rfl, k4, k5, k6⟩
        obtain ⟨z1, _, _⟩ := HO4.out.kept HZO.out k5
        obtain ⟨hO6, hE6⟩ := HO4.out.step2 HZO.out k4 k5 k6
        have hE := HE4.out.trans hE6
        obtain ⟨cz3, _, _, Az3, ev, _⟩ := Ss.of_own k4
        obtain ⟨lz3, hlz⟩ : ∃ lz3, lz3 = (addL st (addA st qq.1 qq.2 x).1 x).length := ⟨_, rfl⟩
        rw [← hlz] at ev
        subst ev
        have ci := z1.cell
        have fi := z1.frozen
        clear hlz cO cT e0 e1 e2 e3 hW4 z1
        gi_wp2
        exact ⟨H1.out.keepsFrom hE _, hE.kp, by rw [HESP.out]; exact hO6, H2.out.eff H1.out hE, Nat.le_trans h3 hE.size⟩
      case done =>
        rintro D ys W hD hys ⟨h1, h2, h3⟩ hK
        have est : (ys.map (·.1)).foldl (stepP st) (addA st r.1 r.2 s) = (t.take (k + 1)).foldl (stepS st) ([], over) := by
          rw [← hys, HTK.out, List.foldl_append, HR0.out]
          rfl
        rw [est] at h1
        have hln := stepS_lens (st := st) r s
        have eln : stepS st r s = (t.take (k + 1)).foldl (stepS st) ([], over) := by
          rw [HTK.out, List.foldl_append, HR0.out]
          rfl
        rw [eln] at hln
        have HFIN : Hid (((t.take (k + 1)).foldl (stepS st) ([], over)).1.length + ((t.take (k + 1)).foldl (stepS st) ([], over)).2.length ≤ m + (k + 1) * (m + 1) ∧ ((t.take (k + 1)).foldl (stepS st) ([], over)).2.length ≤ m) := Lib.hid (by
          have h4 := HLE.out
          have e : (k + 1) * (m + 1) = k * (m + 1) + (m + 1) := Nat.succ_mul _ _
          omega)
        have HMF := Lib.hid (h2.cons hD (Nat.le_trans hO3.bel.size hD) hK)
        have HOF := Lib.hid h1
        clear est eln hln h1 h2 hls
        gi_wp2
        exact ⟨⟨k + 1, _ :: ds, _, _, _, _, _, _, _, _, _, _, _, _, _, _, _, _, _, _, _, _, _, _, _, _, _, _, _, _, _, _, _, ⟨by omega, HOF, HMF, HFIN⟩, rfl⟩, by simp [intOf]; omega⟩
      case stop =>
        rintro D cd pre W _ _ h _
        exact h.elim
    · obtain rfl : k = n := by omega
      have t0 : decide (k < k) = false := by simp
      have hiv := Iv.sts k [] over HIV.out
      have etk : t.take k = t := List.take_of_length_le (by rw [← HN.out]; exact Nat.le_refl _)
      have hov : overL st t over = ((t.take k).foldl (stepS st) ([], over)).2.foldl (addL st) ((t.take k).foldl (stepS st) ([], over)).1 := by rw [etk]; rfl
      have HOVL := Lib.hid hov
      clear hov etk
      generalize (t.take k).foldl (stepS st) ([], over) = r at *
      have HNQ := Lib.hid hiv.nq
      obtain ⟨f, hf⟩ : ∃ f, f = r.2.length := ⟨_, rfl⟩
      have HFF := Lib.hid hf
      obtain ⟨A, c, hbx, hcc, hss⟩ := HO.out.ovr
      rw [← hf] at hbx hcc
      have cV := hbx.cell
      have HSS := Lib.hid hss
      have HLE2 := Lib.hid (show f ≤ m by rw [hf]; exact HLE.out.2)
      clear hf hbx hss hiv
      gi_wp2
      gi_loopw [53] (fun i wr => ∃ j : Nat, j ≤ f ∧ i = .int .i64 (j : Int) ∧ Hid (Ov w st ((r.2.take j).foldl (addL st) r.1, r.2) wr) ∧ Hid (Mk wr.heap.size w ds wr)) (fun i _ => f - (intOf i).toNat)
      case atStart => exact ⟨0, Nat.zero_le _, rfl, HO, HMK⟩
      case round =>
        clear cV
        obtain ⟨j, hj, rfl, HO2, HM2⟩ := hrel
        by_cases hjf : j < f
        · have t1 : decide (j < f) = true := decide_eq_true hjf
          have hfm := HLE2.out
          have hx := List.getElem?_eq_getElem (l := r.2) (i := j) (by have := HFF.out; omega)
          generalize r.2[j]'(by have := HFF.out; omega) = x at *
          obtain ⟨b, o, rfl, hb, ⟨y0, y1, y2, y3⟩⟩ := (HO.out.ss HO2.out HSS.out).at hx
          have etk : r.2.take (j + 1) = r.2.take j ++ [x] := by rw [List.take_add_one, hx]; rfl
          have HTK := Lib.hid etk
          have hnx : Nr x := HNQ.out.2 x (List.mem_of_getElem? hx)
          have hno : (∀ y ∈ (r.2.take j).foldl (addL st) r.1, Nr y) ∧ ((r.2.take j).foldl (addL st) r.1).length ≤ r.1.length + j := by
            clear HO2 HTK
            have key : ∀ (P : List Sp) (o : List Sp), (∀ y ∈ P, Nr y) → (∀ y ∈ o, Nr y) → (∀ y ∈ P.foldl (addL st) o, Nr y) ∧ (P.foldl (addL st) o).length ≤ o.length + P.length := by
              intro P
              induction P with
              | nil => exact fun o _ h => ⟨h, Nat.le_refl _⟩
              | cons p P ih =>
                intro o hP h
                have h1 := ih (addL st o p) (fun y hy => hP y (List.mem_cons_of_mem _ hy)) (addL_nr h (hP p List.mem_cons_self))
                have h2 := addL_length (st := st) o p
                refine ⟨h1.1, ?_⟩
                have := h1.2
                rw [List.foldl_cons, List.length_cons]
                omega
            have h1 := key (r.2.take j) r.1 (fun y hy => HNQ.out.2 y (List.mem_of_mem_take hy)) HNQ.out.1
            refine ⟨h1.1, Nat.le_trans h1.2 ?_⟩
            rw [List.length_take]
            omega
          have HX := Lib.hid hx
          clear hx etk
          have hoA := HO2.out.below ((Below.refl wr.heap.size wr).alloc (Nat.le_refl _) (.cells #[.int .i64 x.n, .int .i64 x.lo, .int .i64 x.hi, .int .i64 x.to] 87))
          have hE0 : Eff (w.heap.size + 3) w.heap.size wr (wr.alloc (.cells #[.int .i64 x.n, .int .i64 x.lo, .int .i64 x.hi, .int .i64 x.to] 87)) := Eff.below (by have := HO2.out.sz; omega) ((Below.refl wr.heap.size wr).alloc (Nat.le_refl _) _)
          have hbs := Bs.new wr x 87
          generalize hWA : wr.alloc (.cells #[.int .i64 x.n, .int .i64 x.lo, .int .i64 x.hi, .int .i64 x.to] 87) = WA at *
          obtain ⟨v, hvb, how, _⟩ := hoA.row
          have K1 := Lib.hid (add_any st w.heap.size v _ x WA how hoA.bel.size (by
            have h1 := HLE.out.1
            have h2 := HLE.out.2
            have h3 := hno.2
            have h4 : k * (m + 1) ≤ 10000 * 10001 := Nat.mul_le_mul (by omega) (by omega)
            have h5 := HFF.out
            show ((r.2.take j).foldl (addL st) r.1).length ≤ _
            omega) hno.1 hnx)
          unfold sv at K1
          have cO := hvb.cell
          have cT := hoA.stp.cell
          obtain ⟨g0, g1, g2, g3⟩ := hbs
          simp only [Nat.zero_add] at g1 g2 g3
          have HOA := Lib.hid hoA
          have HVB := Lib.hid hvb
          clear hno hnx hvb how hoA
          gi_wp2_with fail
          refine ⟨trivial, ?_⟩
          refine (callsIn_wide.2 K1.out).mono ?_
          rintro e W1 ⟨v', rfl, h4, h5, h6⟩
          obtain ⟨cz, _, _, Az, ev, _⟩ := Ss.of_own h4
          obtain ⟨lz, hlz⟩ : ∃ lz, lz = (addL st ((r.2.take j).foldl (addL st) r.1) x).length := ⟨_, rfl⟩
          rw [← hlz] at ev
          subst ev
          clear hlz
          obtain ⟨z1, _, _⟩ := HOA.out.kept HVB.out h5
          obtain ⟨hO2, hE2⟩ := HOA.out.step2 HVB.out h4 h5 h6
          have hE := hE0.trans hE2
          have ci := z1.cell
          have fi := z1.frozen
          clear cO cT g0 g1 g2 g3 z1 hWA
          gi_wp2
          go_roundw
          case rel => exact ⟨j + 1, by omega, by go_num, Lib.hid (by rw [HTK.out, List.foldl_append]; exact hO2), Lib.hid ((HM2.out.eff HO2.out hE).more hE.size)⟩
          case measure => simp [intOf]; omega
        · obtain rfl : j = f := by omega
          have t1 : decide (j < j) = false := by simp
          have etj : (r.2.take j).foldl (addL st) r.1 = overL st t over := by
            rw [HOVL.out, List.take_of_length_le (by rw [← HFF.out]; exact Nat.le_refl _)]
          have hz := HO2.out
          rw [etj] at hz
          obtain ⟨v, hvb, how, _⟩ := hz.row
          have hbel := hz.bel
          have cO := hvb.cell
          have HZ : Hid (wr.ownsRow w.heap.size 87 4 v (overL st t over).length (svs (overL st t over)) ∧ Below w.heap.size w wr) := Lib.hid ⟨how, hbel⟩
          clear etj hz hvb how hbel HO2 HOVL
          generalize overL st t over = L at *
          gi_wp2
          refine leaves_marks (Z := fun W => W.ownsRow w.heap.size 87 4 v L.length (svs L) ∧ Below w.heap.size w W) (u := .returning) (by simp) (fun W D hD hK h => own_put hD hK h) (fun W h => ?_) ds wr HM2.out HZ.out
          exact ⟨v, results_tmp (t := 6) rfl _ _ _, own_ret h.1 h.2⟩
end Go.Proofs.YtmjneokjgcgchaaGreat
/-
  append(dst, l...) of spans.
-/
namespace Go.Proofs.YtmjneokjgcgchaaGreat
open Go.RowKit
attribute [local go_sem ↓] Go.wp_at_zero Go.wp_at_succ

theorem Ss.cells {w : World} {B : Nat} {A : Option Addr} {l : List Sp} (h : Ss w B A l) (hn : 0 < l.length) : ∃ ad, A = some ad ∧ ∀ j u, (svs l)[j]? = some u → w.cell? (ad.add j) = some u := by
  obtain ⟨b, o, e, _, hc⟩ := h hn
  refine ⟨_, e, fun j u hu => ?_⟩
  have hj : j < l.length * 4 := by
    rw [← svs_length]
    exact (List.getElem?_eq_some_iff.1 hu).1
  have hx := List.getElem?_eq_getElem (l := l) (i := j / 4) (by omega)
  have h3 := svs_get l (j / 4) (j % 4) _ hx (Nat.mod_lt _ (by decide))
  rw [show j / 4 * 4 + j % 4 = j by omega, hu] at h3
  obtain ⟨c0, c1, c2, c3⟩ := hc _ _ hx
  rw [addr_add]
  rcases (show j % 4 = 0 ∨ j % 4 = 1 ∨ j % 4 = 2 ∨ j % 4 = 3 by omega) with e3 | e3 | e3 | e3
  · rw [e3] at h3
    rw [show o + j = o + j / 4 * 4 by omega, c0, h3]
    rfl
  · rw [e3] at h3
    rw [show o + j = o + j / 4 * 4 + 1 by omega, c1, h3]
    rfl
  · rw [e3] at h3
    rw [show o + j = o + j / 4 * 4 + 2 by omega, c2, h3]
    rfl
  · rw [e3] at h3
    rw [show o + j = o + j / 4 * 4 + 3 by omega, c3, h3]
    rfl
theorem app_spans {P : Program} {w : World} {ops : Array Oper} {rest : List Oper} {o : Oper} {a : Act} {Q : Exit → Act → World → Prop} (hgd : o.guard = none) (s x : Operand) (t : TypeId)
    (ho : o.op = .call { callee := .builtin .append, args := #[s, x], argTypes := #[t, t] })
    (base : Nat) (e : TypeId) (i : TypeInfo) (ht : P.underlying t = some (.slice e)) (hi : P.info? e = some i) (hz : i.zero = some (.agg #[.int .i64 0, .int .i64 0, .int .i64 0, .int .i64 0])) (hsize : i.size = 4) (hby : i.bytes = 32)
    (v : Value) (xs : List Sp) (hs : a.eval s = v) (hown : w.ownsRow base e 4 v xs.length (svs xs)) (B : Nat) (A : Option Addr) (c : Nat) (l : List Sp) (hx : a.eval x = .slice A l.length c) (hA : Ss w B A l) (hc : A = none → c = 0)
    (hl : xs.length + l.length ≤ 1048576) (hbase : base ≤ w.heap.size)
    (h : ∀ v' w', w'.ownsRow base e 4 v' (xs ++ l).length (svs (xs ++ l)) → w.grownBy w' v.ownBlock → wpList P ops Q rest (a.put o.dst v') w') : wpList P ops Q (o :: rest) a w := by
  cases A with
  | none =>
    have hn : l = [] := by
      rcases Nat.eq_zero_or_pos l.length with h0 | h0
      · exact List.eq_nil_of_length_eq_zero h0
      · obtain ⟨b, o, e, _⟩ := hA h0
        cases e
    subst hn
    rw [hc rfl] at hx
    refine wpList_append_own_none hgd s x t ho base e i 4 ht hi v xs.length (svs xs) hs hown hx ?_
    rw [List.append_nil] at h
    exact h v w hown (World.grownBy.refl w _)
  | some ad =>
    have hcell : ∀ j u, (svs l)[j]? = some u → w.cell? (ad.add j) = some u := fun j u hu => by
      have hj : 0 < l.length := by
        have := (List.getElem?_eq_some_iff.1 hu).1
        rw [svs_length] at this
        omega
      obtain ⟨ad', e, hcs⟩ := hA.cells hj
      injection e with e
      subst e
      exact hcs j u hu
    refine wpList_append_own w hgd s x t ho base e i (.agg #[.int .i64 0, .int .i64 0, .int .i64 0, .int .i64 0]) 4 32 ht hi hz hsize hby rfl (by omega) v xs.length (svs xs) hs hown ad l.length c (svs l) hx (svs_length l) hcell (svs_one l) (by unfold maxLen; omega) (by omega) hbase fun v' w' h1 h2 _ => ?_
    rw [← svs_append] at h1
    exact h v' w' (by rw [List.length_append]; exact h1) h2
end Go.Proofs.YtmjneokjgcgchaaGreat
/-
  The document's own 'the same', of lists that are the same.
-/
namespace Go.Proofs.YtmjneokjgcgchaaGreat
open Go.RowKit

set_option maxHeartbeats 4000000 in
theorem rSSame_yes {w : World} {A1 A2 : Option Addr} {c1 c2 : Nat} {l : List Sp} (ha : Ss w w.heap.size A1 l) (hb : Ss w w.heap.size A2 l) (hl : l.length ≤ 1048576) :
    Calls Tryz.prog 34 #[.slice A1 l.length c1, .slice A2 l.length c2] w fun r w' => r = .returned (.bool true) ∧ Below w.heap.size w w' := by
  have HA := Lib.hid ha
  have HB := Lib.hid hb
  clear ha hb
  generalize hn : l.length = n at *
  have HN := Lib.hid hn
  clear hn
  go_enter Tryz.func34, Tryz.ntmps34
  go_wp2
  go_loopw [5] (fun i wr => ∃ k m : Nat, k ≤ n ∧ i = .int .i64 (k : Int) ∧ Hid (wr = w.drewN m)) (fun i _ => n - (intOf i).toNat)
  case atStart => exact ⟨0, 0, Nat.zero_le _, rfl, Lib.hid rfl⟩
  case round =>
    obtain ⟨k, m, hk, rfl, HW⟩ := hrel
    by_cases hkl : k < n
    · have t0 : decide (k < n) = true := by simp; omega
      have hx := List.getElem?_eq_getElem (l := l) (i := k) (by have := HN.out; omega)
      generalize l[k]'(by have := HN.out; omega) = x at *
      obtain ⟨b1, o1, e1, _, q1⟩ := HA.out.at hx
      obtain ⟨b2, o2, e2, _, q2⟩ := HB.out.at hx
      subst e1 e2
      obtain ⟨y0, y1, y2, y3⟩ : S4 wr b1 (o1 + k * 4) x := q1.keep fun i => by rw [HW.out, drewN_cellS]
      obtain ⟨y4, y5, y6, y7⟩ : S4 wr b2 (o2 + k * 4) x := q2.keep fun i => by rw [HW.out, drewN_cellS]
      clear q1 q2 hx
      go_wp2
      go_quiet (fail)
      go_wp2
      refine ⟨⟨k + 1, _, by omega, by go_num, Lib.hid (by rw [HW.out]; exact World.drewN_drewN _ _ _)⟩, by simp [intOf]; omega⟩
    · have t0 : decide (k < n) = false := by simp; omega
      go_wp2
      go_ret
      exact ⟨rfl, by rw [HW.out]; exact below_drewN (Below.refl _ _) _⟩
end Go.Proofs.YtmjneokjgcgchaaGreat
/-
  The program's own Sane, To.
-/
namespace Go.Proofs.YtmjneokjgcgchaaGreat
open Go.RowKit
attribute [local go_sem ↓] Go.wp_at_zero Go.wp_at_succ

theorem Sn_eq (st : Bool) (s : Sp) : decide (Sn st s) = (saneB s.n s.lo && (saneB s.n s.hi && (decide (s.lo ≤ s.hi) && (decide (0 ≤ s.to) && (decide (s.to ≤ 65535) && decide (goesS st s s.hi ≤ 65535)))))) := by
  show decide (saneB s.n s.lo = true ∧ saneB s.n s.hi = true ∧ s.lo ≤ s.hi ∧ 0 ≤ s.to ∧ s.to ≤ 65535 ∧ goesS st s s.hi ≤ 65535) = _
  rw [Bool.eq_iff_iff]
  simp
set_option maxHeartbeats 4000000 in
theorem SSane_any (st : Bool) (s : Sp) (w : World) :
    Calls Tryz.prog 105 #[sv s, .bool st] w fun e w' => e = .returned (.bool (decide (Sn st s))) ∧ Below w.heap.size w w' := by
  have hs := Bs.new w s 87
  have hb0 : Below w.heap.size w (w.alloc (.cells #[.int .i64 s.n, .int .i64 s.lo, .int .i64 s.hi, .int .i64 s.to] 87)) := (Below.refl _ _).alloc (Nat.le_refl _) _
  have hz0 : w.heap.size < (w.alloc (.cells #[.int .i64 s.n, .int .i64 s.lo, .int .i64 s.hi, .int .i64 s.to] 87)).heap.size := by simp
  have K1 := Lib.hid (fun W => Sane_any s.n s.lo W)
  have K2 := Lib.hid (fun W => Sane_any s.n s.hi W)
  have K3 : Hid (Sn st s ∨ ¬ Sn st s → ∀ W, saneB s.n s.lo = true → saneB s.n s.hi = true → 0 ≤ s.to → s.to ≤ 65535 → Calls Tryz.prog 106 #[sv s, .int .i64 s.hi, .bool st] W fun e w' => e = .returned (.int .i64 (goesS st s s.hi)) ∧ Below W.heap.size W w') := Lib.hid fun _ W h1 h2 h3 h4 => by
    have a := saneB_top h1
    have b := saneB_top h2
    exact goes_any st s s.hi W a.1 a.2.1 h3 h4 b.1 (by omega)
  rw [Sn_eq]
  cases d1 : saneB s.n s.lo with
  | false =>
    rw [d1] at K1
    unfold sv at *
    go_enter Tryz.func105, Tryz.ntmps105
    go_wp2_with ((go_at_call 61; refine (K1.out _).mono ?_; rintro e w1 ⟨rfl, hb1⟩))
    go_ret
    exact ⟨rfl, hb0.trans (hb1.mono (by omega))⟩
  | true =>
    cases d2 : saneB s.n s.hi with
    | false =>
      rw [d1] at K1
      rw [d2] at K2
      unfold sv at *
      go_enter Tryz.func105, Tryz.ntmps105
      go_wp2_with fail
      refine (K1.out _).mono ?_
      rintro e w1 ⟨rfl, hb1⟩
      obtain ⟨c0, c1, c2, c3⟩ := hs.below hb1 hz0
      rw [Nat.zero_add] at c1 c2 c3
      go_wp2_with fail
      refine (K2.out _).mono ?_
      rintro e w2 ⟨rfl, hb2⟩
      go_wp2
      go_ret
      exact ⟨rfl, (hb0.trans (hb1.mono (by omega))).trans (hb2.mono (by have := hb1.size; omega))⟩
    | true =>
      have K4 : Hid (∀ W, 0 ≤ s.to → s.to ≤ 65535 → Calls Tryz.prog 106 #[sv s, .int .i64 s.hi, .bool st] W fun e w' => e = .returned (.int .i64 (goesS st s s.hi)) ∧ Below W.heap.size W w') := Lib.hid fun W h3 h4 => K3.out (Classical.em _) W d1 d2 h3 h4
      rw [d1] at K1
      rw [d2] at K2
      clear K3
      generalize goesS st s s.hi = g at *
      unfold sv at *
      have key : ∀ w1 w2, Below (w.alloc (.cells #[.int .i64 s.n, .int .i64 s.lo, .int .i64 s.hi, .int .i64 s.to] 87)).heap.size (w.alloc (.cells #[.int .i64 s.n, .int .i64 s.lo, .int .i64 s.hi, .int .i64 s.to] 87)) w1 → Below w1.heap.size w1 w2 → Below w.heap.size w w2 ∧ w.heap.size < w2.heap.size := fun w1 w2 hb1 hb2 => by
        have a := hb1.size
        have b := hb2.size
        exact ⟨(hb0.trans (hb1.mono (by omega))).trans (hb2.mono (by omega)), by omega⟩
      go_enter Tryz.func105, Tryz.ntmps105
      go_wp2_with fail
      refine (K1.out _).mono ?_
      rintro e w1 ⟨rfl, hb1⟩
      obtain ⟨c0, c1, c2, c3⟩ := hs.below hb1 hz0
      rw [Nat.zero_add] at c1 c2 c3
      go_wp2_with fail
      refine (K2.out _).mono ?_
      rintro e w2 ⟨rfl, hb2⟩
      obtain ⟨hbk, hz2⟩ := key _ _ hb1 hb2
      obtain ⟨c0, c1, c2, c3⟩ := (hs.below hb1 hz0).below hb2 (by have := hb1.size; omega)
      rw [Nat.zero_add] at c1 c2 c3
      clear hb1 hb2 key hs hb0
      by_cases h3 : s.lo ≤ s.hi
      · have d3 : decide (s.lo ≤ s.hi) = true := decide_eq_true h3
        have d3' : decide (s.hi < s.lo) = false := decide_eq_false (by omega)
        by_cases h4 : 0 ≤ s.to
        · have d4 : decide (0 ≤ s.to) = true := decide_eq_true h4
          by_cases h5 : s.to ≤ 65535
          · have d5 : decide (s.to ≤ 65535) = true := decide_eq_true h5
            have K5 := Lib.hid fun W => K4.out W h4 h5
            clear K4 h3 h4 h5
            go_wp2_with ((go_at_call 106; refine (K5.out _).mono ?_; rintro e w3 ⟨rfl, hb3⟩))
            go_ret
            exact ⟨by (first | (rw [d3, d4, d5]; rfl) | rfl), hbk.trans (hb3.mono (by omega))⟩
          · have d5 : decide (s.to ≤ 65535) = false := decide_eq_false h5
            clear K4 h3 h4 h5
            go_wp2_with fail
            go_ret
            exact ⟨by (first | (rw [d3, d4, d5]; rfl) | rfl), hbk⟩
        · have d4 : decide (0 ≤ s.to) = false := decide_eq_false h4
          clear K4 h3 h4
          go_wp2_with fail
          go_ret
          exact ⟨by (first | (rw [d3, d4]; rfl) | rfl), hbk⟩
      · have d3 : decide (s.lo ≤ s.hi) = false := decide_eq_false h3
        have d3' : decide (s.hi < s.lo) = true := decide_eq_true (by omega)
        clear K4 h3
        go_wp2_with fail
        go_ret
        exact ⟨by (first | (rw [d3]; rfl) | rfl), hbk⟩
/-- Two results: a number, and whether it is one. -/
def oV (o : Option Int) : Value := .tuple #[.int .i64 (o.getD 0), .bool o.isSome]
set_option maxHeartbeats 4000000 in
theorem To_any (st : Bool) (s : Sp) (n v : Int) (w : World) :
    Calls Tryz.prog 54 #[sv s, .agg #[.int .i64 n, .int .i64 v], .bool st] w fun e w' => e = .returned (oV (toS st s n v)) ∧ Below w.heap.size w w' := by
  have K1 := Lib.hid (fun W => SSane_any st s W)
  have hs0 := Bs.new w s 87
  have hb0 : Below w.heap.size w ((w.alloc (.cells #[.int .i64 s.n, .int .i64 s.lo, .int .i64 s.hi, .int .i64 s.to] 87)).alloc (.cells #[.int .i64 n, .int .i64 v] 54)) := ((Below.refl _ _).alloc (Nat.le_refl _) _).alloc (by simp) _
  have hs : Bs ((w.alloc (.cells #[.int .i64 s.n, .int .i64 s.lo, .int .i64 s.hi, .int .i64 s.to] 87)).alloc (.cells #[.int .i64 n, .int .i64 v] 54)) w.heap.size s := ⟨by simp, by simp, by simp, by simp⟩
  have hd : Bd ((w.alloc (.cells #[.int .i64 s.n, .int .i64 s.lo, .int .i64 s.hi, .int .i64 s.to] 87)).alloc (.cells #[.int .i64 n, .int .i64 v] 54)) (w.heap.size + 1) n v := ⟨by simp, by simp⟩
  have hz0 : w.heap.size + 1 < ((w.alloc (.cells #[.int .i64 s.n, .int .i64 s.lo, .int .i64 s.hi, .int .i64 s.to] 87)).alloc (.cells #[.int .i64 n, .int .i64 v] 54)).heap.size := by simp
  clear hs0
  by_cases h0 : Sn st s
  · have K2 := Lib.hid (fun (h : s.lo ≤ v ∧ v ≤ s.hi) (W : World) => goes_any st s v W (Sn.nr h0).l0 (Sn.nr h0).l1 (Sn.nr h0).t0 (Sn.nr h0).t1 (by have := (Sn.nr h0).l0; omega) (by have := (Sn.nr h0).h1; omega))
    have e : toS st s n v = if (n == s.n && (decide (s.lo ≤ v) && decide (v ≤ s.hi))) = true then some (goesS st s v) else none := by
      unfold toS
      congr 1
      simp [h0]
    generalize goesS st s v = g at *
    obtain ⟨r, hr⟩ : ∃ r, r = toS st s n v := ⟨_, rfl⟩
    rw [← hr]
    have HR := Lib.hid (hr.trans e)
    rw [decide_eq_true h0] at K1
    clear e h0 hr
    unfold sv at *
    go_enter Tryz.func54, Tryz.ntmps54
    go_wp2_with fail
    refine (K1.out _).mono ?_
    rintro e w1 ⟨rfl, hb1⟩
    obtain ⟨c0, c1, c2, c3⟩ := hs.below hb1 (by omega)
    obtain ⟨f0, f1⟩ := hd.below hb1 hz0
    rw [Nat.zero_add] at c1 c2 c3
    have hbk : Below w.heap.size w w1 := hb0.trans (hb1.mono (by omega))
    have hz1 : w.heap.size < w1.heap.size := by have := hb1.size; omega
    clear hb1 hb0 hs hd hz0
    by_cases h1 : n = s.n
    · have d1 : (n == s.n) = true := by simp [h1]
      have d1' : (n != s.n) = false := by simp [h1]
      have H1 := Lib.hid h1
      clear h1
      by_cases h2 : s.lo ≤ v
      · have d2 : decide (v < s.lo) = false := decide_eq_false (by omega)
        by_cases h3 : v ≤ s.hi
        · have d3 : decide (s.hi < v) = false := decide_eq_false (by omega)
          have e2 : (if (n == s.n && (decide (s.lo ≤ v) && decide (v ≤ s.hi))) = true then some g else none) = some g := by simp [d1, h2, h3]
          have E2 := Lib.hid e2
          have K3 := Lib.hid (fun W => K2.out ⟨h2, h3⟩ W)
          clear K2 h2 h3 e2
          go_wp2_with ((go_at_call 106; refine (K3.out _).mono ?_; rintro e w3 ⟨rfl, hb3⟩))
          go_returns
          exact ⟨by first | rfl | (rw [HR.out, E2.out]; rfl), hbk.trans (hb3.mono (by omega))⟩
        · have d3 : decide (s.hi < v) = true := decide_eq_true (by omega)
          have e2 : (if (n == s.n && (decide (s.lo ≤ v) && decide (v ≤ s.hi))) = true then some g else none) = none := by simp [h3]
          have E2 := Lib.hid e2
          clear K2 h2 h3 e2
          go_wp2_with fail
          go_returns
          exact ⟨by first | rfl | (rw [HR.out, E2.out]; rfl), hbk⟩
      · have d2 : decide (v < s.lo) = true := decide_eq_true (by omega)
        have e2 : (if (n == s.n && (decide (s.lo ≤ v) && decide (v ≤ s.hi))) = true then some g else none) = none := by simp [h2]
        have E2 := Lib.hid e2
        clear K2 h2 e2
        go_wp2_with fail
        go_returns
        exact ⟨by first | rfl | (rw [HR.out, E2.out]; rfl), hbk⟩
    · have d1 : (n != s.n) = true := by simp [h1]
      have d1' : (n == s.n) = false := by simp [h1]
      have e2 : (if (n == s.n && (decide (s.lo ≤ v) && decide (v ≤ s.hi))) = true then some g else none) = none := by simp [h1]
      have E2 := Lib.hid e2
      clear K2 h1 e2
      go_wp2_with fail
      go_returns
      exact ⟨by first | rfl | (rw [HR.out, E2.out]; rfl), hbk⟩
  · have e : toS st s n v = none := by
      unfold toS
      rw [if_neg (fun k => h0 k.1)]
    rw [e]
    rw [decide_eq_false h0] at K1
    clear e h0
    unfold sv at *
    go_enter Tryz.func54, Tryz.ntmps54
    go_wp2_with ((go_at_call 105; refine (K1.out _).mono ?_; rintro e w3 ⟨rfl, hb3⟩))
    go_returns
    exact ⟨rfl, hb0.trans (hb3.mono (by omega))⟩
end Go.Proofs.YtmjneokjgcgchaaGreat
