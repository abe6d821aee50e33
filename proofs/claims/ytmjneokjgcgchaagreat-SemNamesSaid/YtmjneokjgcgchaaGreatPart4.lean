/-
  Parts of this proof, one behind the other: UtfLift, SemPure, DestView, SemView, SemView2, DestJoin, DestRun, DestAdd, DestFz, DestCanon.
-/
import Derived.Test.YtmjneokjgcgchaaGreatRows
import Derived.Test.YtmjneokjgcgchaaGreatPart2
import Derived.ProofKit
import Derived.OpenShut
import Derived.Deep.DeepHandedRow
import Derived.Lib.SmallJoins
import Derived.Carry
import Derived.Test.YtmjneokjgcgchaaGreatPart1
import Derived.Test.YtmjneokjgcgchaaGreatPart3
import Derived.Deep.Slices
import Derived.Deep.Strs
import Derived.Handy
import Derived.Deep.RegionHeld
import Derived.Deep.DrawnRows
import Derived.Deep.AppendLies
import Derived.Laws.OwnMore
/-
  What every row of this seat's layer 2 takes: a world for the witness.
-/
namespace Go.Proofs.YtmjneokjgcgchaaGreat
open Go.ChangeShapes Go.WideShapes Go.ChangeAt Go.RowKit

theorem own : ownKnob Tryz.prog.godebug = none := by kernel_rfl
theorem laidOut : laidOutB Tryz.prog = true := by kernel_rfl
/-- A WORLD FOR THE WITNESS: the settled one. -/
noncomputable def plainWorld (os : Os) : World := World.holding Tryz.prog os ⟨#[], #[], []⟩
end Go.Proofs.YtmjneokjgcgchaaGreat
/-
  Layer 9 as plain lists: what items do to a table, what is merged; the laws.
-/
namespace Go.Proofs.YtmjneokjgcgchaaGreat

section
variable {α : Type} [DecidableEq α] {ok : α → Bool} {ho lt : α → α → Bool}
/-- Lists that hold one another keep the same ones. -/
theorem Sty.cov (h : Hol ok ho lt) {l k : List α} (h1 : ∀ r ∈ l, ok r = true → ∃ s ∈ k, ho s r = true) (h2 : ∀ r ∈ k, ok r = true → ∃ s ∈ l, ho s r = true) {r : α} (hr : Sty ok ho l r) : Sty ok ho k r := by
  obtain ⟨r1, r2, r3⟩ := hr
  have key : ∀ s ∈ k, ho s r = true → s = r := fun s hs hb => by
    obtain ⟨t, ht, hc⟩ := h2 s hs (h.okl s r hb).1
    have e : t = r := Decidable.byContradiction fun hne => by
      have := r3 t ht hne
      rw [h.trans t s r hc hb] at this
      cases this
    rw [e] at hc
    exact h.anti s r hb hc
  obtain ⟨s, hs, hb⟩ := h1 r r1 r2
  have e := key s hs hb
  rw [e] at hs
  refine ⟨hs, r2, fun s hs hne => ?_⟩
  cases hb : ho s r with
  | false => rfl
  | true => exact absurd (key s hs hb) hne
theorem Cnn.cov (h : Hol ok ho lt) {l k m : List α} (h1 : ∀ r ∈ l, ok r = true → ∃ s ∈ k, ho s r = true) (h2 : ∀ r ∈ k, ok r = true → ∃ s ∈ l, ho s r = true) (a : Cnn ok ho lt l m) : Cnn ok ho lt k m :=
  ⟨a.ord, fun r => (a.mem r).trans ⟨Sty.cov h h1 h2, Sty.cov h h2 h1⟩⟩
omit [DecidableEq α] in
theorem Cnn.sub {l m : List α} (a : Cnn ok ho lt l m) {r : α} (hr : r ∈ m) : r ∈ l := ((a.mem r).1 hr).1
theorem Cnn.cat (h : Hol ok ho lt) {a b ma mb m : List α} (ha : Cnn ok ho lt a ma) (hb : Cnn ok ho lt b mb) (hm : Cnn ok ho lt (ma ++ mb) m) : Cnn ok ho lt (a ++ b) m := by
  refine hm.cov h (fun r hr hk => ?_) (fun r hr hk => ?_)
  · rcases List.mem_append.1 hr with hr | hr
    · exact ⟨r, List.mem_append_left _ (ha.sub hr), h.refl r hk⟩
    · exact ⟨r, List.mem_append_right _ (hb.sub hr), h.refl r hk⟩
  · rcases List.mem_append.1 hr with hr | hr
    · obtain ⟨s, hs, hh⟩ := ha.covers h hr hk
      exact ⟨s, List.mem_append_left _ hs, hh⟩
    · obtain ⟨s, hs, hh⟩ := hb.covers h hr hk
      exact ⟨s, List.mem_append_right _ hs, hh⟩
theorem Cnn.front (h : Hol ok ho lt) {a b ma m : List α} (ha : Cnn ok ho lt a ma) (hm : Cnn ok ho lt (ma ++ b) m) : Cnn ok ho lt (a ++ b) m := by
  refine hm.cov h (fun r hr hk => ?_) (fun r hr hk => ?_)
  · rcases List.mem_append.1 hr with hr | hr
    · exact ⟨r, List.mem_append_left _ (ha.sub hr), h.refl r hk⟩
    · exact ⟨r, List.mem_append_right _ hr, h.refl r hk⟩
  · rcases List.mem_append.1 hr with hr | hr
    · obtain ⟨s, hs, hh⟩ := ha.covers h hr hk
      exact ⟨s, List.mem_append_left _ hs, hh⟩
    · exact ⟨r, List.mem_append_right _ hr, h.refl r hk⟩
theorem Cnn.dup (h : Hol ok ho lt) {a b m : List α} (hab : ∀ r, r ∈ a ↔ r ∈ b) (hm : Cnn ok ho lt a m) : Cnn ok ho lt b m :=
  hm.cov h (fun r hr hk => ⟨r, (hab r).1 hr, h.refl r hk⟩) (fun r hr hk => ⟨r, (hab r).2 hr, h.refl r hk⟩)
omit [DecidableEq α] in
theorem Cnn.nil : Cnn ok ho lt ([] : List α) [] := ⟨List.Pairwise.nil, fun r => ⟨fun h => (by cases h), fun h => (by cases h.1)⟩⟩
end
abbrev CR (l m : List Rc) : Prop := Cnn saneR hoC ltC l m
theorem CR.one {l m m' : List Rc} (a : CR l m) (b : CR l m') : m = m' := Cnn.unique hol a b

/-- A table as plain lists. -/
structure Pg where
  nm : List UInt8
  wm : Int
  sp : List Rc
  ci : List Sp
  no : List Sp
  bf : List Bp
def Pg.nil : Pg := ⟨[], 0, [], [], [], []⟩
def rcE (e : En) : Rc := ⟨e.lo.n, e.lo.v, e.hi.v⟩
def spE (e : En) : Sp := ⟨e.lo.n, e.lo.v, e.hi.v, e.to⟩
/-- Those of an entry: its own, or one for each of its units. -/
def bfE (e : En) : List Bp := if e.ll = [] then [⟨e.lo.n, e.lo.v, e.hi.v, e.u⟩] else (List.range e.ll.length).map fun (i : Nat) => ⟨e.lo.n, IntKind.i64.wrap (e.lo.v + (i : Int)), IntKind.i64.wrap (e.lo.v + (i : Int)), e.ll[i]?.getD []⟩
/-- CMapName, WMode. -/
def cmN : List UInt8 := [67, 77, 97, 112, 78, 97, 109, 101]
def wmN : List UInt8 := [87, 77, 111, 100, 101]
def nmI (x : Im) : Option (List UInt8) := if x.kind = 0 ∧ x.name = cmN ∧ x.val.kind = 2 then some x.val.s else none
def wmI (x : Im) : Option Int := if x.kind = 0 ∧ x.name = wmN ∧ x.val.kind = 1 ∧ (x.val.n = 0 ∨ x.val.n = 1) then some x.val.n else none
/-- With what an item lists. -/
def lstI (t : Pg) (x : Im) : Pg where
  nm := (nmI x).getD t.nm
  wm := (wmI x).getD t.wm
  sp := if x.kind = 2 then t.sp ++ x.ents.map rcE else t.sp
  ci := if x.kind = 3 ∨ x.kind = 4 then t.ci ++ x.ents.map spE else t.ci
  no := if x.kind = 5 ∨ x.kind = 6 then t.no ++ x.ents.map spE else t.no
  bf := if x.kind = 7 ∨ x.kind = 8 then t.bf ++ x.ents.flatMap bfE else t.bf
/-- Spans put together, entries put together. -/
def IsS (st : Bool) (l m : List Sp) : Prop := Cn st m ∧ ∀ n v, lastS st m n v = lastS st l n v
def IsB (l m : List Bp) : Prop := Ct m ∧ ∀ n v, lastB m n v = lastB l n v
theorem IsS.one {st : Bool} {l m m' : List Sp} (a : IsS st l m) (b : IsS st l m') : m = m' := a.1.one b.1 fun n v => (a.2 n v).trans (b.2 n v).symm
theorem IsB.one {l m m' : List Bp} (a : IsB l m) (b : IsB l m') : m = m' := a.1.one b.1 fun n v => (a.2 n v).trans (b.2 n v).symm
theorem IsS.cat {st : Bool} {a b ma mb m : List Sp} (ha : IsS st a ma) (hb : IsS st b mb) (hm : IsS st (ma ++ mb) m) : IsS st (a ++ b) m := ⟨hm.1, fun n v => by rw [hm.2, lastS_append, lastS_append, ha.2, hb.2]⟩
theorem IsB.cat {a b ma mb m : List Bp} (ha : IsB a ma) (hb : IsB b mb) (hm : IsB (ma ++ mb) m) : IsB (a ++ b) m := ⟨hm.1, fun n v => by rw [hm.2, lastB_append, lastB_append, ha.2, hb.2]⟩
theorem IsS.front {st : Bool} {a b ma m : List Sp} (ha : IsS st a ma) (hm : IsS st (ma ++ b) m) : IsS st (a ++ b) m := ⟨hm.1, fun n v => by rw [hm.2, lastS_append, lastS_append, ha.2]⟩
theorem IsB.front {a b ma m : List Bp} (ha : IsB a ma) (hm : IsB (ma ++ b) m) : IsB (a ++ b) m := ⟨hm.1, fun n v => by rw [hm.2, lastB_append, lastB_append, ha.2]⟩
/-- A table is what lists come to. -/
structure Cm (m t : Pg) : Prop where
  nm : t.nm = m.nm
  wm : t.wm = m.wm
  sp : CR m.sp t.sp
  ci : IsS true m.ci t.ci
  no : IsS false m.no t.no
  bf : IsB m.bf t.bf
theorem Cm.one {m t t' : Pg} (a : Cm m t) (b : Cm m t') : t = t' := by
  cases t; cases t'
  simp only [Pg.mk.injEq]
  exact ⟨a.nm.trans b.nm.symm, a.wm.trans b.wm.symm, a.sp.one b.sp, a.ci.one b.ci, a.no.one b.no, a.bf.one b.bf⟩
theorem Cm.nil : Cm Pg.nil Pg.nil := ⟨rfl, rfl, Cnn.nil, ⟨Cn.nil, fun _ _ => rfl⟩, ⟨Cn.nil, fun _ _ => rfl⟩, ⟨Ct.nil, fun _ _ => rfl⟩⟩
/-- One's lists of a kind are put together. -/
structure Blt (k : Int) (t u : Pg) : Prop where
  nm : u.nm = t.nm
  wm : u.wm = t.wm
  sp : if k = 2 then CR t.sp u.sp else u.sp = t.sp
  ci : if k = 3 ∨ k = 4 then IsS true t.ci u.ci else u.ci = t.ci
  no : if k = 5 ∨ k = 6 then IsS false t.no u.no else u.no = t.no
  bf : if k = 7 ∨ k = 8 then IsB t.bf u.bf else u.bf = t.bf
/-- What an item does. -/
def Did (t : Pg) (x : Im) (u : Pg) : Prop := Blt x.kind (lstI t x) u
theorem Blt.one {k : Int} {t u u' : Pg} (a : Blt k t u) (b : Blt k t u') : u = u' := by
  cases u; cases u'
  simp only [Pg.mk.injEq]
  refine ⟨a.nm.trans b.nm.symm, a.wm.trans b.wm.symm, ?_, ?_, ?_, ?_⟩
  · have h1 := a.sp; have h2 := b.sp
    split at h1
    · rw [if_pos (by assumption)] at h2
      exact h1.one h2
    · rw [if_neg (by assumption)] at h2
      exact h1.trans h2.symm
  · have h1 := a.ci; have h2 := b.ci
    split at h1
    · rw [if_pos (by assumption)] at h2
      exact h1.one h2
    · rw [if_neg (by assumption)] at h2
      exact h1.trans h2.symm
  · have h1 := a.no; have h2 := b.no
    split at h1
    · rw [if_pos (by assumption)] at h2
      exact h1.one h2
    · rw [if_neg (by assumption)] at h2
      exact h1.trans h2.symm
  · have h1 := a.bf; have h2 := b.bf
    split at h1
    · rw [if_pos (by assumption)] at h2
      exact h1.one h2
    · rw [if_neg (by assumption)] at h2
      exact h1.trans h2.symm
theorem Cm.did {m t u : Pg} {x : Im} (h : Cm m t) (d : Did t x u) : Cm (lstI m x) u := by
  obtain ⟨d1, d2, d3, d4, d5, d6⟩ := d
  refine ⟨?_, ?_, ?_, ?_, ?_, ?_⟩
  · rw [d1]
    show (nmI x).getD t.nm = (nmI x).getD m.nm
    rw [h.nm]
  · rw [d2]
    show (wmI x).getD t.wm = (wmI x).getD m.wm
    rw [h.wm]
  · by_cases hk : x.kind = 2
    · simp only [lstI, hk, if_true] at d3 ⊢
      exact Cnn.front hol h.sp d3
    · simp only [lstI, hk, if_false] at d3 ⊢
      rw [d3]; exact h.sp
  · by_cases hk : x.kind = 3 ∨ x.kind = 4
    · simp only [lstI, hk, if_true] at d4 ⊢
      exact h.ci.front d4
    · simp only [lstI, hk, if_false] at d4 ⊢
      rw [d4]; exact h.ci
  · by_cases hk : x.kind = 5 ∨ x.kind = 6
    · simp only [lstI, hk, if_true] at d5 ⊢
      exact h.no.front d5
    · simp only [lstI, hk, if_false] at d5 ⊢
      rw [d5]; exact h.no
  · by_cases hk : x.kind = 7 ∨ x.kind = 8
    · simp only [lstI, hk, if_true] at d6 ⊢
      exact h.bf.front d6
    · simp only [lstI, hk, if_false] at d6 ⊢
      rw [d6]; exact h.bf
/-- Items one behind the other. -/
def AllR : Pg → List Im → Pg → Prop
  | t, [], u => u = t
  | t, x :: l, u => ∃ s, Did t x s ∧ AllR s l u
def lstL (t : Pg) (l : List Im) : Pg := l.foldl lstI t
theorem lstL_append (t : Pg) (a b : List Im) : lstL t (a ++ b) = lstL (lstL t a) b := by simp [lstL]
theorem AllR.append {b : List Im} {v : Pg} : ∀ {a : List Im} {t u : Pg}, AllR t a u → AllR u b v → AllR t (a ++ b) v
  | [], _, _, h, k => by
    have h : _ = _ := h
    rw [h] at k
    exact k
  | _ :: _, _, _, ⟨s, h1, h2⟩, k => ⟨s, h1, AllR.append h2 k⟩
theorem AllR.snoc {a : List Im} {x : Im} {t u v : Pg} (h : AllR t a u) (d : Did u x v) : AllR t (a ++ [x]) v := h.append ⟨v, d, rfl⟩
theorem Cm.all : ∀ {l : List Im} {m t u : Pg}, Cm m t → AllR t l u → Cm (lstL m l) u
  | [], _, _, _, h, k => by
    have k : _ = _ := k
    rw [k]
    exact h
  | x :: l, m, _, _, h, ⟨_, h1, h2⟩ => Cm.all (l := l) (m := lstI m x) (h.did h1) h2
/-- Two tables, one behind the other, with the name and the mode of the first one. -/
def Pg.cat (t u : Pg) : Pg := ⟨t.nm, t.wm, t.sp ++ u.sp, t.ci ++ u.ci, t.no ++ u.no, t.bf ++ u.bf⟩
theorem Cm.cat {m m' t t' z : Pg} (a : Cm m t) (b : Cm m' t') (c : Cm (t.cat t') z) : Cm (m.cat m') z :=
  ⟨c.nm.trans a.nm, c.wm.trans a.wm, Cnn.cat hol a.sp b.sp c.sp, a.ci.cat b.ci c.ci, a.no.cat b.no c.no, a.bf.cat b.bf c.bf⟩
/-- The lists of two parts are those of both. -/
theorem lstI_sp (t : Pg) (x : Im) : (lstI t x).sp = t.sp ++ (lstI Pg.nil x).sp := by simp only [lstI, Pg.nil]; split <;> simp
theorem lstI_ci (t : Pg) (x : Im) : (lstI t x).ci = t.ci ++ (lstI Pg.nil x).ci := by simp only [lstI, Pg.nil]; split <;> simp
theorem lstI_no (t : Pg) (x : Im) : (lstI t x).no = t.no ++ (lstI Pg.nil x).no := by simp only [lstI, Pg.nil]; split <;> simp
theorem lstI_bf (t : Pg) (x : Im) : (lstI t x).bf = t.bf ++ (lstI Pg.nil x).bf := by simp only [lstI, Pg.nil]; split <;> simp
theorem lstL_sp : ∀ (l : List Im) (t : Pg), (lstL t l).sp = t.sp ++ (lstL Pg.nil l).sp
  | [], t => by simp [lstL, Pg.nil]
  | x :: l, t => by
    show (lstL (lstI t x) l).sp = t.sp ++ (lstL (lstI Pg.nil x) l).sp
    rw [lstL_sp l (lstI t x), lstL_sp l (lstI Pg.nil x), lstI_sp t x, List.append_assoc]
theorem lstL_ci : ∀ (l : List Im) (t : Pg), (lstL t l).ci = t.ci ++ (lstL Pg.nil l).ci
  | [], t => by simp [lstL, Pg.nil]
  | x :: l, t => by
    show (lstL (lstI t x) l).ci = t.ci ++ (lstL (lstI Pg.nil x) l).ci
    rw [lstL_ci l (lstI t x), lstL_ci l (lstI Pg.nil x), lstI_ci t x, List.append_assoc]
theorem lstL_no : ∀ (l : List Im) (t : Pg), (lstL t l).no = t.no ++ (lstL Pg.nil l).no
  | [], t => by simp [lstL, Pg.nil]
  | x :: l, t => by
    show (lstL (lstI t x) l).no = t.no ++ (lstL (lstI Pg.nil x) l).no
    rw [lstL_no l (lstI t x), lstL_no l (lstI Pg.nil x), lstI_no t x, List.append_assoc]
theorem lstL_bf : ∀ (l : List Im) (t : Pg), (lstL t l).bf = t.bf ++ (lstL Pg.nil l).bf
  | [], t => by simp [lstL, Pg.nil]
  | x :: l, t => by
    show (lstL (lstI t x) l).bf = t.bf ++ (lstL (lstI Pg.nil x) l).bf
    rw [lstL_bf l (lstI t x), lstL_bf l (lstI Pg.nil x), lstI_bf t x, List.append_assoc]
/-- But for name and mode. -/
def Pg.at (t : Pg) (n : List UInt8) (w : Int) : Pg := ⟨n, w, t.sp, t.ci, t.no, t.bf⟩
/-- WHAT IS DONE IN TWO PARTS IS DONE AT ONCE. -/
theorem parts {l m : List Im} {a b c z : Pg} (ha : AllR Pg.nil (l ++ m) a) (hb : AllR Pg.nil l b) (hc : AllR Pg.nil m c) (hz : Cm (b.cat c) z) : z.at a.nm a.wm = a := by
  have h1 := Cm.nil.all ha
  have h2 := (Cm.nil.all hb).cat (Cm.nil.all hc) hz
  refine Cm.one (m := lstL Pg.nil (l ++ m)) ⟨h1.nm, h1.wm, ?_, ?_, ?_, ?_⟩ h1
  · have := h2.sp
    rw [lstL_append, lstL_sp]
    exact this
  · have := h2.ci
    rw [lstL_append, lstL_ci]
    exact this
  · have := h2.no
    rw [lstL_append, lstL_no]
    exact this
  · have := h2.bf
    rw [lstL_append, lstL_bf]
    exact this
/-- A table that may be. -/
structure Ts (t : Pg) : Prop where
  wm : t.wm = 0 ∨ t.wm = 1
  sp : CR t.sp t.sp
  ci : Cn true t.ci
  no : Cn false t.no
  bf : Ct t.bf
theorem Cm.ts {m t : Pg} (h : Cm m t) (hw : m.wm = 0 ∨ m.wm = 1) : Ts t := ⟨by rw [h.wm]; exact hw, h.sp.again, h.ci.1, h.no.1, h.bf.1⟩
theorem wmI_ok {x : Im} {w : Int} (h : wmI x = some w) : w = 0 ∨ w = 1 := by
  unfold wmI at h
  split at h
  · rename_i k
    injection h with h
    rw [← h]
    exact k.2.2.2
  · cases h
theorem lstI_wm {t : Pg} {x : Im} (h : t.wm = 0 ∨ t.wm = 1) : (lstI t x).wm = 0 ∨ (lstI t x).wm = 1 := by
  show (wmI x).getD t.wm = 0 ∨ (wmI x).getD t.wm = 1
  cases e : wmI x with
  | none => exact h
  | some w => exact wmI_ok e
theorem lstL_wm : ∀ {l : List Im} {t : Pg}, (t.wm = 0 ∨ t.wm = 1) → (lstL t l).wm = 0 ∨ (lstL t l).wm = 1
  | [], _, h => h
  | x :: l, t, h => lstL_wm (l := l) (t := lstI t x) (lstI_wm h)
theorem all_ts {l : List Im} {t : Pg} (h : AllR Pg.nil l t) : Ts t := (Cm.nil.all h).ts (lstL_wm (.inl rfl))
/-- A table that may be is what its own lists come to. -/
theorem Ts.self {t : Pg} (h : Ts t) : Cm t t := ⟨rfl, rfl, h.sp, ⟨h.ci, fun _ _ => rfl⟩, ⟨h.no, fun _ _ => rfl⟩, h.bf, fun _ _ => rfl⟩
theorem or_self' {β : Type} (o : Option β) : o.or o = o := by cases o <;> rfl
theorem or_mid {β : Type} (a b : Option β) : a.or (a.or b) = a.or b := by cases a <;> rfl
/-- WHAT IS MERGED IS MERGED ONCE. -/
theorem Ts.twice {t z : Pg} (h : Ts t) (hz : Cm (t.cat t) z) : z = t := by
  refine Cm.one (m := t) ⟨hz.nm, hz.wm, ?_, ⟨hz.ci.1, fun n v => ?_⟩, ⟨hz.no.1, fun n v => ?_⟩, hz.bf.1, fun n v => ?_⟩ h.self
  · exact Cnn.dup hol (fun r => by simp [Pg.cat]) hz.sp
  · rw [hz.ci.2]; simp only [Pg.cat]; rw [lastS_append, or_self']
  · rw [hz.no.2]; simp only [Pg.cat]; rw [lastS_append, or_self']
  · rw [hz.bf.2]; simp only [Pg.cat]; rw [lastB_append, or_self']
theorem Ts.nil {t z : Pg} (h : Ts t) (hz : Cm (t.cat Pg.nil) z) : z = t := by
  refine Cm.one (m := t) ?_ h.self
  have e : t.cat Pg.nil = t := by cases t; simp [Pg.cat, Pg.nil]
  rwa [e] at hz
theorem merge_again {t u z w : Pg} (hz : Cm (t.cat u) z) (hw : Cm (z.cat u) w) : w = z := by
  refine Cm.one (m := t.cat u) ⟨hw.nm.trans hz.nm, hw.wm.trans hz.wm, ?_, ⟨hw.ci.1, fun n v => ?_⟩, ⟨hw.no.1, fun n v => ?_⟩, hw.bf.1, fun n v => ?_⟩ hz
  · exact Cnn.dup hol (fun r => by simp [Pg.cat]) (Cnn.front hol hz.sp hw.sp)
  · have e := hz.ci.2 n v
    rw [hw.ci.2]
    simp only [Pg.cat] at e ⊢
    rw [lastS_append, e, lastS_append, or_mid]
  · have e := hz.no.2 n v
    rw [hw.no.2]
    simp only [Pg.cat] at e ⊢
    rw [lastS_append, e, lastS_append, or_mid]
  · have e := hz.bf.2 n v
    rw [hw.bf.2]
    simp only [Pg.cat] at e ⊢
    rw [lastB_append, e, lastB_append, or_mid]
/-- What the last definition says. -/
def lastN : List Im → Option (List UInt8)
  | [] => none
  | x :: l => (lastN l).or (nmI x)
def lastW : List Im → Option Int
  | [] => none
  | x :: l => (lastW l).or (wmI x)
theorem lstL_nm : ∀ (l : List Im) (t : Pg), (lstL t l).nm = (lastN l).getD t.nm
  | [], _ => rfl
  | x :: l, t => by
    show (lstL (lstI t x) l).nm = _
    rw [lstL_nm l, lastN]
    show (lastN l).getD ((nmI x).getD t.nm) = _
    cases lastN l <;> rfl
theorem lstL_wmo : ∀ (l : List Im) (t : Pg), (lstL t l).wm = (lastW l).getD t.wm
  | [], _ => rfl
  | x :: l, t => by
    show (lstL (lstI t x) l).wm = _
    rw [lstL_wmo l, lastW]
    show (lastW l).getD ((wmI x).getD t.wm) = _
    cases lastW l <;> rfl
/-- WHAT IS SAID TWICE IS SAID ONCE. -/
theorem said_twice {l : List Im} {t u : Pg} (ht : AllR Pg.nil l t) (hu : AllR Pg.nil (l ++ l) u) : u = t := by
  have h1 := Cm.nil.all ht
  have h2 := Cm.nil.all hu
  rw [lstL_append] at h2
  refine Cm.one (m := lstL Pg.nil l) ⟨?_, ?_, ?_, ⟨h2.ci.1, fun n v => ?_⟩, ⟨h2.no.1, fun n v => ?_⟩, h2.bf.1, fun n v => ?_⟩ h1
  · rw [h2.nm, lstL_nm, lstL_nm]; cases lastN l <;> rfl
  · rw [h2.wm, lstL_wmo, lstL_wmo]; cases lastW l <;> rfl
  · have := h2.sp
    rw [lstL_sp] at this
    exact Cnn.dup hol (fun r => by simp) this
  · rw [h2.ci.2, lstL_ci, lastS_append, or_self']
  · rw [h2.no.2, lstL_no, lastS_append, or_self']
  · rw [h2.bf.2, lstL_bf, lastB_append, or_self']
/-- DEFINITIONS CHANGE NO TABLE, AND SECTIONS NO NAME. -/
theorem did_else {t u : Pg} {x : Im} (h : x.kind = 1 ∨ x.kind < 0 ∨ 8 < x.kind) (d : Did t x u) : u = t := by
  obtain ⟨d1, d2, d3, d4, d5, d6⟩ := d
  have e1 : nmI x = none := by unfold nmI; rw [if_neg (fun k => by have := k.1; omega)]
  have e2 : wmI x = none := by unfold wmI; rw [if_neg (fun k => by have := k.1; omega)]
  rw [if_neg (by omega)] at d3 d4 d5 d6
  cases u; cases t
  simp only [lstI, e1, e2, Option.getD_none] at d1 d2 d3 d4 d5 d6
  rw [if_neg (by omega)] at d3 d4 d5 d6
  simp only [Pg.mk.injEq]
  exact ⟨d1, d2, d3, d4, d5, d6⟩
theorem did_def {t u : Pg} {x : Im} (h : x.kind = 0) (d : Did t x u) : u.at t.nm t.wm = t := by
  obtain ⟨d1, d2, d3, d4, d5, d6⟩ := d
  rw [if_neg (by omega)] at d3 d4 d5 d6
  simp only [lstI] at d3 d4 d5 d6
  rw [if_neg (by omega)] at d3 d4 d5 d6
  cases u; cases t
  simp only [Pg.at, Pg.mk.injEq] at *
  exact ⟨trivial, trivial, d3, d4, d5, d6⟩
theorem did_sec {t u : Pg} {x : Im} (h : x.kind ≠ 0) (d : Did t x u) : u.nm = t.nm ∧ u.wm = t.wm := by
  obtain ⟨d1, d2, _⟩ := d
  have e1 : nmI x = none := by unfold nmI; rw [if_neg (fun k => h k.1)]
  have e2 : wmI x = none := by unfold wmI; rw [if_neg (fun k => h k.1)]
  simp only [lstI, e1, e2, Option.getD_none] at d1 d2
  exact ⟨d1, d2⟩
/-- A TABLE IS WHAT THE LAST ONE THAT IS LISTED SAYS. -/
theorem all_last {l : List Im} {t : Pg} (h : AllR Pg.nil l t) : (∀ n v, lastS true t.ci n v = lastS true (lstL Pg.nil l).ci n v) ∧ (∀ n v, lastS false t.no n v = lastS false (lstL Pg.nil l).no n v) ∧ (∀ n v, lastB t.bf n v = lastB (lstL Pg.nil l).bf n v) ∧ (∀ n v, t.sp.any (fun r => inC r n v) = (lstL Pg.nil l).sp.any fun r => inC r n v) ∧ t.nm = (lstL Pg.nil l).nm ∧ t.wm = (lstL Pg.nil l).wm := by
  have k := Cm.nil.all h
  exact ⟨k.ci.2, k.no.2, k.bf.2, fun n v => Cnn.whole hol k.sp (fun r hr => ((inC_iff r n v).1 hr).1) (fun s r hb hi => inC_held hb hi), k.nm, k.wm⟩
end Go.Proofs.YtmjneokjgcgchaaGreat
/-
  An argument that is an entry, or a list of entries, as a walk wants it.
-/
namespace Go.Proofs.YtmjneokjgcgchaaGreat
open Go.ChangeShapes Go.WideShapes Go.ChangeAt Go.RowKit Go.Joins

theorem list_ofB {α : Type} {Q : Nat → α → Prop} (d : α) : ∀ n, (∀ i, i < n → ∃ x, Q i x) → ∃ l : List α, l.length = n ∧ ∀ i, i < n → Q i (l[i]?.getD d)
  | 0, _ => ⟨[], rfl, fun _ h => by omega⟩
  | n + 1, h => by
    obtain ⟨l, hl, hq⟩ := list_ofB d n (fun i hi => h i (by omega))
    obtain ⟨x, hx⟩ := h n (by omega)
    refine ⟨l ++ [x], by simp [hl], fun i hi => ?_⟩
    by_cases hin : i < n
    · rw [List.getElem?_append_left (by omega)]; exact hq i hin
    · obtain rfl : i = n := by omega
      rw [List.getElem?_append_right (by omega), hl]
      simpa using hx
section
variable {H : Type} {enc : TypeId × Value → H} {W : World} {base : Nat} {v : Value} {d : DataW H} {p : List MemPlace}
theorem view_units {P : Program} {t e : TypeId} {fuel : Nat} {x : DataW H × List MemPlace} (ht : P.underlying t = some (.slice e)) (he : P.underlying e = some (.int .i64)) (hc : P.cellsOf e = 1) (h : DataW.trod enc P W 0 (fun _ => true) true fuel t [v] = some x) :
    ∃ A u c, v = .slice A u.length c ∧ u.length ≤ maxLen ∧ Un W A c u := by
  rcases open_ints ht he hc h with ⟨hcs, _⟩ | ⟨a, l, c, zs, hcs, _, hl, hm, hz, _, hcell, hwz⟩
  · injection hcs with hcs
    exact ⟨none, [], 0, hcs, by simp [maxLen], ⟨Nat.le_refl _, fun _ => rfl, Si.nil⟩⟩
  · injection hcs with hcs
    have hz' : zs.length = c := by simpa using hz
    have hlen : (zs.take l).length = l := by simp; omega
    have hget : ∀ j, j < l → (zs.take l)[j]?.getD 0 = zs.getD j 0 := fun j hj => by
      have hzj : zs[j]? = some (zs.getD j 0) := by rw [List.getD_eq_getElem?_getD, List.getElem?_eq_getElem (by omega : j < zs.length)]; rfl
      rw [List.getElem?_take, if_pos hj, hzj]; rfl
    refine ⟨some a, zs.take l, c, by rw [hlen]; exact hcs, by rw [hlen]; omega, ⟨by rw [hlen]; exact hl, (fun e => by cases e), fun hn => ?_⟩⟩
    rw [hlen] at hn
    obtain ⟨b, off, spot⟩ := a
    have hc0 := hcell 0 (by omega)
    have hspot : spot = none := by simpa [Addr.add] using World.cell?_spot hc0
    subst hspot
    refine ⟨b, off, rfl, World.block_lt_of_cell? W _ (by simpa [Addr.add] using hc0 : W.cell? ⟨b, off, none⟩ = _), fun j hj => ?_⟩
    rw [hlen] at hj
    have hcj := hcell j (by omega)
    rw [addr_add] at hcj
    rw [hcj, hget j hj]
theorem view_bf {P : Program} {t ti ts : TypeId} {f0 f1 f2 f3 : Field} (ht : P.underlying t = some (.struct #[f0, f1, f2, f3])) (hone : Deep.oneCellFields P #[f0, f1, f2, f3] = true) (hC : P.cellsOf t = 4) (e0 : f0.type = ti) (e1 : f1.type = ti) (e2 : f2.type = ti) (e3 : f3.type = ts)
    (hi : P.underlying ti = some (.int .i64)) (ci : P.cellsOf ti = 1) (hs : P.underlying ts = some (.slice ti)) (hv : Value.okWide P W .any base t v) (h : DataW.Trod enc P W 0 (fun _ => true) true t v d p) :
    ∃ r : Me, v = fv r ∧ Un W r.a r.c r.b.u ∧ r.b.u.length ≤ maxLen := by
  obtain ⟨c0, c1, c2, c3, y0, y1, y2, y3, k, rfl, _, _, hy0, hy1, hy2, hy3⟩ := open_agg4 ht hone hC hv h
  rw [e0] at hy0
  rw [e1] at hy1
  rw [e2] at hy2
  rw [e3] at hy3
  obtain ⟨a, x0, _, _⟩ := DataW.trod_int hi hy0
  obtain ⟨b, x1, _, _⟩ := DataW.trod_int hi hy1
  obtain ⟨c, x2, _, _⟩ := DataW.trod_int hi hy2
  obtain ⟨A, u, cc, x3, hm, hun⟩ := view_units hs hi ci hy3
  simp at x0 x1 x2
  subst x0 x1 x2 x3
  exact ⟨⟨⟨a, b, c, u⟩, A, cc⟩, rfl, hun, hm⟩
theorem view_bfs {P : Program} {t e ti ts : TypeId} {f0 f1 f2 f3 : Field} (ht : P.underlying t = some (.slice e)) (he : P.underlying e = some (.struct #[f0, f1, f2, f3])) (ce : P.cellsOf e = 4) (ho : f0.offset = 0 ∧ f1.offset = 1 ∧ f2.offset = 2 ∧ f3.offset = 3) (hty : f0.type = ti ∧ f1.type = ti ∧ f2.type = ti ∧ f3.type = ts)
    (ci : P.cellsOf ti = 1) (cs : P.cellsOf ts = 1) (hi : P.underlying ti = some (.int .i64)) (hs : P.underlying ts = some (.slice ti)) (hv : Value.okWide P W .any base t v) (h : DataW.Trod enc P W 0 (fun _ => true) true t v d p) :
    ∃ A L c, v = .slice A L.length c ∧ L.length ≤ maxLen ∧ Sd W A L ∧ (A = none → c = 0) ∧ ∀ m ∈ L, m.b.u.length ≤ maxLen := by
  obtain ⟨A, len, cap, rfl⟩ := okWide_slice ht hv
  obtain ⟨fuel, hf⟩ := h
  rcases Deep.open_slice ht hf with ⟨hcs, _⟩ | ⟨a, l, c, m, n, D, Pl, hcs, _, hl, hm, hmm, hx, hall⟩
  · simp [Value.cells] at hcs
    obtain ⟨rfl, rfl, rfl⟩ := hcs
    exact ⟨none, [], 0, rfl, by simp [maxLen], Sd.nil, fun _ => rfl, fun _ h => by cases h⟩
  · simp [Value.cells] at hcs
    obtain ⟨rfl, rfl, rfl⟩ := hcs
    have hlm : len ≤ m := by rw [hmm]; split <;> omega
    obtain ⟨b, off, spot⟩ := a
    have hone : ∀ i, i < len → ∃ t : Me, (W.cell? ((⟨b, off, spot⟩ : Addr).add (i * 4)) = some (.int .i64 t.b.n) ∧ W.cell? ((⟨b, off, spot⟩ : Addr).add (i * 4 + 1)) = some (.int .i64 t.b.lo) ∧ W.cell? ((⟨b, off, spot⟩ : Addr).add (i * 4 + 2)) = some (.int .i64 t.b.hi) ∧ W.cell? ((⟨b, off, spot⟩ : Addr).add (i * 4 + 3)) = some (.slice t.a t.b.u.length t.c)) ∧ Un W t.a t.c t.b.u ∧ t.b.u.length ≤ maxLen := by
      intro i hil
      obtain ⟨cs', h1, h2⟩ := hall i (by omega)
      rw [ce] at h1
      obtain ⟨_, hlen, hcell⟩ := World.cells?_some h1
      obtain ⟨y0, y1, y2, y3, k, hxy, _, g0, g1, g2, g3⟩ := Joins.trod_struct4 he h2
      rw [hty.1, ho.1, ci] at g0
      rw [hty.2.1, ho.2.1, ci] at g1
      rw [hty.2.2.1, ho.2.2.1, ci] at g2
      rw [hty.2.2.2, ho.2.2.2, cs] at g3
      match cs', hlen with
      | [v0, v1, v2, v3], _ =>
        obtain ⟨n0, q0, _, _⟩ := DataW.trod_int hi g0
        obtain ⟨n1, q1, _, _⟩ := DataW.trod_int hi g1
        obtain ⟨n2, q2, _, _⟩ := DataW.trod_int hi g2
        have g3' : DataW.trod enc P W 0 (fun _ => true) true k ts [v3] = some y3 := by simpa using g3
        obtain ⟨ua, u, uc, r3, um, uun⟩ := view_units hs hi ci g3'
        have e0 := hcell 0 (by omega)
        have e1 := hcell 1 (by omega)
        have e2 := hcell 2 (by omega)
        have e3 := hcell 3 (by omega)
        rw [Deep.add_add] at e0 e1 e2 e3
        have r0 : v0 = .int .i64 n0 := by simpa using q0
        have r1 : v1 = .int .i64 n1 := by simpa using q1
        have r2 : v2 = .int .i64 n2 := by simpa using q2
        subst r0 r1 r2 r3
        refine ⟨⟨⟨n0, n1, n2, u⟩, ua, uc⟩, ⟨?_, ?_, ?_, ?_⟩, uun, um⟩
        · simpa using e0
        · simpa using e1
        · simpa using e2
        · simpa using e3
    obtain ⟨L, hL, hQ⟩ := list_ofB ⟨⟨0, 0, 0, []⟩, none, 0⟩ len hone
    subst hL
    have hmem : ∀ m ∈ L, Un W m.a m.c m.b.u ∧ m.b.u.length ≤ maxLen := fun m hm => by
      obtain ⟨i, hi, ei⟩ := List.getElem_of_mem hm
      have h0 := (hQ i hi).2
      rw [List.getElem?_eq_getElem hi, ei] at h0
      exact h0
    refine ⟨_, L, cap, rfl, by omega, ⟨fun hn => ?_, fun m hm => (hmem m hm).1⟩, (fun e => by cases e), fun m hm => (hmem m hm).2⟩
    have hc0 := (hQ 0 hn).1.1
    have hspot : spot = none := by simpa [Addr.add] using World.cell?_spot hc0
    subst hspot
    refine ⟨b, off, rfl, World.block_lt_of_cell? W _ (by simpa [Addr.add] using hc0 : W.cell? ⟨b, off, none⟩ = _), fun j x hx => ?_⟩
    obtain ⟨h0, h1, h2, h3⟩ := (hQ j (List.getElem?_eq_some_iff.1 hx).1).1
    rw [addr_add] at h0 h1 h2 h3
    rw [hx] at h0 h1 h2 h3
    exact ⟨h0, h1, h2, h3⟩
end
end Go.Proofs.YtmjneokjgcgchaaGreat
/-
  Arguments that are lists of items, or tables, as a walk wants them (layer 9).
-/
namespace Go.Proofs.YtmjneokjgcgchaaGreat
open Go.ChangeShapes Go.WideShapes Go.ChangeAt Go.RowKit Go.Joins

section
variable {H : Type} {enc : TypeId × Value → H} {W : World} {P : Program}
/-- A slice whose elements are told one by one. -/
theorem view_rows {α : Type} {k : Nat} {q : α → List Value} {R : α → Prop} {t e : TypeId} (ht : P.underlying t = some (.slice e)) (ck : P.cellsOf e = k) (hk : 0 < k) (hq : ∀ a, (q a).length = k)
    (hel : ∀ (fuel : Nat) (cs : List Value) (x : DataW H × List MemPlace), cs.length = k → DataW.trod enc P W 0 (fun _ => true) true fuel e cs = some x → ∃ a, cs = q a ∧ R a)
    {fuel : Nat} {v : Value} {x : DataW H × List MemPlace} (h : DataW.trod enc P W 0 (fun _ => true) true fuel t [v] = some x) :
    ∃ l : List α, Rw W (fun _ => False) k q v l ∧ l.length ≤ maxLen ∧ ∀ a ∈ l, R a := by
  rcases Deep.open_slice ht h with ⟨hcs, _⟩ | ⟨a, l, c, m, n, D, Pl, hcs, _, hl, hm, hmm, hx, hall⟩
  · injection hcs with hcs
    subst hcs
    exact ⟨[], Rw.nil, by simp [maxLen], fun _ h => by cases h⟩
  · injection hcs with hcs
    subst hcs
    have hlm : l ≤ m := by rw [hmm]; split <;> omega
    have hone : ∀ i, i < l → ∃ y : α, (∀ j, j < k → W.cell? ((a.add (i * k)).add j) = (q y)[j]?) ∧ R y := fun i hil => by
      obtain ⟨cs', h1, h2⟩ := hall i (by omega)
      rw [ck] at h1
      obtain ⟨_, hlen, hcell⟩ := World.cells?_some h1
      obtain ⟨y, rfl, hR⟩ := hel _ cs' _ hlen h2
      exact ⟨y, hcell, hR⟩
    rcases Nat.eq_zero_or_pos l with h0 | h0
    · subst h0
      exact ⟨[], ⟨some a, c, rfl, ⟨Nat.zero_le _, fun e => by cases e⟩, fun hn => absurd hn (by simp)⟩, by simp [maxLen], fun _ h => by cases h⟩
    · obtain ⟨y0, hy0, _⟩ := hone 0 h0
      obtain ⟨L, hL, hQ⟩ := list_ofB y0 l hone
      subst hL
      obtain ⟨b, off, spot⟩ := a
      obtain ⟨u, hu⟩ : ∃ u, (q y0)[0]? = some u := ⟨(q y0)[0]'(by rw [hq]; exact hk), List.getElem?_eq_getElem _⟩
      have hc0 := (hy0 0 hk).trans hu
      have hspot : spot = none := by simpa [Addr.add] using World.cell?_spot hc0
      subst hspot
      refine ⟨L, ⟨some ⟨b, off, none⟩, c, rfl, ⟨hl, fun e => by cases e⟩, fun _ => ⟨b, off, rfl, World.block_lt_of_cell? W _ (by simpa [Addr.add] using hc0 : W.cell? ⟨b, off, none⟩ = _), fun h => h, fun j y hj i u hu => ?_⟩⟩, by omega, fun y hy => ?_⟩
      · have hi : i < k := by rw [← hq y]; exact (List.getElem?_eq_some_iff.1 hu).1
        have := (hQ j (List.getElem?_eq_some_iff.1 hj).1).1 i hi
        rw [hj, Option.getD_some, hu, Deep.add_add, addr_add, ← Nat.add_assoc] at this
        exact this
      · obtain ⟨j, hj, rfl⟩ := List.getElem_of_mem hy
        have := (hQ j hj).2
        rwa [List.getElem?_eq_getElem hj] at this
theorem trod_struct5 {t : TypeId} {f0 f1 f2 f3 f4 : Field} {fuel : Nat} {cs : List Value} {x : DataW H × List MemPlace} (ht : P.underlying t = some (.struct #[f0, f1, f2, f3, f4])) (h : DataW.trod enc P W 0 (fun _ => true) true fuel t cs = some x) :
    ∃ y0 y1 y2 y3 y4 n, cs.length = P.cellsOf t ∧ DataW.trod enc P W 0 (fun _ => true) true n f0.type ((cs.drop f0.offset).take (P.cellsOf f0.type)) = some y0 ∧ DataW.trod enc P W 0 (fun _ => true) true n f1.type ((cs.drop f1.offset).take (P.cellsOf f1.type)) = some y1 ∧
      DataW.trod enc P W 0 (fun _ => true) true n f2.type ((cs.drop f2.offset).take (P.cellsOf f2.type)) = some y2 ∧ DataW.trod enc P W 0 (fun _ => true) true n f3.type ((cs.drop f3.offset).take (P.cellsOf f3.type)) = some y3 ∧ DataW.trod enc P W 0 (fun _ => true) true n f4.type ((cs.drop f4.offset).take (P.cellsOf f4.type)) = some y4 := by
  obtain ⟨xs, n, _, rfl, hl, hlen, hf⟩ := DataW.trod_struct ht h
  match xs, hlen with
  | [y0, y1, y2, y3, y4], _ => exact ⟨y0, y1, y2, y3, y4, n, hl, by simpa using hf 0 f0 rfl, by simpa using hf 1 f1 rfl, by simpa using hf 2 f2 rfl, by simpa using hf 3 f3 rfl, by simpa using hf 4 f4 rfl⟩
theorem trod_struct6 {t : TypeId} {f0 f1 f2 f3 f4 f5 : Field} {fuel : Nat} {cs : List Value} {x : DataW H × List MemPlace} (ht : P.underlying t = some (.struct #[f0, f1, f2, f3, f4, f5])) (h : DataW.trod enc P W 0 (fun _ => true) true fuel t cs = some x) :
    ∃ y0 y1 y2 y3 y4 y5 n, cs.length = P.cellsOf t ∧ DataW.trod enc P W 0 (fun _ => true) true n f0.type ((cs.drop f0.offset).take (P.cellsOf f0.type)) = some y0 ∧ DataW.trod enc P W 0 (fun _ => true) true n f1.type ((cs.drop f1.offset).take (P.cellsOf f1.type)) = some y1 ∧
      DataW.trod enc P W 0 (fun _ => true) true n f2.type ((cs.drop f2.offset).take (P.cellsOf f2.type)) = some y2 ∧ DataW.trod enc P W 0 (fun _ => true) true n f3.type ((cs.drop f3.offset).take (P.cellsOf f3.type)) = some y3 ∧ DataW.trod enc P W 0 (fun _ => true) true n f4.type ((cs.drop f4.offset).take (P.cellsOf f4.type)) = some y4 ∧ DataW.trod enc P W 0 (fun _ => true) true n f5.type ((cs.drop f5.offset).take (P.cellsOf f5.type)) = some y5 := by
  obtain ⟨xs, n, _, rfl, hl, hlen, hf⟩ := DataW.trod_struct ht h
  match xs, hlen with
  | [y0, y1, y2, y3, y4, y5], _ => exact ⟨y0, y1, y2, y3, y4, y5, n, hl, by simpa using hf 0 f0 rfl, by simpa using hf 1 f1 rfl, by simpa using hf 2 f2 rfl, by simpa using hf 3 f3 rfl, by simpa using hf 4 f4 rfl, by simpa using hf 5 f5 rfl⟩
/-- The types of items. -/
structure ItT (P : Program) (tI tS tSI tLL tC tE tSE tT tM tSM : TypeId) : Prop where
  uI : P.underlying tI = some (.int .i64)
  uS : P.underlying tS = some .string
  uSI : P.underlying tSI = some (.slice tI)
  uLL : P.underlying tLL = some (.slice tSI)
  uC : ∃ a0 a1 : Field, P.underlying tC = some (.struct #[a0, a1]) ∧ a0.type = tI ∧ a1.type = tI ∧ a0.offset = 0 ∧ a1.offset = 1
  uE : ∃ a0 a1 a2 a3 a4 : Field, P.underlying tE = some (.struct #[a0, a1, a2, a3, a4]) ∧ (a0.type = tC ∧ a1.type = tC ∧ a2.type = tI ∧ a3.type = tSI ∧ a4.type = tLL) ∧ (a0.offset = 0 ∧ a1.offset = 2 ∧ a2.offset = 4 ∧ a3.offset = 5 ∧ a4.offset = 6)
  uSE : P.underlying tSE = some (.slice tE)
  uT : ∃ a0 a1 a2 a3 : Field, P.underlying tT = some (.struct #[a0, a1, a2, a3]) ∧ (a0.type = tI ∧ a1.type = tI ∧ a2.type = tI ∧ a3.type = tS) ∧ (a0.offset = 0 ∧ a1.offset = 1 ∧ a2.offset = 2 ∧ a3.offset = 3)
  uM : ∃ a0 a1 a2 a3 a4 : Field, P.underlying tM = some (.struct #[a0, a1, a2, a3, a4]) ∧ (a0.type = tI ∧ a1.type = tI ∧ a2.type = tS ∧ a3.type = tT ∧ a4.type = tSE) ∧ (a0.offset = 0 ∧ a1.offset = 1 ∧ a2.offset = 2 ∧ a3.offset = 3 ∧ a4.offset = 7)
  uSM : P.underlying tSM = some (.slice tM)
  cs : P.cellsOf tI = 1 ∧ P.cellsOf tS = 1 ∧ P.cellsOf tSI = 1 ∧ P.cellsOf tLL = 1 ∧ P.cellsOf tC = 2 ∧ P.cellsOf tE = 7 ∧ P.cellsOf tSE = 1 ∧ P.cellsOf tT = 4 ∧ P.cellsOf tM = 8
section
variable {tI tS tSI tLL tC tE tSE tT tM tSM : TypeId} {fuel : Nat} {v : Value} {cs : List Value} {x : DataW H × List MemPlace}
theorem ItT.units (T : ItT P tI tS tSI tLL tC tE tSE tT tM tSM) (h : DataW.trod enc P W 0 (fun _ => true) true fuel tSI [v] = some x) : ∃ u, Ux W (fun _ => False) v u ∧ u.length ≤ maxLen := by
  obtain ⟨u, h1, h2, _⟩ := view_rows (q := uq) (R := fun _ => True) T.uSI T.cs.1 (by decide) uq_len (fun fuel cs x hl h => by
    obtain ⟨n, rfl, _, _⟩ := DataW.trod_int T.uI h
    exact ⟨n, rfl, trivial⟩) h
  exact ⟨u, h1, h2⟩
/-- A list of units, few enough for any machine. -/
def Lb (ll : List (List Int)) : Prop := ll.length ≤ maxLen ∧ ∀ u ∈ ll, u.length ≤ maxLen
theorem ItT.lists (T : ItT P tI tS tSI tLL tC tE tSE tT tM tSM) (h : DataW.trod enc P W 0 (fun _ => true) true fuel tLL [v] = some x) : ∃ ll, Lx W (fun _ => False) v ll ∧ Lb ll := by
  obtain ⟨d, h1, h2, h3⟩ := view_rows (q := lq) (R := fun p : List Int × Value => Ux W (fun _ => False) p.2 p.1 ∧ p.1.length ≤ maxLen) T.uLL T.cs.2.2.1 (by decide) lq_len (fun fuel cs x hl h => by
    match cs, hl with
    | [v], _ =>
      obtain ⟨u, hu, hm⟩ := T.units h
      exact ⟨(u, v), rfl, hu, hm⟩) h
  refine ⟨d.map (·.1), ⟨d, rfl, h1, fun p hp => (h3 p hp).1⟩, by rw [List.length_map]; exact h2, fun u hu => ?_⟩
  obtain ⟨p, hp, rfl⟩ := List.mem_map.1 hu
  exact (h3 p hp).2
theorem ItT.code (T : ItT P tI tS tSI tLL tC tE tSE tT tM tSM) {c0 c1 : Value} (h : DataW.trod enc P W 0 (fun _ => true) true fuel tC [c0, c1] = some x) : ∃ n v : Int, c0 = .int .i64 n ∧ c1 = .int .i64 v := by
  obtain ⟨a0, a1, hu, t0, t1, o0, o1⟩ := T.uC
  obtain ⟨y0, y1, n, _, _, g0, g1⟩ := trod_struct2 hu h
  rw [t0, o0, T.cs.1] at g0
  rw [t1, o1, T.cs.1] at g1
  obtain ⟨n0, q0, _, _⟩ := DataW.trod_int T.uI g0
  obtain ⟨n1, q1, _, _⟩ := DataW.trod_int T.uI g1
  exact ⟨n0, n1, by simpa using q0, by simpa using q1⟩
/-- An entry, few enough for any machine. -/
def Eb (e : En) : Prop := e.u.length ≤ maxLen ∧ Lb e.ll
theorem ItT.ents (T : ItT P tI tS tSI tLL tC tE tSE tT tM tSM) (h : DataW.trod enc P W 0 (fun _ => true) true fuel tSE [v] = some x) : ∃ es, Ex W (fun _ => False) v es ∧ es.length ≤ maxLen ∧ ∀ e ∈ es, Eb e := by
  obtain ⟨d, h1, h2, h3⟩ := view_rows (q := dq) (R := fun p : En × Value × Value => Eo W (fun _ => False) p ∧ Eb p.1) T.uSE T.cs.2.2.2.2.2.1 (by decide) dq_len (fun fuel cs x hl h => by
    obtain ⟨a0, a1, a2, a3, a4, hu, ⟨t0, t1, t2, t3, t4⟩, o0, o1, o2, o3, o4⟩ := T.uE
    obtain ⟨y0, y1, y2, y3, y4, n, _, g0, g1, g2, g3, g4⟩ := trod_struct5 hu h
    obtain ⟨k1, k2, k3, k4, k5, _⟩ := T.cs
    rw [t0, o0, k5] at g0
    rw [t1, o1, k5] at g1
    rw [t2, o2, k1] at g2
    rw [t3, o3, k3] at g3
    rw [t4, o4, k4] at g4
    match cs, hl with
    | [c0, c1, c2, c3, c4, c5, c6], _ =>
      obtain ⟨ln, lv, rfl, rfl⟩ := T.code (by simpa using g0)
      obtain ⟨hn, hv, rfl, rfl⟩ := T.code (by simpa using g1)
      obtain ⟨to, q2, _, _⟩ := DataW.trod_int T.uI g2
      obtain ⟨u, hu, hum⟩ := T.units (v := c5) (by simpa using g3)
      obtain ⟨ll, hll, hlm⟩ := T.lists (v := c6) (by simpa using g4)
      have r2 : c4 = .int .i64 to := by simpa using q2
      subst r2
      exact ⟨(⟨⟨ln, lv⟩, ⟨hn, hv⟩, to, u, ll⟩, c5, c6), rfl, ⟨hu, hll⟩, hum, hlm⟩) h
  refine ⟨d.map (·.1), ⟨d, rfl, h1, fun p hp => (h3 p hp).1⟩, by rw [List.length_map]; exact h2, fun u hu => ?_⟩
  obtain ⟨p, hp, rfl⟩ := List.mem_map.1 hu
  exact (h3 p hp).2
/-- An item, few enough for any machine. -/
def Ib (i : Im) : Prop := i.name.length ≤ maxLen ∧ i.val.s.length ≤ maxLen ∧ i.ents.length ≤ maxLen ∧ ∀ e ∈ i.ents, Eb e
theorem ItT.items (T : ItT P tI tS tSI tLL tC tE tSE tT tM tSM) (h : DataW.trod enc P W 0 (fun _ => true) true fuel tSM [v] = some x) : ∃ is, Ix W (fun _ => False) v is ∧ is.length ≤ maxLen ∧ ∀ i ∈ is, Ib i := by
  obtain ⟨d, h1, h2, h3⟩ := view_rows (q := iq) (R := fun p : Im × Value => Ex W (fun _ => False) p.2 p.1.ents ∧ Ib p.1) T.uSM T.cs.2.2.2.2.2.2.2.2 (by decide) iq_len (fun fuel cs x hl h => by
    obtain ⟨a0, a1, a2, a3, a4, hu, ⟨t0, t1, t2, t3, t4⟩, o0, o1, o2, o3, o4⟩ := T.uM
    obtain ⟨y0, y1, y2, y3, y4, n, _, g0, g1, g2, g3, g4⟩ := trod_struct5 hu h
    obtain ⟨k1, k2, k3, k4, k5, k6, k7, k8, k9⟩ := T.cs
    rw [t0, o0, k1] at g0
    rw [t1, o1, k1] at g1
    rw [t2, o2, k2] at g2
    rw [t3, o3, k8] at g3
    rw [t4, o4, k7] at g4
    obtain ⟨b0, b1, b2, b3, hub, ⟨s0, s1, s2, s3⟩, p0, p1, p2, p3⟩ := T.uT
    match cs, hl with
    | [c0, c1, c2, c3, c4, c5, c6, c7], _ =>
      obtain ⟨kd, q0, _, _⟩ := DataW.trod_int T.uI g0
      obtain ⟨at_, q1, _, _⟩ := DataW.trod_int T.uI g1
      obtain ⟨nm, q2, _, hnm⟩ := DataW.trod_string T.uS g2
      obtain ⟨z0, z1, z2, z3, m, _, _, j0, j1, j2, j3⟩ := Joins.trod_struct4 hub g3
      rw [s0, p0, k1] at j0
      rw [s1, p1, k1] at j1
      rw [s2, p2, k1] at j2
      rw [s3, p3, k2] at j3
      obtain ⟨vk, w0, _, _⟩ := DataW.trod_int T.uI j0
      obtain ⟨va, w1, _, _⟩ := DataW.trod_int T.uI j1
      obtain ⟨vn, w2, _, _⟩ := DataW.trod_int T.uI j2
      obtain ⟨vs, w3, _, hvs⟩ := DataW.trod_string T.uS j3
      obtain ⟨es, hes, hem, heb⟩ := T.ents (v := c7) (by simpa using g4)
      have r0 : c0 = .int .i64 kd := by simpa using q0
      have r1 : c1 = .int .i64 at_ := by simpa using q1
      have r2 : c2 = .string nm := by simpa using q2
      have r3 : c3 = .int .i64 vk := by simpa using w0
      have r4 : c4 = .int .i64 va := by simpa using w1
      have r5 : c5 = .int .i64 vn := by simpa using w2
      have r6 : c6 = .string vs := by simpa using w3
      subst r0 r1 r2 r3 r4 r5 r6
      obtain ⟨ln, rfl⟩ := str_of nm
      obtain ⟨lv, rfl⟩ := str_of vs
      rw [str_size] at hnm hvs
      exact ⟨(⟨kd, at_, ln, ⟨vk, va, vn, lv⟩, es⟩, c7), rfl, hes, hnm, hvs, hem, heb⟩) h
  refine ⟨d.map (·.1), ⟨d, rfl, h1, fun p hp => (h3 p hp).1⟩, by rw [List.length_map]; exact h2, fun u hu => ?_⟩
  obtain ⟨p, hp, rfl⟩ := List.mem_map.1 hu
  exact (h3 p hp).2
theorem view_items (T : ItT P tI tS tSI tLL tC tE tSE tT tM tSM) {r : Reach} {b0 : Nat} {d : DataW H} {p : List MemPlace} (hv : Value.okWide P W r b0 tSM v) (h : DataW.Trod enc P W 0 (fun _ => true) true tSM v d p) : ∃ is, Ix W (fun _ => False) v is ∧ is.length ≤ maxLen ∧ ∀ i ∈ is, Ib i := by
  obtain ⟨A, len, cap, rfl⟩ := okWide_slice T.uSM hv
  obtain ⟨fuel, hf⟩ := h
  exact T.items (by simpa [Value.cells] using hf)
end
end
end Go.Proofs.YtmjneokjgcgchaaGreat
/-
  Arguments that are tables, as a walk wants them (layer 9).
-/
namespace Go.Proofs.YtmjneokjgcgchaaGreat
open Go.ChangeShapes Go.WideShapes Go.ChangeAt Go.RowKit Go.Joins

/-- A table, and where its lists lie. -/
structure Tb where
  nm : List UInt8
  wm : Int
  sp : List Rc
  ci : List Sp
  no : List Sp
  bf : List Me
structure Ta where
  a0 : Option Addr
  c0 : Nat
  a1 : Option Addr
  c1 : Nat
  a2 : Option Addr
  c2 : Nat
  a3 : Option Addr
  c3 : Nat
def tbC (t : Tb) (a : Ta) : List Value := [.string (str t.nm), .int .i64 t.wm, .slice a.a0 t.sp.length a.c0, .slice a.a1 t.ci.length a.c1, .slice a.a2 t.no.length a.c2, .slice a.a3 t.bf.length a.c3]
def tbv (t : Tb) (a : Ta) : Value := .agg #[.string (str t.nm), .int .i64 t.wm, .slice a.a0 t.sp.length a.c0, .slice a.a1 t.ci.length a.c1, .slice a.a2 t.no.length a.c2, .slice a.a3 t.bf.length a.c3]
/-- A table whose lists lie in memory. -/
structure Tm (w : World) (t : Tb) (a : Ta) : Prop where
  sp : Sr w w.heap.size a.a0 t.sp
  ci : Ss w w.heap.size a.a1 t.ci
  no : Ss w w.heap.size a.a2 t.no
  bf : Sd w a.a3 t.bf
  l0 : t.sp.length ≤ a.c0
  l1 : t.ci.length ≤ a.c1
  l2 : t.no.length ≤ a.c2
  l3 : t.bf.length ≤ a.c3
/-- Few enough for any machine. -/
structure Tl (t : Tb) : Prop where
  nm : t.nm.length ≤ maxLen
  sp : t.sp.length ≤ maxLen
  ci : t.ci.length ≤ maxLen
  no : t.no.length ≤ maxLen
  bf : t.bf.length ≤ maxLen
  un : ∀ m ∈ t.bf, m.b.u.length ≤ maxLen
theorem Tm.over {w w' : World} {t : Tb} {a : Ta} (h : Tm w t a) (hb : Below w.heap.size w w') : Tm w' t a := ⟨h.sp.over hb, h.ci.over hb, h.no.over hb, h.bf.over hb, h.l0, h.l1, h.l2, h.l3⟩
section
variable {H : Type} {enc : TypeId × Value → H} {W : World} {P : Program}
theorem array6 {cs : Array Value} (h : cs.size = 6) : ∃ c0 c1 c2 c3 c4 c5, cs = #[c0, c1, c2, c3, c4, c5] := by
  obtain ⟨l⟩ := cs
  match l, h with
  | [c0, c1, c2, c3, c4, c5], _ => exact ⟨c0, c1, c2, c3, c4, c5, rfl⟩
/-- The types of tables. -/
structure TbT (P : Program) (tI tS tSI tR tSR tP tSP tB tSB tT : TypeId) : Prop where
  uI : P.underlying tI = some (.int .i64)
  uS : P.underlying tS = some .string
  uSI : P.underlying tSI = some (.slice tI)
  uR : ∃ a0 a1 a2 : Field, P.underlying tR = some (.struct #[a0, a1, a2]) ∧ (a0.type = tI ∧ a1.type = tI ∧ a2.type = tI) ∧ (a0.offset = 0 ∧ a1.offset = 1 ∧ a2.offset = 2)
  uP : ∃ a0 a1 a2 a3 : Field, P.underlying tP = some (.struct #[a0, a1, a2, a3]) ∧ (a0.type = tI ∧ a1.type = tI ∧ a2.type = tI ∧ a3.type = tI) ∧ (a0.offset = 0 ∧ a1.offset = 1 ∧ a2.offset = 2 ∧ a3.offset = 3)
  uB : ∃ a0 a1 a2 a3 : Field, P.underlying tB = some (.struct #[a0, a1, a2, a3]) ∧ (a0.type = tI ∧ a1.type = tI ∧ a2.type = tI ∧ a3.type = tSI) ∧ (a0.offset = 0 ∧ a1.offset = 1 ∧ a2.offset = 2 ∧ a3.offset = 3)
  uSR : P.underlying tSR = some (.slice tR)
  uSP : P.underlying tSP = some (.slice tP)
  uSB : P.underlying tSB = some (.slice tB)
  uT : ∃ a0 a1 a2 a3 a4 a5 : Field, P.underlying tT = some (.struct #[a0, a1, a2, a3, a4, a5]) ∧ (a0.type = tS ∧ a1.type = tI ∧ a2.type = tSR ∧ a3.type = tSP ∧ a4.type = tSP ∧ a5.type = tSB) ∧ (a0.offset = 0 ∧ a1.offset = 1 ∧ a2.offset = 2 ∧ a3.offset = 3 ∧ a4.offset = 4 ∧ a5.offset = 5)
  cs : P.cellsOf tI = 1 ∧ P.cellsOf tS = 1 ∧ P.cellsOf tSI = 1 ∧ P.cellsOf tR = 3 ∧ P.cellsOf tSR = 1 ∧ P.cellsOf tP = 4 ∧ P.cellsOf tSP = 1 ∧ P.cellsOf tB = 4 ∧ P.cellsOf tSB = 1 ∧ P.cellsOf tT = 6
theorem rq_len (r : Rc) : (rq r).length = 3 := rfl
theorem sq_len (r : Sp) : (sq r).length = 4 := rfl
theorem fq_len (r : Me) : (fq r).length = 4 := rfl
theorem Rw.sr {X : Nat → Prop} {v : Value} {l : List Rc} (h : Rw W X 3 rq v l) : ∃ A c, v = .slice A l.length c ∧ l.length ≤ c ∧ Sr W W.heap.size A l := by
  obtain ⟨A, c, e, hc, hh⟩ := h
  refine ⟨A, c, e, hc.1, fun hn => ?_⟩
  obtain ⟨b, o, e2, hb, _, hcl⟩ := hh hn
  exact ⟨b, o, e2, hb, fun j x hx => ⟨hcl j x hx 0 _ rfl, hcl j x hx 1 _ rfl, hcl j x hx 2 _ rfl⟩⟩
theorem Rw.ss {X : Nat → Prop} {v : Value} {l : List Sp} (h : Rw W X 4 sq v l) : ∃ A c, v = .slice A l.length c ∧ l.length ≤ c ∧ Ss W W.heap.size A l := by
  obtain ⟨A, c, e, hc, hh⟩ := h
  refine ⟨A, c, e, hc.1, fun hn => ?_⟩
  obtain ⟨b, o, e2, hb, _, hcl⟩ := hh hn
  exact ⟨b, o, e2, hb, fun j x hx => ⟨hcl j x hx 0 _ rfl, hcl j x hx 1 _ rfl, hcl j x hx 2 _ rfl, hcl j x hx 3 _ rfl⟩⟩
theorem Rw.rd {X : Nat → Prop} {v : Value} {l : List Me} (h : Rw W X 4 fq v l) : ∃ A c, v = .slice A l.length c ∧ l.length ≤ c ∧ Rd W W.heap.size A l := by
  obtain ⟨A, c, e, hc, hh⟩ := h
  refine ⟨A, c, e, hc.1, fun hn => ?_⟩
  obtain ⟨b, o, e2, hb, _, hcl⟩ := hh hn
  exact ⟨b, o, e2, hb, fun j x hx => ⟨hcl j x hx 0 _ rfl, hcl j x hx 1 _ rfl, hcl j x hx 2 _ rfl, hcl j x hx 3 _ rfl⟩⟩
section
variable {tI tS tSI tR tSR tP tSP tB tSB tT : TypeId} {fuel : Nat} {v : Value} {x : DataW H × List MemPlace}
theorem TbT.rects (T : TbT P tI tS tSI tR tSR tP tSP tB tSB tT) (h : DataW.trod enc P W 0 (fun _ => true) true fuel tSR [v] = some x) : ∃ A l c, v = .slice A l.length c ∧ l.length ≤ c ∧ Sr W W.heap.size A l ∧ l.length ≤ maxLen := by
  obtain ⟨d, h1, h2, _⟩ := view_rows (q := rq) (R := fun _ => True) T.uSR T.cs.2.2.2.1 (by decide) rq_len (fun fuel cs x hl h => by
    obtain ⟨a0, a1, a2, hu, ⟨t0, t1, t2⟩, o0, o1, o2⟩ := T.uR
    obtain ⟨xs, n, _, _, _, hlen, hf⟩ := DataW.trod_struct hu h
    match cs, hl, xs, hlen with
    | [c0, c1, c2], _, [y0, y1, y2], _ =>
      have g0 : DataW.trod enc P W 0 (fun _ => true) true n tI [c0] = some y0 := by simpa [t0, o0, T.cs.1] using hf 0 a0 rfl
      have g1 : DataW.trod enc P W 0 (fun _ => true) true n tI [c1] = some y1 := by simpa [t1, o1, T.cs.1] using hf 1 a1 rfl
      have g2 : DataW.trod enc P W 0 (fun _ => true) true n tI [c2] = some y2 := by simpa [t2, o2, T.cs.1] using hf 2 a2 rfl
      obtain ⟨n0, q0, _, _⟩ := DataW.trod_int T.uI g0
      obtain ⟨n1, q1, _, _⟩ := DataW.trod_int T.uI g1
      obtain ⟨n2, q2, _, _⟩ := DataW.trod_int T.uI g2
      simp at q0 q1 q2
      subst q0 q1 q2
      exact ⟨⟨n0, n1, n2⟩, rfl, trivial⟩) h
  obtain ⟨A, c, e, hn, hs⟩ := h1.sr
  exact ⟨A, d, c, e, hn, hs, h2⟩
theorem TbT.spans (T : TbT P tI tS tSI tR tSR tP tSP tB tSB tT) (h : DataW.trod enc P W 0 (fun _ => true) true fuel tSP [v] = some x) : ∃ A l c, v = .slice A l.length c ∧ l.length ≤ c ∧ Ss W W.heap.size A l ∧ l.length ≤ maxLen := by
  obtain ⟨d, h1, h2, _⟩ := view_rows (q := sq) (R := fun _ => True) T.uSP T.cs.2.2.2.2.2.1 (by decide) sq_len (fun fuel cs x hl h => by
    obtain ⟨a0, a1, a2, a3, hu, ⟨t0, t1, t2, t3⟩, o0, o1, o2, o3⟩ := T.uP
    obtain ⟨xs, n, _, _, _, hlen, hf⟩ := DataW.trod_struct hu h
    match cs, hl, xs, hlen with
    | [c0, c1, c2, c3], _, [y0, y1, y2, y3], _ =>
      have g0 : DataW.trod enc P W 0 (fun _ => true) true n tI [c0] = some y0 := by simpa [t0, o0, T.cs.1] using hf 0 a0 rfl
      have g1 : DataW.trod enc P W 0 (fun _ => true) true n tI [c1] = some y1 := by simpa [t1, o1, T.cs.1] using hf 1 a1 rfl
      have g2 : DataW.trod enc P W 0 (fun _ => true) true n tI [c2] = some y2 := by simpa [t2, o2, T.cs.1] using hf 2 a2 rfl
      have g3 : DataW.trod enc P W 0 (fun _ => true) true n tI [c3] = some y3 := by simpa [t3, o3, T.cs.1] using hf 3 a3 rfl
      obtain ⟨n0, q0, _, _⟩ := DataW.trod_int T.uI g0
      obtain ⟨n1, q1, _, _⟩ := DataW.trod_int T.uI g1
      obtain ⟨n2, q2, _, _⟩ := DataW.trod_int T.uI g2
      obtain ⟨n3, q3, _, _⟩ := DataW.trod_int T.uI g3
      simp at q0 q1 q2 q3
      subst q0 q1 q2 q3
      exact ⟨⟨n0, n1, n2, n3⟩, rfl, trivial⟩) h
  obtain ⟨A, c, e, hn, hs⟩ := h1.ss
  exact ⟨A, d, c, e, hn, hs, h2⟩
theorem TbT.bfs (T : TbT P tI tS tSI tR tSR tP tSP tB tSB tT) (h : DataW.trod enc P W 0 (fun _ => true) true fuel tSB [v] = some x) : ∃ A l c, v = .slice A l.length c ∧ l.length ≤ c ∧ Sd W A l ∧ l.length ≤ maxLen ∧ ∀ m ∈ l, m.b.u.length ≤ maxLen := by
  obtain ⟨d, h1, h2, h3⟩ := view_rows (q := fq) (R := fun m : Me => Un W m.a m.c m.b.u ∧ m.b.u.length ≤ maxLen) T.uSB T.cs.2.2.2.2.2.2.2.1 (by decide) fq_len (fun fuel cs x hl h => by
    obtain ⟨a0, a1, a2, a3, hu, ⟨t0, t1, t2, t3⟩, o0, o1, o2, o3⟩ := T.uB
    obtain ⟨xs, n, _, _, _, hlen, hf⟩ := DataW.trod_struct hu h
    match cs, hl, xs, hlen with
    | [c0, c1, c2, c3], _, [y0, y1, y2, y3], _ =>
      have g0 : DataW.trod enc P W 0 (fun _ => true) true n tI [c0] = some y0 := by simpa [t0, o0, T.cs.1] using hf 0 a0 rfl
      have g1 : DataW.trod enc P W 0 (fun _ => true) true n tI [c1] = some y1 := by simpa [t1, o1, T.cs.1] using hf 1 a1 rfl
      have g2 : DataW.trod enc P W 0 (fun _ => true) true n tI [c2] = some y2 := by simpa [t2, o2, T.cs.1] using hf 2 a2 rfl
      have g3 : DataW.trod enc P W 0 (fun _ => true) true n tSI [c3] = some y3 := by simpa [t3, o3, T.cs.2.2.1] using hf 3 a3 rfl
      obtain ⟨n0, q0, _, _⟩ := DataW.trod_int T.uI g0
      obtain ⟨n1, q1, _, _⟩ := DataW.trod_int T.uI g1
      obtain ⟨n2, q2, _, _⟩ := DataW.trod_int T.uI g2
      obtain ⟨A, u, cc, q3, hm, hun⟩ := view_units T.uSI T.uI T.cs.1 g3
      simp at q0 q1 q2
      subst q0 q1 q2 q3
      exact ⟨⟨⟨n0, n1, n2, u⟩, A, cc⟩, rfl, hun, hm⟩) h
  obtain ⟨A, c, e, hn, hs⟩ := h1.rd
  exact ⟨A, d, c, e, hn, ⟨hs, fun m hm => (h3 m hm).1⟩, h2, fun m hm => (h3 m hm).2⟩
theorem view_table (T : TbT P tI tS tSI tR tSR tP tSP tB tSB tT) {r : Reach} {b0 : Nat} {d : DataW H} {p : List MemPlace} (hv : Value.okWide P W r b0 tT v) (h : DataW.Trod enc P W 0 (fun _ => true) true tT v d p) : ∃ t a, v = tbv t a ∧ Tm W t a ∧ Tl t := by
  obtain ⟨a0, a1, a2, a3, a4, a5, hu, ⟨t0, t1, t2, t3, t4, t5⟩, o0, o1, o2, o3, o4, o5⟩ := T.uT
  obtain ⟨cs, rfl, hsz⟩ := okWide_struct hu hv
  obtain ⟨k1, k2, k3, k4, k5, k6, k7, k8, k9, k10⟩ := T.cs
  obtain ⟨c0, c1, c2, c3, c4, c5, rfl⟩ := array6 (hsz.trans k10)
  obtain ⟨fuel, hf⟩ := h
  obtain ⟨y0, y1, y2, y3, y4, y5, n, _, g0, g1, g2, g3, g4, g5⟩ := trod_struct6 hu hf
  rw [t0, o0, k2] at g0
  rw [t1, o1, k1] at g1
  rw [t2, o2, k5] at g2
  rw [t3, o3, k7] at g3
  rw [t4, o4, k7] at g4
  rw [t5, o5, k9] at g5
  obtain ⟨nm, q0, _, hnm⟩ := DataW.trod_string T.uS g0
  obtain ⟨wm, q1, _, _⟩ := DataW.trod_int T.uI g1
  obtain ⟨A0, l0, e0, q2, n0, h0, m0⟩ := T.rects (v := c2) (by simpa [Value.cells] using g2)
  obtain ⟨A1, l1, e1, q3, n1, h1, m1⟩ := T.spans (v := c3) (by simpa [Value.cells] using g3)
  obtain ⟨A2, l2, e2, q4, n2, h2, m2⟩ := T.spans (v := c4) (by simpa [Value.cells] using g4)
  obtain ⟨A3, l3, e3, q5, n3, h3, m3, u3⟩ := T.bfs (v := c5) (by simpa [Value.cells] using g5)
  have r0 : c0 = .string nm := by simpa [Value.cells] using q0
  have r1 : c1 = .int .i64 wm := by simpa [Value.cells] using q1
  subst r0 r1 q2 q3 q4 q5
  obtain ⟨ln, rfl⟩ := str_of nm
  rw [str_size] at hnm
  exact ⟨⟨ln, wm, l0, l1, l2, l3⟩, ⟨A0, e0, A1, e1, A2, e2, A3, e3⟩, rfl, ⟨h0, h1, h2, h3, n0, n1, n2, n3⟩, hnm, m0, m1, m2, m3, u3⟩
end
end
end Go.Proofs.YtmjneokjgcgchaaGreat
/-
  slices.Equal at ints; the program's own joins.
-/
namespace Go.Proofs.YtmjneokjgcgchaaGreat
open Go.RowKit
attribute [local go_sem ↓] Go.wp_at_zero Go.wp_at_succ

theorem Si.take {w : World} {B : Nat} {A : Option Addr} {l : List Int} (h : Si w B A l) (k : Nat) : Si w B A (l.take k) := fun hn => by
  obtain ⟨b, o, e, hb, hc⟩ := h (by simp at hn; omega)
  refine ⟨b, o, e, hb, fun j hj => ?_⟩
  rw [List.length_take] at hj
  rw [List.getElem?_take, if_pos (by omega)]
  exact hc j (by omega)
theorem eq_take {α : Type} {l m : List α} {k : Nat} {x y : α} (hx : l[k]? = some x) (hy : m[k]? = some y) (h : l.take k = m.take k) (e : x = y) : l.take (k + 1) = m.take (k + 1) := by
  rw [List.take_add_one, List.take_add_one, hx, hy, h, e]
set_option maxRecDepth 100000 in
set_option maxHeartbeats 4000000 in
theorem Equal_any (A B : Option Addr) (c c' n : Nat) (l m : List Int) (w : World) (hl : n = l.length) (hm : n = m.length) (h64 : n ≤ 1000) (h1 : Si w w.heap.size A l) (h2 : Si w w.heap.size B m) :
    Calls Tryz.prog 149 #[.slice A n c, .slice B n c'] w fun e w' => e = .returned (.bool (decide (l = m))) ∧ Below w.heap.size w w' := by
  have HL := Lib.hid hl
  have HM := Lib.hid hm
  have H1 := Lib.hid h1
  have H2 := Lib.hid h2
  obtain ⟨r, hr⟩ : ∃ r, r = decide (l = m) := ⟨_, rfl⟩
  have HR := Lib.hid hr
  rw [← hr]
  clear hl hm h1 h2 hr
  go_enter Tryz.func149, Tryz.ntmps149
  go_wp2
  go_loopw [13] (fun i wr => ∃ k : Nat, k ≤ n ∧ i = .int .i64 (k : Int) ∧ Hid (l.take k = m.take k) ∧ Below w.heap.size w wr) (fun i _ => n - (intOf i).toNat)
  case atStart => exact ⟨0, Nat.zero_le _, rfl, Lib.hid (by simp), Below.refl _ _⟩
  case round =>
    obtain ⟨k, hk, rfl, HK, hbel⟩ := hrel
    by_cases hlt : k < n
    · have t0 : decide (k < n) = true := decide_eq_true hlt
      obtain ⟨b1, o1, rfl, hb1, hc1⟩ := (H1.out.below hbel) (by have := HL.out; omega)
      obtain ⟨b2, o2, rfl, hb2, hc2⟩ := (H2.out.below hbel) (by have := HM.out; omega)
      have x1 := List.getElem?_eq_getElem (l := l) (i := k) (by have := HL.out; omega)
      have x2 := List.getElem?_eq_getElem (l := m) (i := k) (by have := HM.out; omega)
      have e1 := hc1 k (by have := HL.out; omega)
      have e2 := hc2 k (by have := HM.out; omega)
      rw [x1] at e1
      rw [x2] at e2
      generalize l[k]'(by have := HL.out; omega) = x at *
      generalize m[k]'(by have := HM.out; omega) = y at *
      have g1 : wr.cell? ⟨b1, o1 + k, none⟩ = some (.int .i64 x) := e1
      have g2 : wr.cell? ⟨b2, o2 + k, none⟩ = some (.int .i64 y) := e2
      have X1 := Lib.hid x1
      have X2 := Lib.hid x2
      clear x1 x2 e1 e2 hc1 hc2 H1 H2
      have f1 : (0 : Int) ≤ (k : Int) := by omega
      have f2 : (k : Int) < (n : Int) := by omega
      by_cases hxy : x = y
      · have d1 : (x != y) = false := by simp [hxy]
        have K2 := Lib.hid (eq_take X1.out X2.out HK.out hxy)
        clear hxy
        go_wp2
        go_quiet (fail)
        go_wp2
        exact ⟨⟨k + 1, by omega, by first | rfl | go_num, K2, below_drewN hbel _⟩, by simp [intOf]; omega⟩
      · have d1 : (x != y) = true := by simp [hxy]
        have e : r = false := by
          rw [HR.out]
          refine decide_eq_false fun e => hxy ?_
          have a := X1.out
          rw [e, X2.out] at a
          injection a with a
          exact a.symm
        subst e
        clear hxy
        go_wp2
        go_quiet (fail)
        go_wp2
        go_ret
        exact ⟨rfl, below_drewN hbel _⟩
    · have t0 : decide (k < n) = false := decide_eq_false hlt
      obtain rfl : k = n := by omega
      have e : r = true := by
        rw [HR.out]
        refine decide_eq_true ?_
        have := HK.out
        rwa [List.take_of_length_le (by have := HL.out; omega), List.take_of_length_le (by have := HM.out; omega)] at this
      subst e
      go_wp2
      go_ret
      exact ⟨rfl, hbel⟩
/-- Two could be one: part by part. -/
theorem jnB_eq {a b : Bp} (ha : okU a.u) (hb : okU b.u) : decide (jnB a b) = ((a.n == b.n) && ((b.lo == a.hi + 1) && ((a.u.length == b.u.length) && ((lastU b.u == lastU a.u + (b.lo - a.lo)) && decide (a.u.take (a.u.length - 1) = b.u.take (a.u.length - 1)))))) := by
  rcases List.eq_nil_or_concat a.u with e1 | ⟨p, x, e1⟩
  · exact absurd e1 ha.ne
  · rcases List.eq_nil_or_concat b.u with e2 | ⟨q, y, e2⟩
    · exact absurd e2 hb.ne
    · rw [List.concat_eq_append] at e1 e2
      show decide (a.n = b.n ∧ b.lo = a.hi + 1 ∧ b.u = addU a.u (b.lo - a.lo)) = _
      rw [e1, e2, addU_snoc, lastU_snoc, lastU_snoc, Bool.eq_iff_iff]
      simp only [decide_eq_true_eq, Bool.and_eq_true, beq_iff_eq, List.length_append, List.length_cons, List.length_nil, Nat.zero_add, Nat.add_sub_cancel, List.take_left']
      constructor
      · rintro ⟨h1, h2, h3⟩
        obtain ⟨h4, h5⟩ := List.append_inj' h3 rfl
        subst h4
        injection h5 with h5
        exact ⟨h1, h2, rfl, h5, by simp⟩
      · rintro ⟨h1, h2, h3, h4, h5⟩
        refine ⟨h1, h2, ?_⟩
        rw [List.take_left' (l₁ := q) (by omega)] at h5
        rw [h4, h5]
set_option maxRecDepth 100000 in
set_option maxHeartbeats 4000000 in
theorem dJoins_any (a b : Me) (w : World) (hua : Un w a.a a.c a.b.u) (hub : Un w b.a b.c b.b.u) (ha : Sb a.b) (hb : Sb b.b) :
    Calls Tryz.prog 128 #[fv a, fv b] w fun e w' => e = .returned (.bool (decide (jnB a.b b.b))) ∧ Below w.heap.size w w' := by
  obtain ⟨s1, s2, s3, s4, s5⟩ := ha
  obtain ⟨r1, r2, r3, r4, r5⟩ := hb
  have a1 := saneB_top s1
  have a2 := saneB_top s2
  have b1 := saneB_top r1
  have K1 := Lib.hid (fun W (hW : Below w.heap.size w W) => lastUnit_any a b.b.lo W (hua.over hW).si s4 a1.1 a1.2.1 b1.1 (by omega))
  rw [jnB_eq s4 r4]
  have hh : 0 ≤ a.b.hi ∧ a.b.hi < 4294967296 := ⟨a2.1, a2.2.1⟩
  obtain ⟨q, hq⟩ : ∃ q, a.b.u.length = q + 1 := ⟨a.b.u.length - 1, by have := s4.1; omega⟩
  have hq64 : q < 64 := by have := s4.2.1; omega
  obtain ⟨m, hm⟩ : ∃ m, m = b.b.u.length := ⟨_, rfl⟩
  have hLb : b.b.u.length = q + 1 → b.b.u[q]? = some (lastU b.b.u) := fun e => lastU_at e
  generalize lastU a.b.u + (b.b.lo - a.b.lo) = La at *
  generalize lastU b.b.u = Lb at *
  have hac := hua.c0
  have hbc := hub.c0
  have HQ := Lib.hid hq
  have HM := Lib.hid hm
  have HUA := Lib.hid hua
  have HUB := Lib.hid hub
  have HLB := Lib.hid hLb
  unfold fv at *
  rw [hq] at K1 hac ⊢
  rw [← hm] at hbc ⊢
  rw [Nat.add_sub_cancel]
  clear s1 s2 s3 s4 s5 r1 r2 r3 r4 r5 a1 a2 b1 hq hm hua hub hLb
  cases d1 : (a.b.n == b.b.n) with
  | false =>
    have d1' : (a.b.n != b.b.n) = true := by simp [bne, d1]
    go_enter Tryz.func128, Tryz.ntmps128
    go_wp2
    go_ret
    exact ⟨rfl, ((Below.refl _ _).alloc (Nat.le_refl _) _).alloc (by simp) _⟩
  | true =>
    have d1' : (a.b.n != b.b.n) = false := by simp [bne, d1]
    have hwr : IntKind.i64.wrap (a.b.hi + 1) = a.b.hi + 1 := IntWalk.i64_in _ (by omega)
    cases d2 : (b.b.lo == a.b.hi + 1) with
    | false =>
      have d2' : (b.b.lo != a.b.hi + 1) = true := by simp [bne, d2]
      go_enter Tryz.func128, Tryz.ntmps128
      go_wp2
      go_ret
      exact ⟨rfl, ((Below.refl _ _).alloc (Nat.le_refl _) _).alloc (by simp) _⟩
    | true =>
      have d2' : (b.b.lo != a.b.hi + 1) = false := by simp [bne, d2]
      by_cases hmq : m = q + 1
      · subst hmq
        have HLB2 := Lib.hid (HLB.out HM.out.symm)
        obtain ⟨ba, oa, ea, hba, hca⟩ := HUA.out.si (by have := HQ.out; omega)
        obtain ⟨bb, ob, eb, hbb, hcb⟩ := HUB.out.si (by have := HM.out; omega)
        have hcell := hcb q (by have := HM.out; omega)
        rw [HLB2.out] at hcell
        have hcell2 : w.cell? ⟨bb, ob + q, none⟩ = some (.int .i64 Lb) := hcell
        clear hcell hca hcb hba
        have f0 : ((q + 1 == q + 1) = true) := by simp
        rw [f0, Bool.true_and]
        have wa : Below w.heap.size w ((w.alloc (.cells #[.int .i64 a.b.n, .int .i64 a.b.lo, .int .i64 a.b.hi, .slice (some ⟨ba, oa, none⟩) (q + 1) a.c] 73)).alloc (.cells #[.int .i64 b.b.n, .int .i64 b.b.lo, .int .i64 b.b.hi, .slice (some ⟨bb, ob, none⟩) (q + 1) b.c] 73)) := ((Below.refl _ _).alloc (Nat.le_refl _) _).alloc (by simp) _
        have hzw : w.heap.size + 1 < ((w.alloc (.cells #[.int .i64 a.b.n, .int .i64 a.b.lo, .int .i64 a.b.hi, .slice (some ⟨ba, oa, none⟩) (q + 1) a.c] 73)).alloc (.cells #[.int .i64 b.b.n, .int .i64 b.b.lo, .int .i64 b.b.hi, .slice (some ⟨bb, ob, none⟩) (q + 1) b.c] 73)).heap.size := by simp
        have xc : (fun w' => (w'.cell? ⟨w.heap.size, 0, none⟩ = some (.int .i64 a.b.n) ∧ w'.cell? ⟨w.heap.size, 1, none⟩ = some (.int .i64 a.b.lo) ∧ w'.cell? ⟨w.heap.size, 2, none⟩ = some (.int .i64 a.b.hi) ∧ w'.cell? ⟨w.heap.size, 3, none⟩ = some (.slice (some ⟨ba, oa, none⟩) (q + 1) a.c)) ∧ (w'.cell? ⟨w.heap.size + 1, 0, none⟩ = some (.int .i64 b.b.n) ∧ w'.cell? ⟨w.heap.size + 1, 1, none⟩ = some (.int .i64 b.b.lo) ∧ w'.cell? ⟨w.heap.size + 1, 2, none⟩ = some (.int .i64 b.b.hi) ∧ w'.cell? ⟨w.heap.size + 1, 3, none⟩ = some (.slice (some ⟨bb, ob, none⟩) (q + 1) b.c)) ∧ w'.cell? ⟨bb, ob + q, none⟩ = some (.int .i64 Lb)) ((w.alloc (.cells #[.int .i64 a.b.n, .int .i64 a.b.lo, .int .i64 a.b.hi, .slice (some ⟨ba, oa, none⟩) (q + 1) a.c] 73)).alloc (.cells #[.int .i64 b.b.n, .int .i64 b.b.lo, .int .i64 b.b.hi, .slice (some ⟨bb, ob, none⟩) (q + 1) b.c] 73)) := ⟨⟨by simp, by simp, by simp, by simp⟩, ⟨by simp, by simp, by simp, by simp⟩, (wa.cell (p := ⟨bb, ob + q, none⟩) hbb).trans hcell2⟩
        have HH : Hid (∀ w', Below ((w.alloc (.cells #[.int .i64 a.b.n, .int .i64 a.b.lo, .int .i64 a.b.hi, .slice (some ⟨ba, oa, none⟩) (q + 1) a.c] 73)).alloc (.cells #[.int .i64 b.b.n, .int .i64 b.b.lo, .int .i64 b.b.hi, .slice (some ⟨bb, ob, none⟩) (q + 1) b.c] 73)).heap.size ((w.alloc (.cells #[.int .i64 a.b.n, .int .i64 a.b.lo, .int .i64 a.b.hi, .slice (some ⟨ba, oa, none⟩) (q + 1) a.c] 73)).alloc (.cells #[.int .i64 b.b.n, .int .i64 b.b.lo, .int .i64 b.b.hi, .slice (some ⟨bb, ob, none⟩) (q + 1) b.c] 73)) w' → (fun w' => (w'.cell? ⟨w.heap.size, 0, none⟩ = some (.int .i64 a.b.n) ∧ w'.cell? ⟨w.heap.size, 1, none⟩ = some (.int .i64 a.b.lo) ∧ w'.cell? ⟨w.heap.size, 2, none⟩ = some (.int .i64 a.b.hi) ∧ w'.cell? ⟨w.heap.size, 3, none⟩ = some (.slice (some ⟨ba, oa, none⟩) (q + 1) a.c)) ∧ (w'.cell? ⟨w.heap.size + 1, 0, none⟩ = some (.int .i64 b.b.n) ∧ w'.cell? ⟨w.heap.size + 1, 1, none⟩ = some (.int .i64 b.b.lo) ∧ w'.cell? ⟨w.heap.size + 1, 2, none⟩ = some (.int .i64 b.b.hi) ∧ w'.cell? ⟨w.heap.size + 1, 3, none⟩ = some (.slice (some ⟨bb, ob, none⟩) (q + 1) b.c)) ∧ w'.cell? ⟨bb, ob + q, none⟩ = some (.int .i64 Lb)) w') := Lib.hid fun w' hb => by
          have k0 : ∀ i, w'.cell? ⟨w.heap.size, i, none⟩ = ((w.alloc (.cells #[.int .i64 a.b.n, .int .i64 a.b.lo, .int .i64 a.b.hi, .slice (some ⟨ba, oa, none⟩) (q + 1) a.c] 73)).alloc (.cells #[.int .i64 b.b.n, .int .i64 b.b.lo, .int .i64 b.b.hi, .slice (some ⟨bb, ob, none⟩) (q + 1) b.c] 73)).cell? ⟨w.heap.size, i, none⟩ := fun i => hb.cell (p := ⟨w.heap.size, i, none⟩) (by show w.heap.size < _; omega)
          have k1 : ∀ i, w'.cell? ⟨w.heap.size + 1, i, none⟩ = ((w.alloc (.cells #[.int .i64 a.b.n, .int .i64 a.b.lo, .int .i64 a.b.hi, .slice (some ⟨ba, oa, none⟩) (q + 1) a.c] 73)).alloc (.cells #[.int .i64 b.b.n, .int .i64 b.b.lo, .int .i64 b.b.hi, .slice (some ⟨bb, ob, none⟩) (q + 1) b.c] 73)).cell? ⟨w.heap.size + 1, i, none⟩ := fun i => hb.cell (p := ⟨w.heap.size + 1, i, none⟩) hzw
          obtain ⟨⟨p0, p1, p2, p3⟩, ⟨q0, q1, q2, q3⟩, u0⟩ := xc
          exact ⟨⟨(k0 _).trans p0, (k0 _).trans p1, (k0 _).trans p2, (k0 _).trans p3⟩, ⟨(k1 _).trans q0, (k1 _).trans q1, (k1 _).trans q2, (k1 _).trans q3⟩, (hb.cell (p := ⟨bb, ob + q, none⟩) (by show bb < _; omega)).trans u0⟩
        clear xc
        have KB : Hid (∀ W, Below ((w.alloc (.cells #[.int .i64 a.b.n, .int .i64 a.b.lo, .int .i64 a.b.hi, .slice (some ⟨ba, oa, none⟩) (q + 1) a.c] 73)).alloc (.cells #[.int .i64 b.b.n, .int .i64 b.b.lo, .int .i64 b.b.hi, .slice (some ⟨bb, ob, none⟩) (q + 1) b.c] 73)).heap.size ((w.alloc (.cells #[.int .i64 a.b.n, .int .i64 a.b.lo, .int .i64 a.b.hi, .slice (some ⟨ba, oa, none⟩) (q + 1) a.c] 73)).alloc (.cells #[.int .i64 b.b.n, .int .i64 b.b.lo, .int .i64 b.b.hi, .slice (some ⟨bb, ob, none⟩) (q + 1) b.c] 73)) W → Below w.heap.size w W) := Lib.hid fun W hW => wa.trans (hW.mono (by omega))
        have z0 : Below ((w.alloc (.cells #[.int .i64 a.b.n, .int .i64 a.b.lo, .int .i64 a.b.hi, .slice (some ⟨ba, oa, none⟩) (q + 1) a.c] 73)).alloc (.cells #[.int .i64 b.b.n, .int .i64 b.b.lo, .int .i64 b.b.hi, .slice (some ⟨bb, ob, none⟩) (q + 1) b.c] 73)).heap.size ((w.alloc (.cells #[.int .i64 a.b.n, .int .i64 a.b.lo, .int .i64 a.b.hi, .slice (some ⟨ba, oa, none⟩) (q + 1) a.c] 73)).alloc (.cells #[.int .i64 b.b.n, .int .i64 b.b.lo, .int .i64 b.b.hi, .slice (some ⟨bb, ob, none⟩) (q + 1) b.c] 73)) ((w.alloc (.cells #[.int .i64 a.b.n, .int .i64 a.b.lo, .int .i64 a.b.hi, .slice (some ⟨ba, oa, none⟩) (q + 1) a.c] 73)).alloc (.cells #[.int .i64 b.b.n, .int .i64 b.b.lo, .int .i64 b.b.hi, .slice (some ⟨bb, ob, none⟩) (q + 1) b.c] 73)).drew := (Below.refl _ _).drew
        have K3 : Hid (∀ W, Below w.heap.size w W → Calls Tryz.prog 149 #[.slice (some ⟨ba, oa, none⟩) q a.c, .slice (some ⟨bb, ob, none⟩) q b.c] W fun e w' => e = .returned (.bool (decide (a.b.u.take q = b.b.u.take q))) ∧ Below W.heap.size W w') := Lib.hid fun W hW => by
          have h1 := ((HUA.out.over hW).si).take q
          have h2 := ((HUB.out.over hW).si).take q
          rw [ea] at h1
          rw [eb] at h2
          exact Equal_any _ _ _ _ q _ _ W (by rw [List.length_take, HQ.out]; omega) (by rw [List.length_take, ← HM.out]; omega) (by omega) h1 h2
        rw [ea] at K1 ⊢
        rw [eb]
        have fq1 : q ≤ a.c := by omega
        have fq2 : q ≤ b.c := by omega
        have fq3 : (0 : Int) ≤ (q : Int) := by omega
        have fq4 : (q : Int) < (q : Int) + 1 := by omega
        clear wa hzw ea eb hcell2 hh hbb
        cases d3 : (Lb == La) with
        | true =>
          generalize decide (a.b.u.take q = b.b.u.take q) = rr at *
          go_enter Tryz.func128, Tryz.ntmps128
          go_wp2_with fail
          go_region_held (fun w' => (w'.cell? ⟨w.heap.size, 0, none⟩ = some (.int .i64 a.b.n) ∧ w'.cell? ⟨w.heap.size, 1, none⟩ = some (.int .i64 a.b.lo) ∧ w'.cell? ⟨w.heap.size, 2, none⟩ = some (.int .i64 a.b.hi) ∧ w'.cell? ⟨w.heap.size, 3, none⟩ = some (.slice (some ⟨ba, oa, none⟩) (q + 1) a.c)) ∧ (w'.cell? ⟨w.heap.size + 1, 0, none⟩ = some (.int .i64 b.b.n) ∧ w'.cell? ⟨w.heap.size + 1, 1, none⟩ = some (.int .i64 b.b.lo) ∧ w'.cell? ⟨w.heap.size + 1, 2, none⟩ = some (.int .i64 b.b.hi) ∧ w'.cell? ⟨w.heap.size + 1, 3, none⟩ = some (.slice (some ⟨bb, ob, none⟩) (q + 1) b.c)) ∧ w'.cell? ⟨bb, ob + q, none⟩ = some (.int .i64 Lb))
            (first | with_reducible exact HH.out _ z9 | with_reducible exact HH.out _ z8 | with_reducible exact HH.out _ z0)
            (first
              | (go_at_call 138; (with_reducible refine (K1.out _ (KB.out _ z0)).mono ?_); rintro e x1 ⟨rfl, y8⟩; have z8 := z0.trans (y8.mono z0.size))
              | (go_at_call 149; (with_reducible refine (K3.out _ (KB.out _ z8)).mono ?_); rintro e x2 ⟨rfl, y9⟩; have z9 := z8.trans (y9.mono z8.size)))
          all_goals
            go_wp2
            go_ret
            exact ⟨rfl, KB.out _ z9⟩
        | false =>
          clear K3
          go_enter Tryz.func128, Tryz.ntmps128
          go_wp2_with fail
          refine wp_region_held_drew (S := fun w' => (w'.cell? ⟨w.heap.size, 0, none⟩ = some (.int .i64 a.b.n) ∧ w'.cell? ⟨w.heap.size, 1, none⟩ = some (.int .i64 a.b.lo) ∧ w'.cell? ⟨w.heap.size, 2, none⟩ = some (.int .i64 a.b.hi) ∧ w'.cell? ⟨w.heap.size, 3, none⟩ = some (.slice (some ⟨ba, oa, none⟩) (q + 1) a.c)) ∧ (w'.cell? ⟨w.heap.size + 1, 0, none⟩ = some (.int .i64 b.b.n) ∧ w'.cell? ⟨w.heap.size + 1, 1, none⟩ = some (.int .i64 b.b.lo) ∧ w'.cell? ⟨w.heap.size + 1, 2, none⟩ = some (.int .i64 b.b.hi) ∧ w'.cell? ⟨w.heap.size + 1, 3, none⟩ = some (.slice (some ⟨bb, ob, none⟩) (q + 1) b.c)) ∧ w'.cell? ⟨bb, ob + q, none⟩ = some (.int .i64 Lb)) (by kernel_rfl) (HH.out _ z0) (fun hS0 => ?_)
          try dsimp only at hS0
          refine wpAnyH_take (i := 0) (oi := { dst := some 32, op := Op.fieldAddr 73 (Operand.tmp 3) 3, type := 0, pos := "dest.go:86", after := #[], guard := none }) (v := ?_) rfl (by kernel_rfl) (by kernel_rfl) (by kernel_rfl) (fun _ _ _ h => h) (Or.inl ⟨by rfl, ?_⟩) (by assumption) ?_
          rotate_left
          · intro w' hSw; obtain ⟨⟨d0, d1, d2, d3⟩, ⟨e0, e1, e2, e3⟩, u0⟩ := hSw; go_simp; try with_reducible rfl
          simp only [Act.put, List.setIfInBounds_toArray, List.set_cons_zero, List.set_cons_succ]
          refine wpAnyH_take (i := 1) (oi := { dst := some 33, op := Op.load 57 (Operand.tmp 32), type := 57, pos := "dest.go:86", after := #[{ on := 0, ground := Ground.data }], guard := none }) (v := ?_) rfl (by kernel_rfl) (by kernel_rfl) (by kernel_rfl) (fun _ _ _ h => h) (Or.inl ⟨by rfl, ?_⟩) (by assumption) ?_
          rotate_left
          · intro w' hSw; obtain ⟨⟨d0, d1, d2, d3⟩, ⟨e0, e1, e2, e3⟩, u0⟩ := hSw; go_simp; try with_reducible rfl
          simp only [Act.put, List.setIfInBounds_toArray, List.set_cons_zero, List.set_cons_succ]
          refine wpAnyH_take (i := 2) (oi := { dst := some 34, op := Op.move (Operand.tmp 5), type := 3, pos := "dest.go:86", after := #[], guard := none }) (v := ?_) rfl (by kernel_rfl) (by kernel_rfl) (by kernel_rfl) (fun _ _ _ h => h) (Or.inl ⟨by rfl, ?_⟩) (by assumption) ?_
          rotate_left
          · intro w' hSw; obtain ⟨⟨d0, d1, d2, d3⟩, ⟨e0, e1, e2, e3⟩, u0⟩ := hSw; go_simp; try with_reducible rfl
          simp only [Act.put, List.setIfInBounds_toArray, List.set_cons_zero, List.set_cons_succ]
          refine wpAnyH_take (i := 3) (oi := { dst := some 35, op := Op.indexAddr 57 (Operand.tmp 33) (Operand.tmp 34), type := 0, pos := "dest.go:86", after := #[{ on := 1, ground := Ground.data }, { on := 2, ground := Ground.data }], guard := none }) (v := ?_) rfl (by kernel_rfl) (by kernel_rfl) (by kernel_rfl) (fun _ _ _ h => h) (Or.inl ⟨by rfl, ?_⟩) (by assumption) ?_
          rotate_left
          · intro w' hSw; obtain ⟨⟨d0, d1, d2, d3⟩, ⟨e0, e1, e2, e3⟩, u0⟩ := hSw; go_simp; try with_reducible rfl
          simp only [Act.put, List.setIfInBounds_toArray, List.set_cons_zero, List.set_cons_succ]
          refine wpAnyH_take (i := 4) (oi := { dst := some 36, op := Op.load 3 (Operand.tmp 35), type := 3, pos := "dest.go:86", after := #[{ on := 3, ground := Ground.data }], guard := none }) (v := ?_) rfl (by kernel_rfl) (by kernel_rfl) (by kernel_rfl) (fun _ _ _ h => h) (Or.inl ⟨by rfl, ?_⟩) (by assumption) ?_
          rotate_left
          · intro w' hSw; obtain ⟨⟨d0, d1, d2, d3⟩, ⟨e0, e1, e2, e3⟩, u0⟩ := hSw; go_simp; try with_reducible rfl
          simp only [Act.put, List.setIfInBounds_toArray, List.set_cons_zero, List.set_cons_succ]
          refine wpAnyH_take (i := 5) (oi := { dst := some 37, op := Op.load 73 (Operand.tmp 2), type := 73, pos := "dest.go:86", after := #[], guard := none }) (v := ?_) rfl (by kernel_rfl) (by kernel_rfl) (by kernel_rfl) (fun _ _ _ h => h) (Or.inl ⟨by rfl, ?_⟩) (by assumption) ?_
          rotate_left
          · intro w' hSw; obtain ⟨⟨d0, d1, d2, d3⟩, ⟨e0, e1, e2, e3⟩, u0⟩ := hSw; go_simp; try with_reducible rfl
          simp only [Act.put, List.setIfInBounds_toArray, List.set_cons_zero, List.set_cons_succ]
          refine wpAnyH_take (i := 6) (oi := { dst := some 38, op := Op.fieldAddr 73 (Operand.tmp 3) 1, type := 0, pos := "dest.go:86", after := #[], guard := none }) (v := ?_) rfl (by kernel_rfl) (by kernel_rfl) (by kernel_rfl) (fun _ _ _ h => h) (Or.inl ⟨by rfl, ?_⟩) (by assumption) ?_
          rotate_left
          · intro w' hSw; obtain ⟨⟨d0, d1, d2, d3⟩, ⟨e0, e1, e2, e3⟩, u0⟩ := hSw; go_simp; try with_reducible rfl
          simp only [Act.put, List.setIfInBounds_toArray, List.set_cons_zero, List.set_cons_succ]
          refine wpAnyH_take (i := 7) (oi := { dst := some 39, op := Op.load 3 (Operand.tmp 38), type := 3, pos := "dest.go:86", after := #[{ on := 6, ground := Ground.data }], guard := none }) (v := ?_) rfl (by kernel_rfl) (by kernel_rfl) (by kernel_rfl) (fun _ _ _ h => h) (Or.inl ⟨by rfl, ?_⟩) (by assumption) ?_
          rotate_left
          · intro w' hSw; obtain ⟨⟨d0, d1, d2, d3⟩, ⟨e0, e1, e2, e3⟩, u0⟩ := hSw; go_simp; try with_reducible rfl
          simp only [Act.put, List.setIfInBounds_toArray, List.set_cons_zero, List.set_cons_succ]
          refine wpAnyH_ready (rs := [8]) (by kernel_rfl) (by simp) (AllReadyH.cons rfl (fun K hK => ?_) AllReadyH.nil)
          go_simp
          go_wp2_with ((go_at_call 138; (with_reducible refine (K1.out _ (KB.out _ z0)).mono ?_); rintro e x1 ⟨rfl, y8⟩))
          have z8 := z0.trans (y8.mono z0.size)
          refine hK.out _ _ (HH.out _ z8) (fun hS8 => ?_)
          clear hK K
          try dsimp only at hS8
          refine wpAnyH_take (i := 9) (oi := { dst := some 41, op := Op.binOp BinOp.eql 3 (Operand.tmp 36) (Operand.tmp 40) 3, type := 4, pos := "dest.go:86", after := #[{ on := 4, ground := Ground.data }, { on := 8, ground := Ground.data }], guard := none }) (v := ?_) rfl (by kernel_rfl) (by kernel_rfl) (by kernel_rfl) (fun _ _ _ h => h) (Or.inl ⟨by rfl, ?_⟩) (by assumption) ?_
          rotate_left
          · intro w' hSw; obtain ⟨⟨d0, d1, d2, d3⟩, ⟨e0, e1, e2, e3⟩, u0⟩ := hSw; go_simp; try with_reducible rfl
          simp only [Act.put, List.setIfInBounds_toArray, List.set_cons_zero, List.set_cons_succ]
          refine wpAnyH_take (i := 10) (oi := { dst := some 42, op := Op.move (Operand.tmp 41), type := 4, pos := "dest.go:86", after := #[{ on := 9, ground := Ground.data }, { on := 8, ground := Ground.chain }], guard := none }) (v := ?_) rfl (by kernel_rfl) (by kernel_rfl) (by kernel_rfl) (fun _ _ _ h => h) (Or.inl ⟨by rfl, ?_⟩) (by assumption) ?_
          rotate_left
          · intro w' hSw; obtain ⟨⟨d0, d1, d2, d3⟩, ⟨e0, e1, e2, e3⟩, u0⟩ := hSw; go_simp; try with_reducible rfl
          simp only [Act.put, List.setIfInBounds_toArray, List.set_cons_zero, List.set_cons_succ]
          refine wpAnyH_take (i := 11) (oi := { dst := some 43, op := Op.fieldAddr 73 (Operand.tmp 2) 3, type := 0, pos := "dest.go:86", after := #[{ on := 10, ground := Ground.guard }], guard := some (10, true) }) (v := undef) rfl (by kernel_rfl) (by kernel_rfl) (by kernel_rfl) (fun _ _ _ h => h) (Or.inr ⟨by rfl, rfl⟩) (by assumption) ?_
          simp only [Act.put, List.setIfInBounds_toArray, List.set_cons_zero, List.set_cons_succ]
          refine wpAnyH_take (i := 12) (oi := { dst := some 44, op := Op.load 57 (Operand.tmp 43), type := 57, pos := "dest.go:86", after := #[{ on := 11, ground := Ground.data }, { on := 10, ground := Ground.guard }], guard := some (10, true) }) (v := undef) rfl (by kernel_rfl) (by kernel_rfl) (by kernel_rfl) (fun _ _ _ h => h) (Or.inr ⟨by rfl, rfl⟩) (by assumption) ?_
          simp only [Act.put, List.setIfInBounds_toArray, List.set_cons_zero, List.set_cons_succ]
          refine wpAnyH_take (i := 13) (oi := { dst := some 45, op := Op.move (Operand.tmp 5), type := 3, pos := "dest.go:86", after := #[{ on := 10, ground := Ground.guard }], guard := some (10, true) }) (v := undef) rfl (by kernel_rfl) (by kernel_rfl) (by kernel_rfl) (fun _ _ _ h => h) (Or.inr ⟨by rfl, rfl⟩) (by assumption) ?_
          simp only [Act.put, List.setIfInBounds_toArray, List.set_cons_zero, List.set_cons_succ]
          refine wpAnyH_take (i := 14) (oi := { dst := some 46, op := Op.slice 57 (Operand.tmp 44) none (some (Operand.tmp 45)) none, type := 57, pos := "dest.go:86", after := #[{ on := 12, ground := Ground.data }, { on := 13, ground := Ground.data }, { on := 10, ground := Ground.guard }], guard := some (10, true) }) (v := undef) rfl (by kernel_rfl) (by kernel_rfl) (by kernel_rfl) (fun _ _ _ h => h) (Or.inr ⟨by rfl, rfl⟩) (by assumption) ?_
          simp only [Act.put, List.setIfInBounds_toArray, List.set_cons_zero, List.set_cons_succ]
          refine wpAnyH_take (i := 15) (oi := { dst := some 47, op := Op.fieldAddr 73 (Operand.tmp 3) 3, type := 0, pos := "dest.go:86", after := #[{ on := 10, ground := Ground.guard }], guard := some (10, true) }) (v := undef) rfl (by kernel_rfl) (by kernel_rfl) (by kernel_rfl) (fun _ _ _ h => h) (Or.inr ⟨by rfl, rfl⟩) (by assumption) ?_
          simp only [Act.put, List.setIfInBounds_toArray, List.set_cons_zero, List.set_cons_succ]
          refine wpAnyH_take (i := 16) (oi := { dst := some 48, op := Op.load 57 (Operand.tmp 47), type := 57, pos := "dest.go:86", after := #[{ on := 15, ground := Ground.data }, { on := 10, ground := Ground.guard }], guard := some (10, true) }) (v := undef) rfl (by kernel_rfl) (by kernel_rfl) (by kernel_rfl) (fun _ _ _ h => h) (Or.inr ⟨by rfl, rfl⟩) (by assumption) ?_
          simp only [Act.put, List.setIfInBounds_toArray, List.set_cons_zero, List.set_cons_succ]
          refine wpAnyH_take (i := 17) (oi := { dst := some 49, op := Op.move (Operand.tmp 5), type := 3, pos := "dest.go:86", after := #[{ on := 10, ground := Ground.guard }], guard := some (10, true) }) (v := undef) rfl (by kernel_rfl) (by kernel_rfl) (by kernel_rfl) (fun _ _ _ h => h) (Or.inr ⟨by rfl, rfl⟩) (by assumption) ?_
          simp only [Act.put, List.setIfInBounds_toArray, List.set_cons_zero, List.set_cons_succ]
          refine wpAnyH_take (i := 18) (oi := { dst := some 50, op := Op.slice 57 (Operand.tmp 48) none (some (Operand.tmp 49)) none, type := 57, pos := "dest.go:86", after := #[{ on := 16, ground := Ground.data }, { on := 17, ground := Ground.data }, { on := 10, ground := Ground.guard }], guard := some (10, true) }) (v := undef) rfl (by kernel_rfl) (by kernel_rfl) (by kernel_rfl) (fun _ _ _ h => h) (Or.inr ⟨by rfl, rfl⟩) (by assumption) ?_
          simp only [Act.put, List.setIfInBounds_toArray, List.set_cons_zero, List.set_cons_succ]
          refine wpAnyH_take (i := 19) (oi := { dst := some 51, op := Op.call { callee := Callee.value (Operand.func 149), args := #[Operand.tmp 46, Operand.tmp 50], argTypes := #[57, 57] }, type := 4, pos := "dest.go:86", after := #[{ on := 14, ground := Ground.data }, { on := 18, ground := Ground.data }, { on := 10, ground := Ground.chain }, { on := 10, ground := Ground.guard }], guard := some (10, true) }) (v := undef) rfl (by kernel_rfl) (by kernel_rfl) (by kernel_rfl) (fun _ _ _ h => h) (Or.inr ⟨by rfl, rfl⟩) (by assumption) ?_
          simp only [Act.put, List.setIfInBounds_toArray, List.set_cons_zero, List.set_cons_succ]
          refine wpAnyH_take (i := 20) (oi := { dst := some 52, op := Op.pick (Operand.tmp 42) (Operand.tmp 51) (Operand.const (Value.bool false)), type := 4, pos := "dest.go:86", after := #[{ on := 10, ground := Ground.data }, { on := 19, ground := Ground.data }], guard := none }) (v := ?_) rfl (by kernel_rfl) (by kernel_rfl) (by kernel_rfl) (fun _ _ _ h => h) (Or.inl ⟨by rfl, ?_⟩) (by assumption) ?_
          rotate_left
          · intro w' hSw; obtain ⟨⟨d0, d1, d2, d3⟩, ⟨e0, e1, e2, e3⟩, u0⟩ := hSw; go_simp; try with_reducible rfl
          simp only [Act.put, List.setIfInBounds_toArray, List.set_cons_zero, List.set_cons_succ]
          refine wpAnyH_take (i := 21) (oi := { dst := some 4, op := Op.assign (Operand.tmp 52), type := 4, pos := "dest.go:86", after := #[{ on := 20, ground := Ground.data }, { on := 19, ground := Ground.chain }, { on := 0, ground := Ground.phase }, { on := 1, ground := Ground.phase }, { on := 2, ground := Ground.phase }, { on := 3, ground := Ground.phase }, { on := 4, ground := Ground.phase }, { on := 5, ground := Ground.phase }, { on := 6, ground := Ground.phase }, { on := 7, ground := Ground.phase }, { on := 8, ground := Ground.phase }, { on := 9, ground := Ground.phase }, { on := 10, ground := Ground.phase }, { on := 11, ground := Ground.phase }, { on := 12, ground := Ground.phase }, { on := 13, ground := Ground.phase }, { on := 14, ground := Ground.phase }, { on := 15, ground := Ground.phase }, { on := 16, ground := Ground.phase }, { on := 17, ground := Ground.phase }, { on := 18, ground := Ground.phase }, { on := 19, ground := Ground.phase }, { on := 20, ground := Ground.phase }], guard := none }) (v := ?_) rfl (by kernel_rfl) (by kernel_rfl) (by kernel_rfl) (fun _ _ _ h => h) (Or.inl ⟨by rfl, ?_⟩) (by assumption) ?_
          rotate_left
          · intro w' hSw; obtain ⟨⟨d0, d1, d2, d3⟩, ⟨e0, e1, e2, e3⟩, u0⟩ := hSw; go_simp; try with_reducible rfl
          simp only [Act.put, List.setIfInBounds_toArray, List.set_cons_zero, List.set_cons_succ]
          refine wpAnyH_done (by kernel_rfl) ?_ _
          go_wp2
          go_ret
          exact ⟨rfl, KB.out _ z8⟩
      · have f0 : ((q + 1 == m) = false) := by simp; omega
        have f1 : (((q + 1 : Nat) : Int) != (m : Int)) = true := by simp; omega
        have f2 : ((q : Int) + 1 != (m : Int)) = true := by simp; omega
        rw [f0, Bool.false_and, Bool.and_false, Bool.and_false]
        go_enter Tryz.func128, Tryz.ntmps128
        go_wp2
        go_ret
        exact ⟨rfl, ((Below.refl _ _).alloc (Nat.le_refl _) _).alloc (by simp) _⟩
end Go.Proofs.YtmjneokjgcgchaaGreat
/-
  How many of some, from the first one on, are a table: plainly; the program's own run and Canon.
-/
namespace Go.Proofs.YtmjneokjgcgchaaGreat
open Go.RowKit
attribute [local go_sem ↓] Go.wp_at_zero Go.wp_at_succ

/-- May the one at i stand where it stands? -/
def okAtB (l : List Bp) (i : Nat) : Prop := ∀ s, l[i]? = some s → Sb s ∧ ∀ j a, i = j + 1 → l[j]? = some a → RqB a s
/-- All ahead of k may stand where they stand. -/
def OkkB (l : List Bp) (k : Nat) : Prop := ∀ i, i < k → okAtB l i
section
variable {l : List Bp}
theorem OkkB.cn (h : OkkB l l.length) : Ct l := by
  have hs : ∀ (i : Nat) (s : Bp), l[i]? = some s → Sb s := fun i s hx => (h i (List.getElem?_eq_some_iff.1 hx).1 s hx).1
  have key : ∀ d i (a b : Bp), l[i]? = some a → l[i + 1 + d]? = some b → RqB a b := by
    intro d
    induction d with
    | zero => exact fun i a b ha hb => (h (i + 1) (List.getElem?_eq_some_iff.1 hb).1 b hb).2 i a rfl ha
    | succ d ih =>
      intro i a b ha hb
      have hlt := (List.getElem?_eq_some_iff.1 hb).1
      obtain ⟨c, hc⟩ : ∃ c, l[i + 1 + d]? = some c := ⟨_, List.getElem?_eq_getElem (by omega)⟩
      have r1 := ih i a c ha hc
      have r2 := (h (i + 1 + d + 1) (by omega) b hb).2 (i + 1 + d) c rfl hc
      have hcl := (hs _ _ hc).2.2.1
      have hbl := (hs _ _ hb).2.2.1
      refine ⟨r1.1.trans r2.1 hcl, fun hj => ?_⟩
      have k1 := r1.1
      have k2 := r2.1
      obtain ⟨j1, j2, _⟩ := hj
      unfold ahB at k1 k2
      omega
  refine ⟨fun s hm => ?_, ?_⟩
  · obtain ⟨i, hi, e⟩ := List.getElem_of_mem hm
    exact hs i s (by rw [List.getElem?_eq_getElem hi, e])
  · rw [List.pairwise_iff_getElem]
    intro i j hi hj hij
    exact key (j - i - 1) i _ _ (List.getElem?_eq_getElem hi) (by rw [show i + 1 + (j - i - 1) = j by omega]; exact List.getElem?_eq_getElem hj)
theorem Ct.okk (h : Ct l) (k : Nat) : OkkB l k := fun i _ s hs => ⟨h.1 s (List.mem_of_getElem? hs), fun j a e ha => by
  subst e
  have h2 := List.pairwise_iff_getElem.1 h.2 j (j + 1) (List.getElem?_eq_some_iff.1 ha).1 (List.getElem?_eq_some_iff.1 hs).1 (by omega)
  rw [(List.getElem?_eq_some_iff.1 ha).2, (List.getElem?_eq_some_iff.1 hs).2] at h2
  exact h2⟩
theorem OkkB.more {k : Nat} (h : OkkB l k) (hk : okAtB l k) : OkkB l (k + 1) := fun i hi => by
  rcases Nat.lt_or_ge i k with h1 | h1
  · exact h i h1
  · rw [show i = k by omega]
    exact hk
end
/-- What run tells: all ahead may stand, the one there may not. -/
def RunB (l : List Bp) (k : Nat) : Prop := k ≤ l.length ∧ OkkB l k ∧ (k < l.length → ¬ okAtB l k)
set_option maxRecDepth 100000 in
set_option maxHeartbeats 4000000 in
theorem dRun_any (A : Option Addr) (c : Nat) (d : List Me) (w : World) (hA : Sd w A d) (hl : d.length ≤ 1048576) :
    Calls Tryz.prog 96 #[.slice A d.length c] w fun e w' => (∃ k : Nat, RunB (pl d) k ∧ e = .returned (.int .i64 (k : Int))) ∧ Below w.heap.size w w' := by
  have HA := Lib.hid hA
  obtain ⟨n, hn⟩ : ∃ n, n = d.length := ⟨_, rfl⟩
  have HN := Lib.hid hn
  rw [← hn] at hl ⊢
  clear hn hA
  go_enter Tryz.func96, Tryz.ntmps96
  go_wp2
  go_loopw [7] (fun i wr => ∃ k : Nat, k ≤ n ∧ i = .int .i64 (k : Int) ∧ Hid (OkkB (pl d) k) ∧ Below w.heap.size w wr) (fun i _ => n - (intOf i).toNat)
  case atStart => exact ⟨0, Nat.zero_le _, rfl, Lib.hid (fun i hi => by omega), Below.refl _ _⟩
  case round =>
    obtain ⟨k, hk, rfl, HO, hbel⟩ := hrel
    have hsz := hbel.size
    by_cases hlt : k < n
    · have t0 : decide (k < n) = true := decide_eq_true hlt
      have hx := List.getElem?_eq_getElem (l := d) (i := k) (by have := HN.out; omega)
      generalize d[k]'(by have := HN.out; omega) = x at *
      obtain ⟨b, o, rfl, hb, ⟨y0, y1, y2, y3⟩⟩ := (HA.out.over hbel).rd.at hx
      have hux := HA.out.ul x (List.mem_of_getElem? hx)
      have K1 := Lib.hid (fun W (hW : Below w.heap.size w W) => DSane_any x W (hux.over hW))
      unfold fv at K1
      have HX := Lib.hid hx
      clear hx
      have z2 : ∀ W, Below (wr.alloc (.cells #[.int .i64 x.b.n, .int .i64 x.b.lo, .int .i64 x.b.hi, .slice x.a x.b.u.length x.c] 73)).heap.size (wr.alloc (.cells #[.int .i64 x.b.n, .int .i64 x.b.lo, .int .i64 x.b.hi, .slice x.a x.b.u.length x.c] 73)) W → Fb W wr.heap.size x ∧ Below w.heap.size w W := fun W hW =>
        ⟨Fb.below (Fb.new _ _ _) hW (by simp), (hbel.alloc hsz _).trans (hW.mono (by simp; omega))⟩
      have Z2 := Lib.hid z2
      have z0 : Below (wr.alloc (.cells #[.int .i64 x.b.n, .int .i64 x.b.lo, .int .i64 x.b.hi, .slice x.a x.b.u.length x.c] 73)).heap.size (wr.alloc (.cells #[.int .i64 x.b.n, .int .i64 x.b.lo, .int .i64 x.b.hi, .slice x.a x.b.u.length x.c] 73)) (wr.alloc (.cells #[.int .i64 x.b.n, .int .i64 x.b.lo, .int .i64 x.b.hi, .slice x.a x.b.u.length x.c] 73)).drew := (Below.refl _ _).drew
      clear z2
      by_cases hs : Sb x.b
      · rw [decide_eq_true hs] at K1
        have HS := Lib.hid hs
        clear hs
        cases k with
        | zero =>
          simp only [Nat.zero_mul, Nat.add_zero] at y0 y1 y2 y3
          have HH : Hid (∀ w', Below (wr.alloc (.cells #[.int .i64 x.b.n, .int .i64 x.b.lo, .int .i64 x.b.hi, .slice x.a x.b.u.length x.c] 73)).heap.size (wr.alloc (.cells #[.int .i64 x.b.n, .int .i64 x.b.lo, .int .i64 x.b.hi, .slice x.a x.b.u.length x.c] 73)) w' → (fun w' => w'.cell? ⟨wr.heap.size, 0, none⟩ = some (.int .i64 x.b.n) ∧ w'.cell? ⟨wr.heap.size, 1, none⟩ = some (.int .i64 x.b.lo) ∧ w'.cell? ⟨wr.heap.size, 2, none⟩ = some (.int .i64 x.b.hi) ∧ w'.cell? ⟨wr.heap.size, 3, none⟩ = some (.slice x.a x.b.u.length x.c)) w') := Lib.hid fun w' hb => by
            have p := (Z2.out w' hb).1
            exact ⟨p.c0, p.c1, p.c2, p.c3⟩
          go_wp2_with fail
          clear y0 y1 y2 y3
          refine wp_region_held_drew (S := fun w' => w'.cell? ⟨wr.heap.size, 0, none⟩ = some (.int .i64 x.b.n) ∧ w'.cell? ⟨wr.heap.size, 1, none⟩ = some (.int .i64 x.b.lo) ∧ w'.cell? ⟨wr.heap.size, 2, none⟩ = some (.int .i64 x.b.hi) ∧ w'.cell? ⟨wr.heap.size, 3, none⟩ = some (.slice x.a x.b.u.length x.c)) (by kernel_rfl) (HH.out _ z0) (fun hS0 => ?_)
          try dsimp only at hS0
          refine wpAnyH_take (i := 0) (oi := { dst := some 12, op := Op.load 73 (Operand.tmp 4), type := 73, pos := "dest.go:95", after := #[], guard := none }) (v := ?_) rfl (by kernel_rfl) (by kernel_rfl) (by kernel_rfl) (fun _ _ _ h => h) (Or.inl ⟨by rfl, ?_⟩) (by assumption) ?_
          rotate_left
          · intro w' hSw; obtain ⟨d0, d1, d2, d3⟩ := hSw; go_simp; try with_reducible rfl
          simp only [Act.put, List.setIfInBounds_toArray, List.set_cons_zero, List.set_cons_succ]
          refine wpAnyH_ready (rs := [1]) (by kernel_rfl) (by simp) (AllReadyH.cons rfl (fun K hK => ?_) AllReadyH.nil)
          go_simp
          go_wp2_with ((go_at_call 109; (with_reducible refine (K1.out _ (Z2.out _ z0).2).mono ?_); rintro e x1 ⟨rfl, y8⟩))
          have z1 := z0.trans (y8.mono z0.size)
          refine hK.out _ _ (HH.out _ z1) (fun hS1 => ?_)
          clear hK K
          try dsimp only at hS1
          refine wpAnyH_take (i := 2) (oi := { dst := some 14, op := Op.unOp UnOp.not 4 (Operand.tmp 13), type := 4, pos := "dest.go:95", after := #[{ on := 1, ground := Ground.data }], guard := none }) (v := ?_) rfl (by kernel_rfl) (by kernel_rfl) (by kernel_rfl) (fun _ _ _ h => h) (Or.inl ⟨by rfl, ?_⟩) (by assumption) ?_
          rotate_left
          · intro w' hSw; obtain ⟨d0, d1, d2, d3⟩ := hSw; go_simp; try with_reducible rfl
          simp only [Act.put, List.setIfInBounds_toArray, List.set_cons_zero, List.set_cons_succ]
          refine wpAnyH_take (i := 3) (oi := { dst := some 15, op := Op.move (Operand.tmp 14), type := 4, pos := "dest.go:95", after := #[{ on := 2, ground := Ground.data }, { on := 1, ground := Ground.chain }], guard := none }) (v := ?_) rfl (by kernel_rfl) (by kernel_rfl) (by kernel_rfl) (fun _ _ _ h => h) (Or.inl ⟨by rfl, ?_⟩) (by assumption) ?_
          rotate_left
          · intro w' hSw; obtain ⟨d0, d1, d2, d3⟩ := hSw; go_simp; try with_reducible rfl
          simp only [Act.put, List.setIfInBounds_toArray, List.set_cons_zero, List.set_cons_succ]
          refine wpAnyH_take (i := 4) (oi := { dst := some 16, op := Op.move (Operand.tmp 3), type := 3, pos := "dest.go:95", after := #[{ on := 3, ground := Ground.guard }], guard := some (3, false) }) (v := ?_) rfl (by kernel_rfl) (by kernel_rfl) (by kernel_rfl) (fun _ _ _ h => h) (Or.inl ⟨by rfl, ?_⟩) (by assumption) ?_
          rotate_left
          · intro w' hSw; obtain ⟨d0, d1, d2, d3⟩ := hSw; go_simp; try with_reducible rfl
          simp only [Act.put, List.setIfInBounds_toArray, List.set_cons_zero, List.set_cons_succ]
          refine wpAnyH_take (i := 5) (oi := { dst := some 17, op := Op.binOp BinOp.gtr 3 (Operand.tmp 16) (Operand.const (Value.int IntKind.i64 0)) 3, type := 4, pos := "dest.go:95", after := #[{ on := 4, ground := Ground.data }, { on := 3, ground := Ground.guard }], guard := some (3, false) }) (v := ?_) rfl (by kernel_rfl) (by kernel_rfl) (by kernel_rfl) (fun _ _ _ h => h) (Or.inl ⟨by rfl, ?_⟩) (by assumption) ?_
          rotate_left
          · intro w' hSw; obtain ⟨d0, d1, d2, d3⟩ := hSw; go_simp; try with_reducible rfl
          simp only [Act.put, List.setIfInBounds_toArray, List.set_cons_zero, List.set_cons_succ]
          refine wpAnyH_take (i := 6) (oi := { dst := some 18, op := Op.move (Operand.tmp 17), type := 4, pos := "dest.go:95", after := #[{ on := 5, ground := Ground.data }, { on := 3, ground := Ground.chain }, { on := 3, ground := Ground.guard }], guard := some (3, false) }) (v := ?_) rfl (by kernel_rfl) (by kernel_rfl) (by kernel_rfl) (fun _ _ _ h => h) (Or.inl ⟨by rfl, ?_⟩) (by assumption) ?_
          rotate_left
          · intro w' hSw; obtain ⟨d0, d1, d2, d3⟩ := hSw; go_simp; try with_reducible rfl
          simp only [Act.put, List.setIfInBounds_toArray, List.set_cons_zero, List.set_cons_succ]
          refine wpAnyH_take (i := 7) (oi := { dst := some 19, op := Op.move (Operand.tmp 0), type := 25, pos := "dest.go:95", after := #[{ on := 6, ground := Ground.guard }], guard := some (6, true) }) (v := undef) rfl (by kernel_rfl) (by kernel_rfl) (by kernel_rfl) (fun _ _ _ h => h) (Or.inr ⟨by rfl, rfl⟩) (by assumption) ?_
          simp only [Act.put, List.setIfInBounds_toArray, List.set_cons_zero, List.set_cons_succ]
          refine wpAnyH_take (i := 8) (oi := { dst := some 20, op := Op.move (Operand.tmp 3), type := 3, pos := "dest.go:95", after := #[{ on := 6, ground := Ground.guard }], guard := some (6, true) }) (v := undef) rfl (by kernel_rfl) (by kernel_rfl) (by kernel_rfl) (fun _ _ _ h => h) (Or.inr ⟨by rfl, rfl⟩) (by assumption) ?_
          simp only [Act.put, List.setIfInBounds_toArray, List.set_cons_zero, List.set_cons_succ]
          refine wpAnyH_take (i := 9) (oi := { dst := some 21, op := Op.binOp BinOp.sub 3 (Operand.tmp 20) (Operand.const (Value.int IntKind.i64 1)) 3, type := 3, pos := "dest.go:95", after := #[{ on := 8, ground := Ground.data }, { on := 6, ground := Ground.guard }], guard := some (6, true) }) (v := undef) rfl (by kernel_rfl) (by kernel_rfl) (by kernel_rfl) (fun _ _ _ h => h) (Or.inr ⟨by rfl, rfl⟩) (by assumption) ?_
          simp only [Act.put, List.setIfInBounds_toArray, List.set_cons_zero, List.set_cons_succ]
          refine wpAnyH_take (i := 10) (oi := { dst := some 22, op := Op.indexAddr 25 (Operand.tmp 19) (Operand.tmp 21), type := 0, pos := "dest.go:95", after := #[{ on := 7, ground := Ground.data }, { on := 9, ground := Ground.data }, { on := 6, ground := Ground.guard }], guard := some (6, true) }) (v := undef) rfl (by kernel_rfl) (by kernel_rfl) (by kernel_rfl) (fun _ _ _ h => h) (Or.inr ⟨by rfl, rfl⟩) (by assumption) ?_
          simp only [Act.put, List.setIfInBounds_toArray, List.set_cons_zero, List.set_cons_succ]
          refine wpAnyH_take (i := 11) (oi := { dst := some 23, op := Op.load 73 (Operand.tmp 22), type := 73, pos := "dest.go:95", after := #[{ on := 10, ground := Ground.data }, { on := 6, ground := Ground.guard }], guard := some (6, true) }) (v := undef) rfl (by kernel_rfl) (by kernel_rfl) (by kernel_rfl) (fun _ _ _ h => h) (Or.inr ⟨by rfl, rfl⟩) (by assumption) ?_
          simp only [Act.put, List.setIfInBounds_toArray, List.set_cons_zero, List.set_cons_succ]
          refine wpAnyH_take (i := 12) (oi := { dst := some 24, op := Op.load 73 (Operand.tmp 4), type := 73, pos := "dest.go:95", after := #[{ on := 6, ground := Ground.guard }], guard := some (6, true) }) (v := undef) rfl (by kernel_rfl) (by kernel_rfl) (by kernel_rfl) (fun _ _ _ h => h) (Or.inr ⟨by rfl, rfl⟩) (by assumption) ?_
          simp only [Act.put, List.setIfInBounds_toArray, List.set_cons_zero, List.set_cons_succ]
          refine wpAnyH_take (i := 13) (oi := { dst := some 25, op := Op.call { callee := Callee.value (Operand.func 108), args := #[Operand.tmp 23, Operand.tmp 24], argTypes := #[73, 73] }, type := 4, pos := "dest.go:95", after := #[{ on := 11, ground := Ground.data }, { on := 12, ground := Ground.data }, { on := 6, ground := Ground.chain }, { on := 6, ground := Ground.guard }], guard := some (6, true) }) (v := undef) rfl (by kernel_rfl) (by kernel_rfl) (by kernel_rfl) (fun _ _ _ h => h) (Or.inr ⟨by rfl, rfl⟩) (by assumption) ?_
          simp only [Act.put, List.setIfInBounds_toArray, List.set_cons_zero, List.set_cons_succ]
          refine wpAnyH_take (i := 14) (oi := { dst := some 26, op := Op.unOp UnOp.not 4 (Operand.tmp 25), type := 4, pos := "dest.go:95", after := #[{ on := 13, ground := Ground.data }, { on := 6, ground := Ground.guard }], guard := some (6, true) }) (v := undef) rfl (by kernel_rfl) (by kernel_rfl) (by kernel_rfl) (fun _ _ _ h => h) (Or.inr ⟨by rfl, rfl⟩) (by assumption) ?_
          simp only [Act.put, List.setIfInBounds_toArray, List.set_cons_zero, List.set_cons_succ]
          refine wpAnyH_take (i := 15) (oi := { dst := some 27, op := Op.move (Operand.tmp 26), type := 4, pos := "dest.go:95", after := #[{ on := 14, ground := Ground.data }, { on := 13, ground := Ground.chain }, { on := 6, ground := Ground.guard }], guard := some (6, true) }) (v := undef) rfl (by kernel_rfl) (by kernel_rfl) (by kernel_rfl) (fun _ _ _ h => h) (Or.inr ⟨by rfl, rfl⟩) (by assumption) ?_
          simp only [Act.put, List.setIfInBounds_toArray, List.set_cons_zero, List.set_cons_succ]
          refine wpAnyH_take (i := 16) (oi := { dst := some 28, op := Op.move (Operand.tmp 0), type := 25, pos := "dest.go:95", after := #[{ on := 15, ground := Ground.guard }], guard := some (15, false) }) (v := undef) rfl (by kernel_rfl) (by kernel_rfl) (by kernel_rfl) (fun _ _ _ h => h) (Or.inr ⟨by rfl, rfl⟩) (by assumption) ?_
          simp only [Act.put, List.setIfInBounds_toArray, List.set_cons_zero, List.set_cons_succ]
          refine wpAnyH_take (i := 17) (oi := { dst := some 29, op := Op.move (Operand.tmp 3), type := 3, pos := "dest.go:95", after := #[{ on := 15, ground := Ground.guard }], guard := some (15, false) }) (v := undef) rfl (by kernel_rfl) (by kernel_rfl) (by kernel_rfl) (fun _ _ _ h => h) (Or.inr ⟨by rfl, rfl⟩) (by assumption) ?_
          simp only [Act.put, List.setIfInBounds_toArray, List.set_cons_zero, List.set_cons_succ]
          refine wpAnyH_take (i := 18) (oi := { dst := some 30, op := Op.binOp BinOp.sub 3 (Operand.tmp 29) (Operand.const (Value.int IntKind.i64 1)) 3, type := 3, pos := "dest.go:95", after := #[{ on := 17, ground := Ground.data }, { on := 15, ground := Ground.guard }], guard := some (15, false) }) (v := undef) rfl (by kernel_rfl) (by kernel_rfl) (by kernel_rfl) (fun _ _ _ h => h) (Or.inr ⟨by rfl, rfl⟩) (by assumption) ?_
          simp only [Act.put, List.setIfInBounds_toArray, List.set_cons_zero, List.set_cons_succ]
          refine wpAnyH_take (i := 19) (oi := { dst := some 31, op := Op.indexAddr 25 (Operand.tmp 28) (Operand.tmp 30), type := 0, pos := "dest.go:95", after := #[{ on := 16, ground := Ground.data }, { on := 18, ground := Ground.data }, { on := 15, ground := Ground.guard }], guard := some (15, false) }) (v := undef) rfl (by kernel_rfl) (by kernel_rfl) (by kernel_rfl) (fun _ _ _ h => h) (Or.inr ⟨by rfl, rfl⟩) (by assumption) ?_
          simp only [Act.put, List.setIfInBounds_toArray, List.set_cons_zero, List.set_cons_succ]
          refine wpAnyH_take (i := 20) (oi := { dst := some 32, op := Op.load 73 (Operand.tmp 31), type := 73, pos := "dest.go:95", after := #[{ on := 19, ground := Ground.data }, { on := 15, ground := Ground.guard }], guard := some (15, false) }) (v := undef) rfl (by kernel_rfl) (by kernel_rfl) (by kernel_rfl) (fun _ _ _ h => h) (Or.inr ⟨by rfl, rfl⟩) (by assumption) ?_
          simp only [Act.put, List.setIfInBounds_toArray, List.set_cons_zero, List.set_cons_succ]
          refine wpAnyH_take (i := 21) (oi := { dst := some 33, op := Op.load 73 (Operand.tmp 4), type := 73, pos := "dest.go:95", after := #[{ on := 15, ground := Ground.guard }], guard := some (15, false) }) (v := undef) rfl (by kernel_rfl) (by kernel_rfl) (by kernel_rfl) (fun _ _ _ h => h) (Or.inr ⟨by rfl, rfl⟩) (by assumption) ?_
          simp only [Act.put, List.setIfInBounds_toArray, List.set_cons_zero, List.set_cons_succ]
          refine wpAnyH_take (i := 22) (oi := { dst := some 34, op := Op.call { callee := Callee.value (Operand.func 128), args := #[Operand.tmp 32, Operand.tmp 33], argTypes := #[73, 73] }, type := 4, pos := "dest.go:95", after := #[{ on := 20, ground := Ground.data }, { on := 21, ground := Ground.data }, { on := 15, ground := Ground.chain }, { on := 15, ground := Ground.guard }], guard := some (15, false) }) (v := undef) rfl (by kernel_rfl) (by kernel_rfl) (by kernel_rfl) (fun _ _ _ h => h) (Or.inr ⟨by rfl, rfl⟩) (by assumption) ?_
          simp only [Act.put, List.setIfInBounds_toArray, List.set_cons_zero, List.set_cons_succ]
          refine wpAnyH_take (i := 23) (oi := { dst := some 35, op := Op.pick (Operand.tmp 27) (Operand.const (Value.bool true)) (Operand.tmp 34), type := 4, pos := "dest.go:95", after := #[{ on := 15, ground := Ground.data }, { on := 22, ground := Ground.data }, { on := 6, ground := Ground.guard }], guard := some (6, true) }) (v := undef) rfl (by kernel_rfl) (by kernel_rfl) (by kernel_rfl) (fun _ _ _ h => h) (Or.inr ⟨by rfl, rfl⟩) (by assumption) ?_
          simp only [Act.put, List.setIfInBounds_toArray, List.set_cons_zero, List.set_cons_succ]
          refine wpAnyH_take (i := 24) (oi := { dst := some 36, op := Op.pick (Operand.tmp 18) (Operand.tmp 35) (Operand.const (Value.bool false)), type := 4, pos := "dest.go:95", after := #[{ on := 6, ground := Ground.data }, { on := 23, ground := Ground.data }, { on := 3, ground := Ground.guard }], guard := some (3, false) }) (v := ?_) rfl (by kernel_rfl) (by kernel_rfl) (by kernel_rfl) (fun _ _ _ h => h) (Or.inl ⟨by rfl, ?_⟩) (by assumption) ?_
          rotate_left
          · intro w' hSw; obtain ⟨d0, d1, d2, d3⟩ := hSw; go_simp; try with_reducible rfl
          simp only [Act.put, List.setIfInBounds_toArray, List.set_cons_zero, List.set_cons_succ]
          refine wpAnyH_take (i := 25) (oi := { dst := some 37, op := Op.pick (Operand.tmp 15) (Operand.const (Value.bool true)) (Operand.tmp 36), type := 4, pos := "dest.go:95", after := #[{ on := 3, ground := Ground.data }, { on := 24, ground := Ground.data }], guard := none }) (v := ?_) rfl (by kernel_rfl) (by kernel_rfl) (by kernel_rfl) (fun _ _ _ h => h) (Or.inl ⟨by rfl, ?_⟩) (by assumption) ?_
          rotate_left
          · intro w' hSw; obtain ⟨d0, d1, d2, d3⟩ := hSw; go_simp; try with_reducible rfl
          simp only [Act.put, List.setIfInBounds_toArray, List.set_cons_zero, List.set_cons_succ]
          refine wpAnyH_done (by kernel_rfl) ?_ _
          go_wp2
          refine ⟨⟨1, by omega, by go_num, Lib.hid (HO.out.more fun s hs => ?_), (Z2.out _ z1).2⟩, by simp [intOf]; omega⟩
          rw [pl_get HX.out] at hs
          cases hs
          exact ⟨HS.out, fun j a e => by omega⟩
        | succ j =>
          obtain ⟨a, ha⟩ : ∃ a, d[j]? = some a := ⟨_, List.getElem?_eq_getElem (by have := HN.out; omega)⟩
          have HAJ := Lib.hid ha
          have hj1 : j < n := by omega
          have hwr : IntKind.i64.wrap (j : Int) = (j : Int) := IntWalk.i64_in _ (by omega)
          have HH : Hid (∀ w', Below (wr.alloc (.cells #[.int .i64 x.b.n, .int .i64 x.b.lo, .int .i64 x.b.hi, .slice x.a x.b.u.length x.c] 73)).heap.size (wr.alloc (.cells #[.int .i64 x.b.n, .int .i64 x.b.lo, .int .i64 x.b.hi, .slice x.a x.b.u.length x.c] 73)) w' → (fun w' => (w'.cell? ⟨wr.heap.size, 0, none⟩ = some (.int .i64 x.b.n) ∧ w'.cell? ⟨wr.heap.size, 1, none⟩ = some (.int .i64 x.b.lo) ∧ w'.cell? ⟨wr.heap.size, 2, none⟩ = some (.int .i64 x.b.hi) ∧ w'.cell? ⟨wr.heap.size, 3, none⟩ = some (.slice x.a x.b.u.length x.c)) ∧ (w'.cell? ⟨b, o + j * 4, none⟩ = some (.int .i64 a.b.n) ∧ w'.cell? ⟨b, o + j * 4 + 1, none⟩ = some (.int .i64 a.b.lo) ∧ w'.cell? ⟨b, o + j * 4 + 2, none⟩ = some (.int .i64 a.b.hi) ∧ w'.cell? ⟨b, o + j * 4 + 3, none⟩ = some (.slice a.a a.b.u.length a.c))) w') := Lib.hid fun w' hb => by
            have p := (Z2.out w' hb).1
            obtain ⟨b2, o2, e2, _, q⟩ := (HA.out.over (Z2.out w' hb).2).rd.at HAJ.out
            injection e2 with e2
            injection e2 with e3 e4
            subst e3 e4
            exact ⟨⟨p.c0, p.c1, p.c2, p.c3⟩, q.c0, q.c1, q.c2, q.c3⟩
          have K2 := Lib.hid (fun W => dAhead_any a x W)
          have hna : Sb a.b := (HO.out j (by omega) a.b (pl_get ha)).1
          have hua := HA.out.ul a (List.mem_of_getElem? ha)
          have K3 := Lib.hid (fun W (hW : Below w.heap.size w W) => dJoins_any a x W (hua.over hW) (hux.over hW) hna HS.out)
          unfold fv at K2 K3
          clear ha hna
          by_cases h1 : ahB a.b x.b
          · rw [decide_eq_true h1] at K2
            have H1 := Lib.hid h1
            clear h1
            cases h2 : decide (jnB a.b x.b) with
            | true =>
              rw [h2] at K3
              have H2 := Lib.hid h2
              clear h2
              go_wp2_with fail
              clear y0 y1 y2 y3
              refine wp_region_held_drew (S := fun w' => (w'.cell? ⟨wr.heap.size, 0, none⟩ = some (.int .i64 x.b.n) ∧ w'.cell? ⟨wr.heap.size, 1, none⟩ = some (.int .i64 x.b.lo) ∧ w'.cell? ⟨wr.heap.size, 2, none⟩ = some (.int .i64 x.b.hi) ∧ w'.cell? ⟨wr.heap.size, 3, none⟩ = some (.slice x.a x.b.u.length x.c)) ∧ (w'.cell? ⟨b, o + j * 4, none⟩ = some (.int .i64 a.b.n) ∧ w'.cell? ⟨b, o + j * 4 + 1, none⟩ = some (.int .i64 a.b.lo) ∧ w'.cell? ⟨b, o + j * 4 + 2, none⟩ = some (.int .i64 a.b.hi) ∧ w'.cell? ⟨b, o + j * 4 + 3, none⟩ = some (.slice a.a a.b.u.length a.c))) (by kernel_rfl) (HH.out _ z0) (fun hS0 => ?_)
              try dsimp only at hS0
              refine wpAnyH_take (i := 0) (oi := { dst := some 12, op := Op.load 73 (Operand.tmp 4), type := 73, pos := "dest.go:95", after := #[], guard := none }) (v := ?_) rfl (by kernel_rfl) (by kernel_rfl) (by kernel_rfl) (fun _ _ _ h => h) (Or.inl ⟨by rfl, ?_⟩) (by assumption) ?_
              rotate_left
              · intro w' hSw; obtain ⟨⟨d0, d1, d2, d3⟩, e0, e1, e2, e3⟩ := hSw; go_simp; try with_reducible rfl
              simp only [Act.put, List.setIfInBounds_toArray, List.set_cons_zero, List.set_cons_succ]
              refine wpAnyH_ready (rs := [1]) (by kernel_rfl) (by simp) (AllReadyH.cons rfl (fun K hK => ?_) AllReadyH.nil)
              go_simp
              go_wp2_with ((go_at_call 109; (with_reducible refine (K1.out _ (Z2.out _ z0).2).mono ?_); rintro e x1 ⟨rfl, y8⟩))
              have z1 := z0.trans (y8.mono z0.size)
              refine hK.out _ _ (HH.out _ z1) (fun hS1 => ?_)
              clear hK K
              try dsimp only at hS1
              refine wpAnyH_take (i := 2) (oi := { dst := some 14, op := Op.unOp UnOp.not 4 (Operand.tmp 13), type := 4, pos := "dest.go:95", after := #[{ on := 1, ground := Ground.data }], guard := none }) (v := ?_) rfl (by kernel_rfl) (by kernel_rfl) (by kernel_rfl) (fun _ _ _ h => h) (Or.inl ⟨by rfl, ?_⟩) (by assumption) ?_
              rotate_left
              · intro w' hSw; obtain ⟨⟨d0, d1, d2, d3⟩, e0, e1, e2, e3⟩ := hSw; go_simp; try with_reducible rfl
              simp only [Act.put, List.setIfInBounds_toArray, List.set_cons_zero, List.set_cons_succ]
              refine wpAnyH_take (i := 3) (oi := { dst := some 15, op := Op.move (Operand.tmp 14), type := 4, pos := "dest.go:95", after := #[{ on := 2, ground := Ground.data }, { on := 1, ground := Ground.chain }], guard := none }) (v := ?_) rfl (by kernel_rfl) (by kernel_rfl) (by kernel_rfl) (fun _ _ _ h => h) (Or.inl ⟨by rfl, ?_⟩) (by assumption) ?_
              rotate_left
              · intro w' hSw; obtain ⟨⟨d0, d1, d2, d3⟩, e0, e1, e2, e3⟩ := hSw; go_simp; try with_reducible rfl
              simp only [Act.put, List.setIfInBounds_toArray, List.set_cons_zero, List.set_cons_succ]
              refine wpAnyH_take (i := 4) (oi := { dst := some 16, op := Op.move (Operand.tmp 3), type := 3, pos := "dest.go:95", after := #[{ on := 3, ground := Ground.guard }], guard := some (3, false) }) (v := ?_) rfl (by kernel_rfl) (by kernel_rfl) (by kernel_rfl) (fun _ _ _ h => h) (Or.inl ⟨by rfl, ?_⟩) (by assumption) ?_
              rotate_left
              · intro w' hSw; obtain ⟨⟨d0, d1, d2, d3⟩, e0, e1, e2, e3⟩ := hSw; go_simp; try with_reducible rfl
              simp only [Act.put, List.setIfInBounds_toArray, List.set_cons_zero, List.set_cons_succ]
              refine wpAnyH_take (i := 5) (oi := { dst := some 17, op := Op.binOp BinOp.gtr 3 (Operand.tmp 16) (Operand.const (Value.int IntKind.i64 0)) 3, type := 4, pos := "dest.go:95", after := #[{ on := 4, ground := Ground.data }, { on := 3, ground := Ground.guard }], guard := some (3, false) }) (v := ?_) rfl (by kernel_rfl) (by kernel_rfl) (by kernel_rfl) (fun _ _ _ h => h) (Or.inl ⟨by rfl, ?_⟩) (by assumption) ?_
              rotate_left
              · intro w' hSw; obtain ⟨⟨d0, d1, d2, d3⟩, e0, e1, e2, e3⟩ := hSw; go_simp; try with_reducible rfl
              simp only [Act.put, List.setIfInBounds_toArray, List.set_cons_zero, List.set_cons_succ]
              refine wpAnyH_take (i := 6) (oi := { dst := some 18, op := Op.move (Operand.tmp 17), type := 4, pos := "dest.go:95", after := #[{ on := 5, ground := Ground.data }, { on := 3, ground := Ground.chain }, { on := 3, ground := Ground.guard }], guard := some (3, false) }) (v := ?_) rfl (by kernel_rfl) (by kernel_rfl) (by kernel_rfl) (fun _ _ _ h => h) (Or.inl ⟨by rfl, ?_⟩) (by assumption) ?_
              rotate_left
              · intro w' hSw; obtain ⟨⟨d0, d1, d2, d3⟩, e0, e1, e2, e3⟩ := hSw; go_simp; try with_reducible rfl
              simp only [Act.put, List.setIfInBounds_toArray, List.set_cons_zero, List.set_cons_succ]
              refine wpAnyH_take (i := 7) (oi := { dst := some 19, op := Op.move (Operand.tmp 0), type := 25, pos := "dest.go:95", after := #[{ on := 6, ground := Ground.guard }], guard := some (6, true) }) (v := ?_) rfl (by kernel_rfl) (by kernel_rfl) (by kernel_rfl) (fun _ _ _ h => h) (Or.inl ⟨by rfl, ?_⟩) (by assumption) ?_
              rotate_left
              · intro w' hSw; obtain ⟨⟨d0, d1, d2, d3⟩, e0, e1, e2, e3⟩ := hSw; go_simp; try with_reducible rfl
              simp only [Act.put, List.setIfInBounds_toArray, List.set_cons_zero, List.set_cons_succ]
              refine wpAnyH_take (i := 8) (oi := { dst := some 20, op := Op.move (Operand.tmp 3), type := 3, pos := "dest.go:95", after := #[{ on := 6, ground := Ground.guard }], guard := some (6, true) }) (v := ?_) rfl (by kernel_rfl) (by kernel_rfl) (by kernel_rfl) (fun _ _ _ h => h) (Or.inl ⟨by rfl, ?_⟩) (by assumption) ?_
              rotate_left
              · intro w' hSw; obtain ⟨⟨d0, d1, d2, d3⟩, e0, e1, e2, e3⟩ := hSw; go_simp; try with_reducible rfl
              simp only [Act.put, List.setIfInBounds_toArray, List.set_cons_zero, List.set_cons_succ]
              refine wpAnyH_take (i := 9) (oi := { dst := some 21, op := Op.binOp BinOp.sub 3 (Operand.tmp 20) (Operand.const (Value.int IntKind.i64 1)) 3, type := 3, pos := "dest.go:95", after := #[{ on := 8, ground := Ground.data }, { on := 6, ground := Ground.guard }], guard := some (6, true) }) (v := ?_) rfl (by kernel_rfl) (by kernel_rfl) (by kernel_rfl) (fun _ _ _ h => h) (Or.inl ⟨by rfl, ?_⟩) (by assumption) ?_
              rotate_left
              · intro w' hSw; obtain ⟨⟨d0, d1, d2, d3⟩, e0, e1, e2, e3⟩ := hSw; go_simp; try with_reducible rfl
              simp only [Act.put, List.setIfInBounds_toArray, List.set_cons_zero, List.set_cons_succ]
              refine wpAnyH_take (i := 10) (oi := { dst := some 22, op := Op.indexAddr 25 (Operand.tmp 19) (Operand.tmp 21), type := 0, pos := "dest.go:95", after := #[{ on := 7, ground := Ground.data }, { on := 9, ground := Ground.data }, { on := 6, ground := Ground.guard }], guard := some (6, true) }) (v := ?_) rfl (by kernel_rfl) (by kernel_rfl) (by kernel_rfl) (fun _ _ _ h => h) (Or.inl ⟨by rfl, ?_⟩) (by assumption) ?_
              rotate_left
              · intro w' hSw; obtain ⟨⟨d0, d1, d2, d3⟩, e0, e1, e2, e3⟩ := hSw; go_simp; try with_reducible rfl
              simp only [Act.put, List.setIfInBounds_toArray, List.set_cons_zero, List.set_cons_succ]
              refine wpAnyH_take (i := 11) (oi := { dst := some 23, op := Op.load 73 (Operand.tmp 22), type := 73, pos := "dest.go:95", after := #[{ on := 10, ground := Ground.data }, { on := 6, ground := Ground.guard }], guard := some (6, true) }) (v := ?_) rfl (by kernel_rfl) (by kernel_rfl) (by kernel_rfl) (fun _ _ _ h => h) (Or.inl ⟨by rfl, ?_⟩) (by assumption) ?_
              rotate_left
              · intro w' hSw; obtain ⟨⟨d0, d1, d2, d3⟩, e0, e1, e2, e3⟩ := hSw; go_simp; try with_reducible rfl
              simp only [Act.put, List.setIfInBounds_toArray, List.set_cons_zero, List.set_cons_succ]
              refine wpAnyH_take (i := 12) (oi := { dst := some 24, op := Op.load 73 (Operand.tmp 4), type := 73, pos := "dest.go:95", after := #[{ on := 6, ground := Ground.guard }], guard := some (6, true) }) (v := ?_) rfl (by kernel_rfl) (by kernel_rfl) (by kernel_rfl) (fun _ _ _ h => h) (Or.inl ⟨by rfl, ?_⟩) (by assumption) ?_
              rotate_left
              · intro w' hSw; obtain ⟨⟨d0, d1, d2, d3⟩, e0, e1, e2, e3⟩ := hSw; go_simp; try with_reducible rfl
              simp only [Act.put, List.setIfInBounds_toArray, List.set_cons_zero, List.set_cons_succ]
              refine wpAnyH_ready (rs := [13]) (by kernel_rfl) (by simp) (AllReadyH.cons rfl (fun K hK => ?_) AllReadyH.nil)
              go_simp
              go_wp2_with ((go_at_call 108; (with_reducible refine (K2.out _).mono ?_); rintro e x2 ⟨rfl, y9⟩))
              have z2 := z1.trans (y9.mono z1.size)
              refine hK.out _ _ (HH.out _ z2) (fun hS13 => ?_)
              clear hK K
              try dsimp only at hS13
              refine wpAnyH_take (i := 14) (oi := { dst := some 26, op := Op.unOp UnOp.not 4 (Operand.tmp 25), type := 4, pos := "dest.go:95", after := #[{ on := 13, ground := Ground.data }, { on := 6, ground := Ground.guard }], guard := some (6, true) }) (v := ?_) rfl (by kernel_rfl) (by kernel_rfl) (by kernel_rfl) (fun _ _ _ h => h) (Or.inl ⟨by rfl, ?_⟩) (by assumption) ?_
              rotate_left
              · intro w' hSw; obtain ⟨⟨d0, d1, d2, d3⟩, e0, e1, e2, e3⟩ := hSw; go_simp; try with_reducible rfl
              simp only [Act.put, List.setIfInBounds_toArray, List.set_cons_zero, List.set_cons_succ]
              refine wpAnyH_take (i := 15) (oi := { dst := some 27, op := Op.move (Operand.tmp 26), type := 4, pos := "dest.go:95", after := #[{ on := 14, ground := Ground.data }, { on := 13, ground := Ground.chain }, { on := 6, ground := Ground.guard }], guard := some (6, true) }) (v := ?_) rfl (by kernel_rfl) (by kernel_rfl) (by kernel_rfl) (fun _ _ _ h => h) (Or.inl ⟨by rfl, ?_⟩) (by assumption) ?_
              rotate_left
              · intro w' hSw; obtain ⟨⟨d0, d1, d2, d3⟩, e0, e1, e2, e3⟩ := hSw; go_simp; try with_reducible rfl
              simp only [Act.put, List.setIfInBounds_toArray, List.set_cons_zero, List.set_cons_succ]
              refine wpAnyH_take (i := 16) (oi := { dst := some 28, op := Op.move (Operand.tmp 0), type := 25, pos := "dest.go:95", after := #[{ on := 15, ground := Ground.guard }], guard := some (15, false) }) (v := ?_) rfl (by kernel_rfl) (by kernel_rfl) (by kernel_rfl) (fun _ _ _ h => h) (Or.inl ⟨by rfl, ?_⟩) (by assumption) ?_
              rotate_left
              · intro w' hSw; obtain ⟨⟨d0, d1, d2, d3⟩, e0, e1, e2, e3⟩ := hSw; go_simp; try with_reducible rfl
              simp only [Act.put, List.setIfInBounds_toArray, List.set_cons_zero, List.set_cons_succ]
              refine wpAnyH_take (i := 17) (oi := { dst := some 29, op := Op.move (Operand.tmp 3), type := 3, pos := "dest.go:95", after := #[{ on := 15, ground := Ground.guard }], guard := some (15, false) }) (v := ?_) rfl (by kernel_rfl) (by kernel_rfl) (by kernel_rfl) (fun _ _ _ h => h) (Or.inl ⟨by rfl, ?_⟩) (by assumption) ?_
              rotate_left
              · intro w' hSw; obtain ⟨⟨d0, d1, d2, d3⟩, e0, e1, e2, e3⟩ := hSw; go_simp; try with_reducible rfl
              simp only [Act.put, List.setIfInBounds_toArray, List.set_cons_zero, List.set_cons_succ]
              refine wpAnyH_take (i := 18) (oi := { dst := some 30, op := Op.binOp BinOp.sub 3 (Operand.tmp 29) (Operand.const (Value.int IntKind.i64 1)) 3, type := 3, pos := "dest.go:95", after := #[{ on := 17, ground := Ground.data }, { on := 15, ground := Ground.guard }], guard := some (15, false) }) (v := ?_) rfl (by kernel_rfl) (by kernel_rfl) (by kernel_rfl) (fun _ _ _ h => h) (Or.inl ⟨by rfl, ?_⟩) (by assumption) ?_
              rotate_left
              · intro w' hSw; obtain ⟨⟨d0, d1, d2, d3⟩, e0, e1, e2, e3⟩ := hSw; go_simp; try with_reducible rfl
              simp only [Act.put, List.setIfInBounds_toArray, List.set_cons_zero, List.set_cons_succ]
              refine wpAnyH_take (i := 19) (oi := { dst := some 31, op := Op.indexAddr 25 (Operand.tmp 28) (Operand.tmp 30), type := 0, pos := "dest.go:95", after := #[{ on := 16, ground := Ground.data }, { on := 18, ground := Ground.data }, { on := 15, ground := Ground.guard }], guard := some (15, false) }) (v := ?_) rfl (by kernel_rfl) (by kernel_rfl) (by kernel_rfl) (fun _ _ _ h => h) (Or.inl ⟨by rfl, ?_⟩) (by assumption) ?_
              rotate_left
              · intro w' hSw; obtain ⟨⟨d0, d1, d2, d3⟩, e0, e1, e2, e3⟩ := hSw; go_simp; try with_reducible rfl
              simp only [Act.put, List.setIfInBounds_toArray, List.set_cons_zero, List.set_cons_succ]
              refine wpAnyH_take (i := 20) (oi := { dst := some 32, op := Op.load 73 (Operand.tmp 31), type := 73, pos := "dest.go:95", after := #[{ on := 19, ground := Ground.data }, { on := 15, ground := Ground.guard }], guard := some (15, false) }) (v := ?_) rfl (by kernel_rfl) (by kernel_rfl) (by kernel_rfl) (fun _ _ _ h => h) (Or.inl ⟨by rfl, ?_⟩) (by assumption) ?_
              rotate_left
              · intro w' hSw; obtain ⟨⟨d0, d1, d2, d3⟩, e0, e1, e2, e3⟩ := hSw; go_simp; try with_reducible rfl
              simp only [Act.put, List.setIfInBounds_toArray, List.set_cons_zero, List.set_cons_succ]
              refine wpAnyH_take (i := 21) (oi := { dst := some 33, op := Op.load 73 (Operand.tmp 4), type := 73, pos := "dest.go:95", after := #[{ on := 15, ground := Ground.guard }], guard := some (15, false) }) (v := ?_) rfl (by kernel_rfl) (by kernel_rfl) (by kernel_rfl) (fun _ _ _ h => h) (Or.inl ⟨by rfl, ?_⟩) (by assumption) ?_
              rotate_left
              · intro w' hSw; obtain ⟨⟨d0, d1, d2, d3⟩, e0, e1, e2, e3⟩ := hSw; go_simp; try with_reducible rfl
              simp only [Act.put, List.setIfInBounds_toArray, List.set_cons_zero, List.set_cons_succ]
              refine wpAnyH_ready (rs := [22]) (by kernel_rfl) (by simp) (AllReadyH.cons rfl (fun K hK => ?_) AllReadyH.nil)
              go_simp
              go_wp2_with ((go_at_call 128; (with_reducible refine (K3.out _ (Z2.out _ z2).2).mono ?_); rintro e x3 ⟨rfl, y10⟩))
              have z3 := z2.trans (y10.mono z2.size)
              refine hK.out _ _ (HH.out _ z3) (fun hS22 => ?_)
              clear hK K
              try dsimp only at hS22
              refine wpAnyH_take (i := 23) (oi := { dst := some 35, op := Op.pick (Operand.tmp 27) (Operand.const (Value.bool true)) (Operand.tmp 34), type := 4, pos := "dest.go:95", after := #[{ on := 15, ground := Ground.data }, { on := 22, ground := Ground.data }, { on := 6, ground := Ground.guard }], guard := some (6, true) }) (v := ?_) rfl (by kernel_rfl) (by kernel_rfl) (by kernel_rfl) (fun _ _ _ h => h) (Or.inl ⟨by rfl, ?_⟩) (by assumption) ?_
              rotate_left
              · intro w' hSw; obtain ⟨⟨d0, d1, d2, d3⟩, e0, e1, e2, e3⟩ := hSw; go_simp; try with_reducible rfl
              simp only [Act.put, List.setIfInBounds_toArray, List.set_cons_zero, List.set_cons_succ]
              refine wpAnyH_take (i := 24) (oi := { dst := some 36, op := Op.pick (Operand.tmp 18) (Operand.tmp 35) (Operand.const (Value.bool false)), type := 4, pos := "dest.go:95", after := #[{ on := 6, ground := Ground.data }, { on := 23, ground := Ground.data }, { on := 3, ground := Ground.guard }], guard := some (3, false) }) (v := ?_) rfl (by kernel_rfl) (by kernel_rfl) (by kernel_rfl) (fun _ _ _ h => h) (Or.inl ⟨by rfl, ?_⟩) (by assumption) ?_
              rotate_left
              · intro w' hSw; obtain ⟨⟨d0, d1, d2, d3⟩, e0, e1, e2, e3⟩ := hSw; go_simp; try with_reducible rfl
              simp only [Act.put, List.setIfInBounds_toArray, List.set_cons_zero, List.set_cons_succ]
              refine wpAnyH_take (i := 25) (oi := { dst := some 37, op := Op.pick (Operand.tmp 15) (Operand.const (Value.bool true)) (Operand.tmp 36), type := 4, pos := "dest.go:95", after := #[{ on := 3, ground := Ground.data }, { on := 24, ground := Ground.data }], guard := none }) (v := ?_) rfl (by kernel_rfl) (by kernel_rfl) (by kernel_rfl) (fun _ _ _ h => h) (Or.inl ⟨by rfl, ?_⟩) (by assumption) ?_
              rotate_left
              · intro w' hSw; obtain ⟨⟨d0, d1, d2, d3⟩, e0, e1, e2, e3⟩ := hSw; go_simp; try with_reducible rfl
              simp only [Act.put, List.setIfInBounds_toArray, List.set_cons_zero, List.set_cons_succ]
              refine wpAnyH_done (by kernel_rfl) ?_ _
              go_wp2
              go_ret
              exact ⟨⟨j + 1, ⟨by rw [pl_length, ← HN.out]; omega, HO.out, fun _ h => (h x.b (pl_get HX.out)).2 j a.b rfl (pl_get HAJ.out) |>.2 (of_decide_eq_true H2.out)⟩, by first | rfl | go_num⟩, (Z2.out _ z3).2⟩
            | false =>
              rw [h2] at K3
              have H2 := Lib.hid h2
              clear h2
              go_wp2_with fail
              clear y0 y1 y2 y3
              refine wp_region_held_drew (S := fun w' => (w'.cell? ⟨wr.heap.size, 0, none⟩ = some (.int .i64 x.b.n) ∧ w'.cell? ⟨wr.heap.size, 1, none⟩ = some (.int .i64 x.b.lo) ∧ w'.cell? ⟨wr.heap.size, 2, none⟩ = some (.int .i64 x.b.hi) ∧ w'.cell? ⟨wr.heap.size, 3, none⟩ = some (.slice x.a x.b.u.length x.c)) ∧ (w'.cell? ⟨b, o + j * 4, none⟩ = some (.int .i64 a.b.n) ∧ w'.cell? ⟨b, o + j * 4 + 1, none⟩ = some (.int .i64 a.b.lo) ∧ w'.cell? ⟨b, o + j * 4 + 2, none⟩ = some (.int .i64 a.b.hi) ∧ w'.cell? ⟨b, o + j * 4 + 3, none⟩ = some (.slice a.a a.b.u.length a.c))) (by kernel_rfl) (HH.out _ z0) (fun hS0 => ?_)
              try dsimp only at hS0
              refine wpAnyH_take (i := 0) (oi := { dst := some 12, op := Op.load 73 (Operand.tmp 4), type := 73, pos := "dest.go:95", after := #[], guard := none }) (v := ?_) rfl (by kernel_rfl) (by kernel_rfl) (by kernel_rfl) (fun _ _ _ h => h) (Or.inl ⟨by rfl, ?_⟩) (by assumption) ?_
              rotate_left
              · intro w' hSw; obtain ⟨⟨d0, d1, d2, d3⟩, e0, e1, e2, e3⟩ := hSw; go_simp; try with_reducible rfl
              simp only [Act.put, List.setIfInBounds_toArray, List.set_cons_zero, List.set_cons_succ]
              refine wpAnyH_ready (rs := [1]) (by kernel_rfl) (by simp) (AllReadyH.cons rfl (fun K hK => ?_) AllReadyH.nil)
              go_simp
              go_wp2_with ((go_at_call 109; (with_reducible refine (K1.out _ (Z2.out _ z0).2).mono ?_); rintro e x1 ⟨rfl, y8⟩))
              have z1 := z0.trans (y8.mono z0.size)
              refine hK.out _ _ (HH.out _ z1) (fun hS1 => ?_)
              clear hK K
              try dsimp only at hS1
              refine wpAnyH_take (i := 2) (oi := { dst := some 14, op := Op.unOp UnOp.not 4 (Operand.tmp 13), type := 4, pos := "dest.go:95", after := #[{ on := 1, ground := Ground.data }], guard := none }) (v := ?_) rfl (by kernel_rfl) (by kernel_rfl) (by kernel_rfl) (fun _ _ _ h => h) (Or.inl ⟨by rfl, ?_⟩) (by assumption) ?_
              rotate_left
              · intro w' hSw; obtain ⟨⟨d0, d1, d2, d3⟩, e0, e1, e2, e3⟩ := hSw; go_simp; try with_reducible rfl
              simp only [Act.put, List.setIfInBounds_toArray, List.set_cons_zero, List.set_cons_succ]
              refine wpAnyH_take (i := 3) (oi := { dst := some 15, op := Op.move (Operand.tmp 14), type := 4, pos := "dest.go:95", after := #[{ on := 2, ground := Ground.data }, { on := 1, ground := Ground.chain }], guard := none }) (v := ?_) rfl (by kernel_rfl) (by kernel_rfl) (by kernel_rfl) (fun _ _ _ h => h) (Or.inl ⟨by rfl, ?_⟩) (by assumption) ?_
              rotate_left
              · intro w' hSw; obtain ⟨⟨d0, d1, d2, d3⟩, e0, e1, e2, e3⟩ := hSw; go_simp; try with_reducible rfl
              simp only [Act.put, List.setIfInBounds_toArray, List.set_cons_zero, List.set_cons_succ]
              refine wpAnyH_take (i := 4) (oi := { dst := some 16, op := Op.move (Operand.tmp 3), type := 3, pos := "dest.go:95", after := #[{ on := 3, ground := Ground.guard }], guard := some (3, false) }) (v := ?_) rfl (by kernel_rfl) (by kernel_rfl) (by kernel_rfl) (fun _ _ _ h => h) (Or.inl ⟨by rfl, ?_⟩) (by assumption) ?_
              rotate_left
              · intro w' hSw; obtain ⟨⟨d0, d1, d2, d3⟩, e0, e1, e2, e3⟩ := hSw; go_simp; try with_reducible rfl
              simp only [Act.put, List.setIfInBounds_toArray, List.set_cons_zero, List.set_cons_succ]
              refine wpAnyH_take (i := 5) (oi := { dst := some 17, op := Op.binOp BinOp.gtr 3 (Operand.tmp 16) (Operand.const (Value.int IntKind.i64 0)) 3, type := 4, pos := "dest.go:95", after := #[{ on := 4, ground := Ground.data }, { on := 3, ground := Ground.guard }], guard := some (3, false) }) (v := ?_) rfl (by kernel_rfl) (by kernel_rfl) (by kernel_rfl) (fun _ _ _ h => h) (Or.inl ⟨by rfl, ?_⟩) (by assumption) ?_
              rotate_left
              · intro w' hSw; obtain ⟨⟨d0, d1, d2, d3⟩, e0, e1, e2, e3⟩ := hSw; go_simp; try with_reducible rfl
              simp only [Act.put, List.setIfInBounds_toArray, List.set_cons_zero, List.set_cons_succ]
              refine wpAnyH_take (i := 6) (oi := { dst := some 18, op := Op.move (Operand.tmp 17), type := 4, pos := "dest.go:95", after := #[{ on := 5, ground := Ground.data }, { on := 3, ground := Ground.chain }, { on := 3, ground := Ground.guard }], guard := some (3, false) }) (v := ?_) rfl (by kernel_rfl) (by kernel_rfl) (by kernel_rfl) (fun _ _ _ h => h) (Or.inl ⟨by rfl, ?_⟩) (by assumption) ?_
              rotate_left
              · intro w' hSw; obtain ⟨⟨d0, d1, d2, d3⟩, e0, e1, e2, e3⟩ := hSw; go_simp; try with_reducible rfl
              simp only [Act.put, List.setIfInBounds_toArray, List.set_cons_zero, List.set_cons_succ]
              refine wpAnyH_take (i := 7) (oi := { dst := some 19, op := Op.move (Operand.tmp 0), type := 25, pos := "dest.go:95", after := #[{ on := 6, ground := Ground.guard }], guard := some (6, true) }) (v := ?_) rfl (by kernel_rfl) (by kernel_rfl) (by kernel_rfl) (fun _ _ _ h => h) (Or.inl ⟨by rfl, ?_⟩) (by assumption) ?_
              rotate_left
              · intro w' hSw; obtain ⟨⟨d0, d1, d2, d3⟩, e0, e1, e2, e3⟩ := hSw; go_simp; try with_reducible rfl
              simp only [Act.put, List.setIfInBounds_toArray, List.set_cons_zero, List.set_cons_succ]
              refine wpAnyH_take (i := 8) (oi := { dst := some 20, op := Op.move (Operand.tmp 3), type := 3, pos := "dest.go:95", after := #[{ on := 6, ground := Ground.guard }], guard := some (6, true) }) (v := ?_) rfl (by kernel_rfl) (by kernel_rfl) (by kernel_rfl) (fun _ _ _ h => h) (Or.inl ⟨by rfl, ?_⟩) (by assumption) ?_
              rotate_left
              · intro w' hSw; obtain ⟨⟨d0, d1, d2, d3⟩, e0, e1, e2, e3⟩ := hSw; go_simp; try with_reducible rfl
              simp only [Act.put, List.setIfInBounds_toArray, List.set_cons_zero, List.set_cons_succ]
              refine wpAnyH_take (i := 9) (oi := { dst := some 21, op := Op.binOp BinOp.sub 3 (Operand.tmp 20) (Operand.const (Value.int IntKind.i64 1)) 3, type := 3, pos := "dest.go:95", after := #[{ on := 8, ground := Ground.data }, { on := 6, ground := Ground.guard }], guard := some (6, true) }) (v := ?_) rfl (by kernel_rfl) (by kernel_rfl) (by kernel_rfl) (fun _ _ _ h => h) (Or.inl ⟨by rfl, ?_⟩) (by assumption) ?_
              rotate_left
              · intro w' hSw; obtain ⟨⟨d0, d1, d2, d3⟩, e0, e1, e2, e3⟩ := hSw; go_simp; try with_reducible rfl
              simp only [Act.put, List.setIfInBounds_toArray, List.set_cons_zero, List.set_cons_succ]
              refine wpAnyH_take (i := 10) (oi := { dst := some 22, op := Op.indexAddr 25 (Operand.tmp 19) (Operand.tmp 21), type := 0, pos := "dest.go:95", after := #[{ on := 7, ground := Ground.data }, { on := 9, ground := Ground.data }, { on := 6, ground := Ground.guard }], guard := some (6, true) }) (v := ?_) rfl (by kernel_rfl) (by kernel_rfl) (by kernel_rfl) (fun _ _ _ h => h) (Or.inl ⟨by rfl, ?_⟩) (by assumption) ?_
              rotate_left
              · intro w' hSw; obtain ⟨⟨d0, d1, d2, d3⟩, e0, e1, e2, e3⟩ := hSw; go_simp; try with_reducible rfl
              simp only [Act.put, List.setIfInBounds_toArray, List.set_cons_zero, List.set_cons_succ]
              refine wpAnyH_take (i := 11) (oi := { dst := some 23, op := Op.load 73 (Operand.tmp 22), type := 73, pos := "dest.go:95", after := #[{ on := 10, ground := Ground.data }, { on := 6, ground := Ground.guard }], guard := some (6, true) }) (v := ?_) rfl (by kernel_rfl) (by kernel_rfl) (by kernel_rfl) (fun _ _ _ h => h) (Or.inl ⟨by rfl, ?_⟩) (by assumption) ?_
              rotate_left
              · intro w' hSw; obtain ⟨⟨d0, d1, d2, d3⟩, e0, e1, e2, e3⟩ := hSw; go_simp; try with_reducible rfl
              simp only [Act.put, List.setIfInBounds_toArray, List.set_cons_zero, List.set_cons_succ]
              refine wpAnyH_take (i := 12) (oi := { dst := some 24, op := Op.load 73 (Operand.tmp 4), type := 73, pos := "dest.go:95", after := #[{ on := 6, ground := Ground.guard }], guard := some (6, true) }) (v := ?_) rfl (by kernel_rfl) (by kernel_rfl) (by kernel_rfl) (fun _ _ _ h => h) (Or.inl ⟨by rfl, ?_⟩) (by assumption) ?_
              rotate_left
              · intro w' hSw; obtain ⟨⟨d0, d1, d2, d3⟩, e0, e1, e2, e3⟩ := hSw; go_simp; try with_reducible rfl
              simp only [Act.put, List.setIfInBounds_toArray, List.set_cons_zero, List.set_cons_succ]
              refine wpAnyH_ready (rs := [13]) (by kernel_rfl) (by simp) (AllReadyH.cons rfl (fun K hK => ?_) AllReadyH.nil)
              go_simp
              go_wp2_with ((go_at_call 108; (with_reducible refine (K2.out _).mono ?_); rintro e x2 ⟨rfl, y9⟩))
              have z2 := z1.trans (y9.mono z1.size)
              refine hK.out _ _ (HH.out _ z2) (fun hS13 => ?_)
              clear hK K
              try dsimp only at hS13
              refine wpAnyH_take (i := 14) (oi := { dst := some 26, op := Op.unOp UnOp.not 4 (Operand.tmp 25), type := 4, pos := "dest.go:95", after := #[{ on := 13, ground := Ground.data }, { on := 6, ground := Ground.guard }], guard := some (6, true) }) (v := ?_) rfl (by kernel_rfl) (by kernel_rfl) (by kernel_rfl) (fun _ _ _ h => h) (Or.inl ⟨by rfl, ?_⟩) (by assumption) ?_
              rotate_left
              · intro w' hSw; obtain ⟨⟨d0, d1, d2, d3⟩, e0, e1, e2, e3⟩ := hSw; go_simp; try with_reducible rfl
              simp only [Act.put, List.setIfInBounds_toArray, List.set_cons_zero, List.set_cons_succ]
              refine wpAnyH_take (i := 15) (oi := { dst := some 27, op := Op.move (Operand.tmp 26), type := 4, pos := "dest.go:95", after := #[{ on := 14, ground := Ground.data }, { on := 13, ground := Ground.chain }, { on := 6, ground := Ground.guard }], guard := some (6, true) }) (v := ?_) rfl (by kernel_rfl) (by kernel_rfl) (by kernel_rfl) (fun _ _ _ h => h) (Or.inl ⟨by rfl, ?_⟩) (by assumption) ?_
              rotate_left
              · intro w' hSw; obtain ⟨⟨d0, d1, d2, d3⟩, e0, e1, e2, e3⟩ := hSw; go_simp; try with_reducible rfl
              simp only [Act.put, List.setIfInBounds_toArray, List.set_cons_zero, List.set_cons_succ]
              refine wpAnyH_take (i := 16) (oi := { dst := some 28, op := Op.move (Operand.tmp 0), type := 25, pos := "dest.go:95", after := #[{ on := 15, ground := Ground.guard }], guard := some (15, false) }) (v := ?_) rfl (by kernel_rfl) (by kernel_rfl) (by kernel_rfl) (fun _ _ _ h => h) (Or.inl ⟨by rfl, ?_⟩) (by assumption) ?_
              rotate_left
              · intro w' hSw; obtain ⟨⟨d0, d1, d2, d3⟩, e0, e1, e2, e3⟩ := hSw; go_simp; try with_reducible rfl
              simp only [Act.put, List.setIfInBounds_toArray, List.set_cons_zero, List.set_cons_succ]
              refine wpAnyH_take (i := 17) (oi := { dst := some 29, op := Op.move (Operand.tmp 3), type := 3, pos := "dest.go:95", after := #[{ on := 15, ground := Ground.guard }], guard := some (15, false) }) (v := ?_) rfl (by kernel_rfl) (by kernel_rfl) (by kernel_rfl) (fun _ _ _ h => h) (Or.inl ⟨by rfl, ?_⟩) (by assumption) ?_
              rotate_left
              · intro w' hSw; obtain ⟨⟨d0, d1, d2, d3⟩, e0, e1, e2, e3⟩ := hSw; go_simp; try with_reducible rfl
              simp only [Act.put, List.setIfInBounds_toArray, List.set_cons_zero, List.set_cons_succ]
              refine wpAnyH_take (i := 18) (oi := { dst := some 30, op := Op.binOp BinOp.sub 3 (Operand.tmp 29) (Operand.const (Value.int IntKind.i64 1)) 3, type := 3, pos := "dest.go:95", after := #[{ on := 17, ground := Ground.data }, { on := 15, ground := Ground.guard }], guard := some (15, false) }) (v := ?_) rfl (by kernel_rfl) (by kernel_rfl) (by kernel_rfl) (fun _ _ _ h => h) (Or.inl ⟨by rfl, ?_⟩) (by assumption) ?_
              rotate_left
              · intro w' hSw; obtain ⟨⟨d0, d1, d2, d3⟩, e0, e1, e2, e3⟩ := hSw; go_simp; try with_reducible rfl
              simp only [Act.put, List.setIfInBounds_toArray, List.set_cons_zero, List.set_cons_succ]
              refine wpAnyH_take (i := 19) (oi := { dst := some 31, op := Op.indexAddr 25 (Operand.tmp 28) (Operand.tmp 30), type := 0, pos := "dest.go:95", after := #[{ on := 16, ground := Ground.data }, { on := 18, ground := Ground.data }, { on := 15, ground := Ground.guard }], guard := some (15, false) }) (v := ?_) rfl (by kernel_rfl) (by kernel_rfl) (by kernel_rfl) (fun _ _ _ h => h) (Or.inl ⟨by rfl, ?_⟩) (by assumption) ?_
              rotate_left
              · intro w' hSw; obtain ⟨⟨d0, d1, d2, d3⟩, e0, e1, e2, e3⟩ := hSw; go_simp; try with_reducible rfl
              simp only [Act.put, List.setIfInBounds_toArray, List.set_cons_zero, List.set_cons_succ]
              refine wpAnyH_take (i := 20) (oi := { dst := some 32, op := Op.load 73 (Operand.tmp 31), type := 73, pos := "dest.go:95", after := #[{ on := 19, ground := Ground.data }, { on := 15, ground := Ground.guard }], guard := some (15, false) }) (v := ?_) rfl (by kernel_rfl) (by kernel_rfl) (by kernel_rfl) (fun _ _ _ h => h) (Or.inl ⟨by rfl, ?_⟩) (by assumption) ?_
              rotate_left
              · intro w' hSw; obtain ⟨⟨d0, d1, d2, d3⟩, e0, e1, e2, e3⟩ := hSw; go_simp; try with_reducible rfl
              simp only [Act.put, List.setIfInBounds_toArray, List.set_cons_zero, List.set_cons_succ]
              refine wpAnyH_take (i := 21) (oi := { dst := some 33, op := Op.load 73 (Operand.tmp 4), type := 73, pos := "dest.go:95", after := #[{ on := 15, ground := Ground.guard }], guard := some (15, false) }) (v := ?_) rfl (by kernel_rfl) (by kernel_rfl) (by kernel_rfl) (fun _ _ _ h => h) (Or.inl ⟨by rfl, ?_⟩) (by assumption) ?_
              rotate_left
              · intro w' hSw; obtain ⟨⟨d0, d1, d2, d3⟩, e0, e1, e2, e3⟩ := hSw; go_simp; try with_reducible rfl
              simp only [Act.put, List.setIfInBounds_toArray, List.set_cons_zero, List.set_cons_succ]
              refine wpAnyH_ready (rs := [22]) (by kernel_rfl) (by simp) (AllReadyH.cons rfl (fun K hK => ?_) AllReadyH.nil)
              go_simp
              go_wp2_with ((go_at_call 128; (with_reducible refine (K3.out _ (Z2.out _ z2).2).mono ?_); rintro e x3 ⟨rfl, y10⟩))
              have z3 := z2.trans (y10.mono z2.size)
              refine hK.out _ _ (HH.out _ z3) (fun hS22 => ?_)
              clear hK K
              try dsimp only at hS22
              refine wpAnyH_take (i := 23) (oi := { dst := some 35, op := Op.pick (Operand.tmp 27) (Operand.const (Value.bool true)) (Operand.tmp 34), type := 4, pos := "dest.go:95", after := #[{ on := 15, ground := Ground.data }, { on := 22, ground := Ground.data }, { on := 6, ground := Ground.guard }], guard := some (6, true) }) (v := ?_) rfl (by kernel_rfl) (by kernel_rfl) (by kernel_rfl) (fun _ _ _ h => h) (Or.inl ⟨by rfl, ?_⟩) (by assumption) ?_
              rotate_left
              · intro w' hSw; obtain ⟨⟨d0, d1, d2, d3⟩, e0, e1, e2, e3⟩ := hSw; go_simp; try with_reducible rfl
              simp only [Act.put, List.setIfInBounds_toArray, List.set_cons_zero, List.set_cons_succ]
              refine wpAnyH_take (i := 24) (oi := { dst := some 36, op := Op.pick (Operand.tmp 18) (Operand.tmp 35) (Operand.const (Value.bool false)), type := 4, pos := "dest.go:95", after := #[{ on := 6, ground := Ground.data }, { on := 23, ground := Ground.data }, { on := 3, ground := Ground.guard }], guard := some (3, false) }) (v := ?_) rfl (by kernel_rfl) (by kernel_rfl) (by kernel_rfl) (fun _ _ _ h => h) (Or.inl ⟨by rfl, ?_⟩) (by assumption) ?_
              rotate_left
              · intro w' hSw; obtain ⟨⟨d0, d1, d2, d3⟩, e0, e1, e2, e3⟩ := hSw; go_simp; try with_reducible rfl
              simp only [Act.put, List.setIfInBounds_toArray, List.set_cons_zero, List.set_cons_succ]
              refine wpAnyH_take (i := 25) (oi := { dst := some 37, op := Op.pick (Operand.tmp 15) (Operand.const (Value.bool true)) (Operand.tmp 36), type := 4, pos := "dest.go:95", after := #[{ on := 3, ground := Ground.data }, { on := 24, ground := Ground.data }], guard := none }) (v := ?_) rfl (by kernel_rfl) (by kernel_rfl) (by kernel_rfl) (fun _ _ _ h => h) (Or.inl ⟨by rfl, ?_⟩) (by assumption) ?_
              rotate_left
              · intro w' hSw; obtain ⟨⟨d0, d1, d2, d3⟩, e0, e1, e2, e3⟩ := hSw; go_simp; try with_reducible rfl
              simp only [Act.put, List.setIfInBounds_toArray, List.set_cons_zero, List.set_cons_succ]
              refine wpAnyH_done (by kernel_rfl) ?_ _
              go_wp2
              refine ⟨⟨j + 1 + 1, by omega, by go_num, Lib.hid (HO.out.more fun s hs => ?_), (Z2.out _ z3).2⟩, by simp [intOf]; omega⟩
              rw [pl_get HX.out] at hs
              cases hs
              refine ⟨HS.out, fun i c e hc => ?_⟩
              obtain rfl : j = i := by omega
              rw [pl_get HAJ.out] at hc
              cases hc
              exact ⟨H1.out, of_decide_eq_false H2.out⟩
          · rw [decide_eq_false h1] at K2
            have H1 := Lib.hid h1
            clear h1
            go_wp2_with fail
            clear y0 y1 y2 y3
            refine wp_region_held_drew (S := fun w' => (w'.cell? ⟨wr.heap.size, 0, none⟩ = some (.int .i64 x.b.n) ∧ w'.cell? ⟨wr.heap.size, 1, none⟩ = some (.int .i64 x.b.lo) ∧ w'.cell? ⟨wr.heap.size, 2, none⟩ = some (.int .i64 x.b.hi) ∧ w'.cell? ⟨wr.heap.size, 3, none⟩ = some (.slice x.a x.b.u.length x.c)) ∧ (w'.cell? ⟨b, o + j * 4, none⟩ = some (.int .i64 a.b.n) ∧ w'.cell? ⟨b, o + j * 4 + 1, none⟩ = some (.int .i64 a.b.lo) ∧ w'.cell? ⟨b, o + j * 4 + 2, none⟩ = some (.int .i64 a.b.hi) ∧ w'.cell? ⟨b, o + j * 4 + 3, none⟩ = some (.slice a.a a.b.u.length a.c))) (by kernel_rfl) (HH.out _ z0) (fun hS0 => ?_)
            try dsimp only at hS0
            refine wpAnyH_take (i := 0) (oi := { dst := some 12, op := Op.load 73 (Operand.tmp 4), type := 73, pos := "dest.go:95", after := #[], guard := none }) (v := ?_) rfl (by kernel_rfl) (by kernel_rfl) (by kernel_rfl) (fun _ _ _ h => h) (Or.inl ⟨by rfl, ?_⟩) (by assumption) ?_
            rotate_left
            · intro w' hSw; obtain ⟨⟨d0, d1, d2, d3⟩, e0, e1, e2, e3⟩ := hSw; go_simp; try with_reducible rfl
            simp only [Act.put, List.setIfInBounds_toArray, List.set_cons_zero, List.set_cons_succ]
            refine wpAnyH_ready (rs := [1]) (by kernel_rfl) (by simp) (AllReadyH.cons rfl (fun K hK => ?_) AllReadyH.nil)
            go_simp
            go_wp2_with ((go_at_call 109; (with_reducible refine (K1.out _ (Z2.out _ z0).2).mono ?_); rintro e x1 ⟨rfl, y8⟩))
            have z1 := z0.trans (y8.mono z0.size)
            refine hK.out _ _ (HH.out _ z1) (fun hS1 => ?_)
            clear hK K
            try dsimp only at hS1
            refine wpAnyH_take (i := 2) (oi := { dst := some 14, op := Op.unOp UnOp.not 4 (Operand.tmp 13), type := 4, pos := "dest.go:95", after := #[{ on := 1, ground := Ground.data }], guard := none }) (v := ?_) rfl (by kernel_rfl) (by kernel_rfl) (by kernel_rfl) (fun _ _ _ h => h) (Or.inl ⟨by rfl, ?_⟩) (by assumption) ?_
            rotate_left
            · intro w' hSw; obtain ⟨⟨d0, d1, d2, d3⟩, e0, e1, e2, e3⟩ := hSw; go_simp; try with_reducible rfl
            simp only [Act.put, List.setIfInBounds_toArray, List.set_cons_zero, List.set_cons_succ]
            refine wpAnyH_take (i := 3) (oi := { dst := some 15, op := Op.move (Operand.tmp 14), type := 4, pos := "dest.go:95", after := #[{ on := 2, ground := Ground.data }, { on := 1, ground := Ground.chain }], guard := none }) (v := ?_) rfl (by kernel_rfl) (by kernel_rfl) (by kernel_rfl) (fun _ _ _ h => h) (Or.inl ⟨by rfl, ?_⟩) (by assumption) ?_
            rotate_left
            · intro w' hSw; obtain ⟨⟨d0, d1, d2, d3⟩, e0, e1, e2, e3⟩ := hSw; go_simp; try with_reducible rfl
            simp only [Act.put, List.setIfInBounds_toArray, List.set_cons_zero, List.set_cons_succ]
            refine wpAnyH_take (i := 4) (oi := { dst := some 16, op := Op.move (Operand.tmp 3), type := 3, pos := "dest.go:95", after := #[{ on := 3, ground := Ground.guard }], guard := some (3, false) }) (v := ?_) rfl (by kernel_rfl) (by kernel_rfl) (by kernel_rfl) (fun _ _ _ h => h) (Or.inl ⟨by rfl, ?_⟩) (by assumption) ?_
            rotate_left
            · intro w' hSw; obtain ⟨⟨d0, d1, d2, d3⟩, e0, e1, e2, e3⟩ := hSw; go_simp; try with_reducible rfl
            simp only [Act.put, List.setIfInBounds_toArray, List.set_cons_zero, List.set_cons_succ]
            refine wpAnyH_take (i := 5) (oi := { dst := some 17, op := Op.binOp BinOp.gtr 3 (Operand.tmp 16) (Operand.const (Value.int IntKind.i64 0)) 3, type := 4, pos := "dest.go:95", after := #[{ on := 4, ground := Ground.data }, { on := 3, ground := Ground.guard }], guard := some (3, false) }) (v := ?_) rfl (by kernel_rfl) (by kernel_rfl) (by kernel_rfl) (fun _ _ _ h => h) (Or.inl ⟨by rfl, ?_⟩) (by assumption) ?_
            rotate_left
            · intro w' hSw; obtain ⟨⟨d0, d1, d2, d3⟩, e0, e1, e2, e3⟩ := hSw; go_simp; try with_reducible rfl
            simp only [Act.put, List.setIfInBounds_toArray, List.set_cons_zero, List.set_cons_succ]
            refine wpAnyH_take (i := 6) (oi := { dst := some 18, op := Op.move (Operand.tmp 17), type := 4, pos := "dest.go:95", after := #[{ on := 5, ground := Ground.data }, { on := 3, ground := Ground.chain }, { on := 3, ground := Ground.guard }], guard := some (3, false) }) (v := ?_) rfl (by kernel_rfl) (by kernel_rfl) (by kernel_rfl) (fun _ _ _ h => h) (Or.inl ⟨by rfl, ?_⟩) (by assumption) ?_
            rotate_left
            · intro w' hSw; obtain ⟨⟨d0, d1, d2, d3⟩, e0, e1, e2, e3⟩ := hSw; go_simp; try with_reducible rfl
            simp only [Act.put, List.setIfInBounds_toArray, List.set_cons_zero, List.set_cons_succ]
            refine wpAnyH_take (i := 7) (oi := { dst := some 19, op := Op.move (Operand.tmp 0), type := 25, pos := "dest.go:95", after := #[{ on := 6, ground := Ground.guard }], guard := some (6, true) }) (v := ?_) rfl (by kernel_rfl) (by kernel_rfl) (by kernel_rfl) (fun _ _ _ h => h) (Or.inl ⟨by rfl, ?_⟩) (by assumption) ?_
            rotate_left
            · intro w' hSw; obtain ⟨⟨d0, d1, d2, d3⟩, e0, e1, e2, e3⟩ := hSw; go_simp; try with_reducible rfl
            simp only [Act.put, List.setIfInBounds_toArray, List.set_cons_zero, List.set_cons_succ]
            refine wpAnyH_take (i := 8) (oi := { dst := some 20, op := Op.move (Operand.tmp 3), type := 3, pos := "dest.go:95", after := #[{ on := 6, ground := Ground.guard }], guard := some (6, true) }) (v := ?_) rfl (by kernel_rfl) (by kernel_rfl) (by kernel_rfl) (fun _ _ _ h => h) (Or.inl ⟨by rfl, ?_⟩) (by assumption) ?_
            rotate_left
            · intro w' hSw; obtain ⟨⟨d0, d1, d2, d3⟩, e0, e1, e2, e3⟩ := hSw; go_simp; try with_reducible rfl
            simp only [Act.put, List.setIfInBounds_toArray, List.set_cons_zero, List.set_cons_succ]
            refine wpAnyH_take (i := 9) (oi := { dst := some 21, op := Op.binOp BinOp.sub 3 (Operand.tmp 20) (Operand.const (Value.int IntKind.i64 1)) 3, type := 3, pos := "dest.go:95", after := #[{ on := 8, ground := Ground.data }, { on := 6, ground := Ground.guard }], guard := some (6, true) }) (v := ?_) rfl (by kernel_rfl) (by kernel_rfl) (by kernel_rfl) (fun _ _ _ h => h) (Or.inl ⟨by rfl, ?_⟩) (by assumption) ?_
            rotate_left
            · intro w' hSw; obtain ⟨⟨d0, d1, d2, d3⟩, e0, e1, e2, e3⟩ := hSw; go_simp; try with_reducible rfl
            simp only [Act.put, List.setIfInBounds_toArray, List.set_cons_zero, List.set_cons_succ]
            refine wpAnyH_take (i := 10) (oi := { dst := some 22, op := Op.indexAddr 25 (Operand.tmp 19) (Operand.tmp 21), type := 0, pos := "dest.go:95", after := #[{ on := 7, ground := Ground.data }, { on := 9, ground := Ground.data }, { on := 6, ground := Ground.guard }], guard := some (6, true) }) (v := ?_) rfl (by kernel_rfl) (by kernel_rfl) (by kernel_rfl) (fun _ _ _ h => h) (Or.inl ⟨by rfl, ?_⟩) (by assumption) ?_
            rotate_left
            · intro w' hSw; obtain ⟨⟨d0, d1, d2, d3⟩, e0, e1, e2, e3⟩ := hSw; go_simp; try with_reducible rfl
            simp only [Act.put, List.setIfInBounds_toArray, List.set_cons_zero, List.set_cons_succ]
            refine wpAnyH_take (i := 11) (oi := { dst := some 23, op := Op.load 73 (Operand.tmp 22), type := 73, pos := "dest.go:95", after := #[{ on := 10, ground := Ground.data }, { on := 6, ground := Ground.guard }], guard := some (6, true) }) (v := ?_) rfl (by kernel_rfl) (by kernel_rfl) (by kernel_rfl) (fun _ _ _ h => h) (Or.inl ⟨by rfl, ?_⟩) (by assumption) ?_
            rotate_left
            · intro w' hSw; obtain ⟨⟨d0, d1, d2, d3⟩, e0, e1, e2, e3⟩ := hSw; go_simp; try with_reducible rfl
            simp only [Act.put, List.setIfInBounds_toArray, List.set_cons_zero, List.set_cons_succ]
            refine wpAnyH_take (i := 12) (oi := { dst := some 24, op := Op.load 73 (Operand.tmp 4), type := 73, pos := "dest.go:95", after := #[{ on := 6, ground := Ground.guard }], guard := some (6, true) }) (v := ?_) rfl (by kernel_rfl) (by kernel_rfl) (by kernel_rfl) (fun _ _ _ h => h) (Or.inl ⟨by rfl, ?_⟩) (by assumption) ?_
            rotate_left
            · intro w' hSw; obtain ⟨⟨d0, d1, d2, d3⟩, e0, e1, e2, e3⟩ := hSw; go_simp; try with_reducible rfl
            simp only [Act.put, List.setIfInBounds_toArray, List.set_cons_zero, List.set_cons_succ]
            refine wpAnyH_ready (rs := [13]) (by kernel_rfl) (by simp) (AllReadyH.cons rfl (fun K hK => ?_) AllReadyH.nil)
            go_simp
            go_wp2_with ((go_at_call 108; (with_reducible refine (K2.out _).mono ?_); rintro e x2 ⟨rfl, y9⟩))
            have z2 := z1.trans (y9.mono z1.size)
            refine hK.out _ _ (HH.out _ z2) (fun hS13 => ?_)
            clear hK K
            try dsimp only at hS13
            refine wpAnyH_take (i := 14) (oi := { dst := some 26, op := Op.unOp UnOp.not 4 (Operand.tmp 25), type := 4, pos := "dest.go:95", after := #[{ on := 13, ground := Ground.data }, { on := 6, ground := Ground.guard }], guard := some (6, true) }) (v := ?_) rfl (by kernel_rfl) (by kernel_rfl) (by kernel_rfl) (fun _ _ _ h => h) (Or.inl ⟨by rfl, ?_⟩) (by assumption) ?_
            rotate_left
            · intro w' hSw; obtain ⟨⟨d0, d1, d2, d3⟩, e0, e1, e2, e3⟩ := hSw; go_simp; try with_reducible rfl
            simp only [Act.put, List.setIfInBounds_toArray, List.set_cons_zero, List.set_cons_succ]
            refine wpAnyH_take (i := 15) (oi := { dst := some 27, op := Op.move (Operand.tmp 26), type := 4, pos := "dest.go:95", after := #[{ on := 14, ground := Ground.data }, { on := 13, ground := Ground.chain }, { on := 6, ground := Ground.guard }], guard := some (6, true) }) (v := ?_) rfl (by kernel_rfl) (by kernel_rfl) (by kernel_rfl) (fun _ _ _ h => h) (Or.inl ⟨by rfl, ?_⟩) (by assumption) ?_
            rotate_left
            · intro w' hSw; obtain ⟨⟨d0, d1, d2, d3⟩, e0, e1, e2, e3⟩ := hSw; go_simp; try with_reducible rfl
            simp only [Act.put, List.setIfInBounds_toArray, List.set_cons_zero, List.set_cons_succ]
            refine wpAnyH_take (i := 16) (oi := { dst := some 28, op := Op.move (Operand.tmp 0), type := 25, pos := "dest.go:95", after := #[{ on := 15, ground := Ground.guard }], guard := some (15, false) }) (v := undef) rfl (by kernel_rfl) (by kernel_rfl) (by kernel_rfl) (fun _ _ _ h => h) (Or.inr ⟨by rfl, rfl⟩) (by assumption) ?_
            simp only [Act.put, List.setIfInBounds_toArray, List.set_cons_zero, List.set_cons_succ]
            refine wpAnyH_take (i := 17) (oi := { dst := some 29, op := Op.move (Operand.tmp 3), type := 3, pos := "dest.go:95", after := #[{ on := 15, ground := Ground.guard }], guard := some (15, false) }) (v := undef) rfl (by kernel_rfl) (by kernel_rfl) (by kernel_rfl) (fun _ _ _ h => h) (Or.inr ⟨by rfl, rfl⟩) (by assumption) ?_
            simp only [Act.put, List.setIfInBounds_toArray, List.set_cons_zero, List.set_cons_succ]
            refine wpAnyH_take (i := 18) (oi := { dst := some 30, op := Op.binOp BinOp.sub 3 (Operand.tmp 29) (Operand.const (Value.int IntKind.i64 1)) 3, type := 3, pos := "dest.go:95", after := #[{ on := 17, ground := Ground.data }, { on := 15, ground := Ground.guard }], guard := some (15, false) }) (v := undef) rfl (by kernel_rfl) (by kernel_rfl) (by kernel_rfl) (fun _ _ _ h => h) (Or.inr ⟨by rfl, rfl⟩) (by assumption) ?_
            simp only [Act.put, List.setIfInBounds_toArray, List.set_cons_zero, List.set_cons_succ]
            refine wpAnyH_take (i := 19) (oi := { dst := some 31, op := Op.indexAddr 25 (Operand.tmp 28) (Operand.tmp 30), type := 0, pos := "dest.go:95", after := #[{ on := 16, ground := Ground.data }, { on := 18, ground := Ground.data }, { on := 15, ground := Ground.guard }], guard := some (15, false) }) (v := undef) rfl (by kernel_rfl) (by kernel_rfl) (by kernel_rfl) (fun _ _ _ h => h) (Or.inr ⟨by rfl, rfl⟩) (by assumption) ?_
            simp only [Act.put, List.setIfInBounds_toArray, List.set_cons_zero, List.set_cons_succ]
            refine wpAnyH_take (i := 20) (oi := { dst := some 32, op := Op.load 73 (Operand.tmp 31), type := 73, pos := "dest.go:95", after := #[{ on := 19, ground := Ground.data }, { on := 15, ground := Ground.guard }], guard := some (15, false) }) (v := undef) rfl (by kernel_rfl) (by kernel_rfl) (by kernel_rfl) (fun _ _ _ h => h) (Or.inr ⟨by rfl, rfl⟩) (by assumption) ?_
            simp only [Act.put, List.setIfInBounds_toArray, List.set_cons_zero, List.set_cons_succ]
            refine wpAnyH_take (i := 21) (oi := { dst := some 33, op := Op.load 73 (Operand.tmp 4), type := 73, pos := "dest.go:95", after := #[{ on := 15, ground := Ground.guard }], guard := some (15, false) }) (v := undef) rfl (by kernel_rfl) (by kernel_rfl) (by kernel_rfl) (fun _ _ _ h => h) (Or.inr ⟨by rfl, rfl⟩) (by assumption) ?_
            simp only [Act.put, List.setIfInBounds_toArray, List.set_cons_zero, List.set_cons_succ]
            refine wpAnyH_take (i := 22) (oi := { dst := some 34, op := Op.call { callee := Callee.value (Operand.func 128), args := #[Operand.tmp 32, Operand.tmp 33], argTypes := #[73, 73] }, type := 4, pos := "dest.go:95", after := #[{ on := 20, ground := Ground.data }, { on := 21, ground := Ground.data }, { on := 15, ground := Ground.chain }, { on := 15, ground := Ground.guard }], guard := some (15, false) }) (v := undef) rfl (by kernel_rfl) (by kernel_rfl) (by kernel_rfl) (fun _ _ _ h => h) (Or.inr ⟨by rfl, rfl⟩) (by assumption) ?_
            simp only [Act.put, List.setIfInBounds_toArray, List.set_cons_zero, List.set_cons_succ]
            refine wpAnyH_take (i := 23) (oi := { dst := some 35, op := Op.pick (Operand.tmp 27) (Operand.const (Value.bool true)) (Operand.tmp 34), type := 4, pos := "dest.go:95", after := #[{ on := 15, ground := Ground.data }, { on := 22, ground := Ground.data }, { on := 6, ground := Ground.guard }], guard := some (6, true) }) (v := ?_) rfl (by kernel_rfl) (by kernel_rfl) (by kernel_rfl) (fun _ _ _ h => h) (Or.inl ⟨by rfl, ?_⟩) (by assumption) ?_
            rotate_left
            · intro w' hSw; obtain ⟨⟨d0, d1, d2, d3⟩, e0, e1, e2, e3⟩ := hSw; go_simp; try with_reducible rfl
            simp only [Act.put, List.setIfInBounds_toArray, List.set_cons_zero, List.set_cons_succ]
            refine wpAnyH_take (i := 24) (oi := { dst := some 36, op := Op.pick (Operand.tmp 18) (Operand.tmp 35) (Operand.const (Value.bool false)), type := 4, pos := "dest.go:95", after := #[{ on := 6, ground := Ground.data }, { on := 23, ground := Ground.data }, { on := 3, ground := Ground.guard }], guard := some (3, false) }) (v := ?_) rfl (by kernel_rfl) (by kernel_rfl) (by kernel_rfl) (fun _ _ _ h => h) (Or.inl ⟨by rfl, ?_⟩) (by assumption) ?_
            rotate_left
            · intro w' hSw; obtain ⟨⟨d0, d1, d2, d3⟩, e0, e1, e2, e3⟩ := hSw; go_simp; try with_reducible rfl
            simp only [Act.put, List.setIfInBounds_toArray, List.set_cons_zero, List.set_cons_succ]
            refine wpAnyH_take (i := 25) (oi := { dst := some 37, op := Op.pick (Operand.tmp 15) (Operand.const (Value.bool true)) (Operand.tmp 36), type := 4, pos := "dest.go:95", after := #[{ on := 3, ground := Ground.data }, { on := 24, ground := Ground.data }], guard := none }) (v := ?_) rfl (by kernel_rfl) (by kernel_rfl) (by kernel_rfl) (fun _ _ _ h => h) (Or.inl ⟨by rfl, ?_⟩) (by assumption) ?_
            rotate_left
            · intro w' hSw; obtain ⟨⟨d0, d1, d2, d3⟩, e0, e1, e2, e3⟩ := hSw; go_simp; try with_reducible rfl
            simp only [Act.put, List.setIfInBounds_toArray, List.set_cons_zero, List.set_cons_succ]
            refine wpAnyH_done (by kernel_rfl) ?_ _
            go_wp2
            go_ret
            exact ⟨⟨j + 1, ⟨by rw [pl_length, ← HN.out]; omega, HO.out, fun _ h => H1.out ((h x.b (pl_get HX.out)).2 j a.b rfl (pl_get HAJ.out)).1⟩, by first | rfl | go_num⟩, (Z2.out _ z2).2⟩
      · rw [decide_eq_false hs] at K1
        have HS := Lib.hid hs
        clear hs
        have HH : Hid (∀ w', Below (wr.alloc (.cells #[.int .i64 x.b.n, .int .i64 x.b.lo, .int .i64 x.b.hi, .slice x.a x.b.u.length x.c] 73)).heap.size (wr.alloc (.cells #[.int .i64 x.b.n, .int .i64 x.b.lo, .int .i64 x.b.hi, .slice x.a x.b.u.length x.c] 73)) w' → (fun w' => w'.cell? ⟨wr.heap.size, 0, none⟩ = some (.int .i64 x.b.n) ∧ w'.cell? ⟨wr.heap.size, 1, none⟩ = some (.int .i64 x.b.lo) ∧ w'.cell? ⟨wr.heap.size, 2, none⟩ = some (.int .i64 x.b.hi) ∧ w'.cell? ⟨wr.heap.size, 3, none⟩ = some (.slice x.a x.b.u.length x.c)) w') := Lib.hid fun w' hb => by
          have p := (Z2.out w' hb).1
          exact ⟨p.c0, p.c1, p.c2, p.c3⟩
        go_wp2_with fail
        clear y0 y1 y2 y3
        refine wp_region_held_drew (S := fun w' => w'.cell? ⟨wr.heap.size, 0, none⟩ = some (.int .i64 x.b.n) ∧ w'.cell? ⟨wr.heap.size, 1, none⟩ = some (.int .i64 x.b.lo) ∧ w'.cell? ⟨wr.heap.size, 2, none⟩ = some (.int .i64 x.b.hi) ∧ w'.cell? ⟨wr.heap.size, 3, none⟩ = some (.slice x.a x.b.u.length x.c)) (by kernel_rfl) (HH.out _ z0) (fun hS0 => ?_)
        try dsimp only at hS0
        refine wpAnyH_take (i := 0) (oi := { dst := some 12, op := Op.load 73 (Operand.tmp 4), type := 73, pos := "dest.go:95", after := #[], guard := none }) (v := ?_) rfl (by kernel_rfl) (by kernel_rfl) (by kernel_rfl) (fun _ _ _ h => h) (Or.inl ⟨by rfl, ?_⟩) (by assumption) ?_
        rotate_left
        · intro w' hSw; obtain ⟨d0, d1, d2, d3⟩ := hSw; go_simp; try with_reducible rfl
        simp only [Act.put, List.setIfInBounds_toArray, List.set_cons_zero, List.set_cons_succ]
        refine wpAnyH_ready (rs := [1]) (by kernel_rfl) (by simp) (AllReadyH.cons rfl (fun K hK => ?_) AllReadyH.nil)
        go_simp
        go_wp2_with ((go_at_call 109; (with_reducible refine (K1.out _ (Z2.out _ z0).2).mono ?_); rintro e x1 ⟨rfl, y8⟩))
        have z1 := z0.trans (y8.mono z0.size)
        refine hK.out _ _ (HH.out _ z1) (fun hS1 => ?_)
        clear hK K
        try dsimp only at hS1
        refine wpAnyH_take (i := 2) (oi := { dst := some 14, op := Op.unOp UnOp.not 4 (Operand.tmp 13), type := 4, pos := "dest.go:95", after := #[{ on := 1, ground := Ground.data }], guard := none }) (v := ?_) rfl (by kernel_rfl) (by kernel_rfl) (by kernel_rfl) (fun _ _ _ h => h) (Or.inl ⟨by rfl, ?_⟩) (by assumption) ?_
        rotate_left
        · intro w' hSw; obtain ⟨d0, d1, d2, d3⟩ := hSw; go_simp; try with_reducible rfl
        simp only [Act.put, List.setIfInBounds_toArray, List.set_cons_zero, List.set_cons_succ]
        refine wpAnyH_take (i := 3) (oi := { dst := some 15, op := Op.move (Operand.tmp 14), type := 4, pos := "dest.go:95", after := #[{ on := 2, ground := Ground.data }, { on := 1, ground := Ground.chain }], guard := none }) (v := ?_) rfl (by kernel_rfl) (by kernel_rfl) (by kernel_rfl) (fun _ _ _ h => h) (Or.inl ⟨by rfl, ?_⟩) (by assumption) ?_
        rotate_left
        · intro w' hSw; obtain ⟨d0, d1, d2, d3⟩ := hSw; go_simp; try with_reducible rfl
        simp only [Act.put, List.setIfInBounds_toArray, List.set_cons_zero, List.set_cons_succ]
        refine wpAnyH_take (i := 4) (oi := { dst := some 16, op := Op.move (Operand.tmp 3), type := 3, pos := "dest.go:95", after := #[{ on := 3, ground := Ground.guard }], guard := some (3, false) }) (v := undef) rfl (by kernel_rfl) (by kernel_rfl) (by kernel_rfl) (fun _ _ _ h => h) (Or.inr ⟨by rfl, rfl⟩) (by assumption) ?_
        simp only [Act.put, List.setIfInBounds_toArray, List.set_cons_zero, List.set_cons_succ]
        refine wpAnyH_take (i := 5) (oi := { dst := some 17, op := Op.binOp BinOp.gtr 3 (Operand.tmp 16) (Operand.const (Value.int IntKind.i64 0)) 3, type := 4, pos := "dest.go:95", after := #[{ on := 4, ground := Ground.data }, { on := 3, ground := Ground.guard }], guard := some (3, false) }) (v := undef) rfl (by kernel_rfl) (by kernel_rfl) (by kernel_rfl) (fun _ _ _ h => h) (Or.inr ⟨by rfl, rfl⟩) (by assumption) ?_
        simp only [Act.put, List.setIfInBounds_toArray, List.set_cons_zero, List.set_cons_succ]
        refine wpAnyH_take (i := 6) (oi := { dst := some 18, op := Op.move (Operand.tmp 17), type := 4, pos := "dest.go:95", after := #[{ on := 5, ground := Ground.data }, { on := 3, ground := Ground.chain }, { on := 3, ground := Ground.guard }], guard := some (3, false) }) (v := undef) rfl (by kernel_rfl) (by kernel_rfl) (by kernel_rfl) (fun _ _ _ h => h) (Or.inr ⟨by rfl, rfl⟩) (by assumption) ?_
        simp only [Act.put, List.setIfInBounds_toArray, List.set_cons_zero, List.set_cons_succ]
        refine wpAnyH_take (i := 7) (oi := { dst := some 19, op := Op.move (Operand.tmp 0), type := 25, pos := "dest.go:95", after := #[{ on := 6, ground := Ground.guard }], guard := some (6, true) }) (v := undef) rfl (by kernel_rfl) (by kernel_rfl) (by kernel_rfl) (fun _ _ _ h => h) (Or.inr ⟨by rfl, rfl⟩) (by assumption) ?_
        simp only [Act.put, List.setIfInBounds_toArray, List.set_cons_zero, List.set_cons_succ]
        refine wpAnyH_take (i := 8) (oi := { dst := some 20, op := Op.move (Operand.tmp 3), type := 3, pos := "dest.go:95", after := #[{ on := 6, ground := Ground.guard }], guard := some (6, true) }) (v := undef) rfl (by kernel_rfl) (by kernel_rfl) (by kernel_rfl) (fun _ _ _ h => h) (Or.inr ⟨by rfl, rfl⟩) (by assumption) ?_
        simp only [Act.put, List.setIfInBounds_toArray, List.set_cons_zero, List.set_cons_succ]
        refine wpAnyH_take (i := 9) (oi := { dst := some 21, op := Op.binOp BinOp.sub 3 (Operand.tmp 20) (Operand.const (Value.int IntKind.i64 1)) 3, type := 3, pos := "dest.go:95", after := #[{ on := 8, ground := Ground.data }, { on := 6, ground := Ground.guard }], guard := some (6, true) }) (v := undef) rfl (by kernel_rfl) (by kernel_rfl) (by kernel_rfl) (fun _ _ _ h => h) (Or.inr ⟨by rfl, rfl⟩) (by assumption) ?_
        simp only [Act.put, List.setIfInBounds_toArray, List.set_cons_zero, List.set_cons_succ]
        refine wpAnyH_take (i := 10) (oi := { dst := some 22, op := Op.indexAddr 25 (Operand.tmp 19) (Operand.tmp 21), type := 0, pos := "dest.go:95", after := #[{ on := 7, ground := Ground.data }, { on := 9, ground := Ground.data }, { on := 6, ground := Ground.guard }], guard := some (6, true) }) (v := undef) rfl (by kernel_rfl) (by kernel_rfl) (by kernel_rfl) (fun _ _ _ h => h) (Or.inr ⟨by rfl, rfl⟩) (by assumption) ?_
        simp only [Act.put, List.setIfInBounds_toArray, List.set_cons_zero, List.set_cons_succ]
        refine wpAnyH_take (i := 11) (oi := { dst := some 23, op := Op.load 73 (Operand.tmp 22), type := 73, pos := "dest.go:95", after := #[{ on := 10, ground := Ground.data }, { on := 6, ground := Ground.guard }], guard := some (6, true) }) (v := undef) rfl (by kernel_rfl) (by kernel_rfl) (by kernel_rfl) (fun _ _ _ h => h) (Or.inr ⟨by rfl, rfl⟩) (by assumption) ?_
        simp only [Act.put, List.setIfInBounds_toArray, List.set_cons_zero, List.set_cons_succ]
        refine wpAnyH_take (i := 12) (oi := { dst := some 24, op := Op.load 73 (Operand.tmp 4), type := 73, pos := "dest.go:95", after := #[{ on := 6, ground := Ground.guard }], guard := some (6, true) }) (v := undef) rfl (by kernel_rfl) (by kernel_rfl) (by kernel_rfl) (fun _ _ _ h => h) (Or.inr ⟨by rfl, rfl⟩) (by assumption) ?_
        simp only [Act.put, List.setIfInBounds_toArray, List.set_cons_zero, List.set_cons_succ]
        refine wpAnyH_take (i := 13) (oi := { dst := some 25, op := Op.call { callee := Callee.value (Operand.func 108), args := #[Operand.tmp 23, Operand.tmp 24], argTypes := #[73, 73] }, type := 4, pos := "dest.go:95", after := #[{ on := 11, ground := Ground.data }, { on := 12, ground := Ground.data }, { on := 6, ground := Ground.chain }, { on := 6, ground := Ground.guard }], guard := some (6, true) }) (v := undef) rfl (by kernel_rfl) (by kernel_rfl) (by kernel_rfl) (fun _ _ _ h => h) (Or.inr ⟨by rfl, rfl⟩) (by assumption) ?_
        simp only [Act.put, List.setIfInBounds_toArray, List.set_cons_zero, List.set_cons_succ]
        refine wpAnyH_take (i := 14) (oi := { dst := some 26, op := Op.unOp UnOp.not 4 (Operand.tmp 25), type := 4, pos := "dest.go:95", after := #[{ on := 13, ground := Ground.data }, { on := 6, ground := Ground.guard }], guard := some (6, true) }) (v := undef) rfl (by kernel_rfl) (by kernel_rfl) (by kernel_rfl) (fun _ _ _ h => h) (Or.inr ⟨by rfl, rfl⟩) (by assumption) ?_
        simp only [Act.put, List.setIfInBounds_toArray, List.set_cons_zero, List.set_cons_succ]
        refine wpAnyH_take (i := 15) (oi := { dst := some 27, op := Op.move (Operand.tmp 26), type := 4, pos := "dest.go:95", after := #[{ on := 14, ground := Ground.data }, { on := 13, ground := Ground.chain }, { on := 6, ground := Ground.guard }], guard := some (6, true) }) (v := undef) rfl (by kernel_rfl) (by kernel_rfl) (by kernel_rfl) (fun _ _ _ h => h) (Or.inr ⟨by rfl, rfl⟩) (by assumption) ?_
        simp only [Act.put, List.setIfInBounds_toArray, List.set_cons_zero, List.set_cons_succ]
        refine wpAnyH_take (i := 16) (oi := { dst := some 28, op := Op.move (Operand.tmp 0), type := 25, pos := "dest.go:95", after := #[{ on := 15, ground := Ground.guard }], guard := some (15, false) }) (v := undef) rfl (by kernel_rfl) (by kernel_rfl) (by kernel_rfl) (fun _ _ _ h => h) (Or.inr ⟨by rfl, rfl⟩) (by assumption) ?_
        simp only [Act.put, List.setIfInBounds_toArray, List.set_cons_zero, List.set_cons_succ]
        refine wpAnyH_take (i := 17) (oi := { dst := some 29, op := Op.move (Operand.tmp 3), type := 3, pos := "dest.go:95", after := #[{ on := 15, ground := Ground.guard }], guard := some (15, false) }) (v := undef) rfl (by kernel_rfl) (by kernel_rfl) (by kernel_rfl) (fun _ _ _ h => h) (Or.inr ⟨by rfl, rfl⟩) (by assumption) ?_
        simp only [Act.put, List.setIfInBounds_toArray, List.set_cons_zero, List.set_cons_succ]
        refine wpAnyH_take (i := 18) (oi := { dst := some 30, op := Op.binOp BinOp.sub 3 (Operand.tmp 29) (Operand.const (Value.int IntKind.i64 1)) 3, type := 3, pos := "dest.go:95", after := #[{ on := 17, ground := Ground.data }, { on := 15, ground := Ground.guard }], guard := some (15, false) }) (v := undef) rfl (by kernel_rfl) (by kernel_rfl) (by kernel_rfl) (fun _ _ _ h => h) (Or.inr ⟨by rfl, rfl⟩) (by assumption) ?_
        simp only [Act.put, List.setIfInBounds_toArray, List.set_cons_zero, List.set_cons_succ]
        refine wpAnyH_take (i := 19) (oi := { dst := some 31, op := Op.indexAddr 25 (Operand.tmp 28) (Operand.tmp 30), type := 0, pos := "dest.go:95", after := #[{ on := 16, ground := Ground.data }, { on := 18, ground := Ground.data }, { on := 15, ground := Ground.guard }], guard := some (15, false) }) (v := undef) rfl (by kernel_rfl) (by kernel_rfl) (by kernel_rfl) (fun _ _ _ h => h) (Or.inr ⟨by rfl, rfl⟩) (by assumption) ?_
        simp only [Act.put, List.setIfInBounds_toArray, List.set_cons_zero, List.set_cons_succ]
        refine wpAnyH_take (i := 20) (oi := { dst := some 32, op := Op.load 73 (Operand.tmp 31), type := 73, pos := "dest.go:95", after := #[{ on := 19, ground := Ground.data }, { on := 15, ground := Ground.guard }], guard := some (15, false) }) (v := undef) rfl (by kernel_rfl) (by kernel_rfl) (by kernel_rfl) (fun _ _ _ h => h) (Or.inr ⟨by rfl, rfl⟩) (by assumption) ?_
        simp only [Act.put, List.setIfInBounds_toArray, List.set_cons_zero, List.set_cons_succ]
        refine wpAnyH_take (i := 21) (oi := { dst := some 33, op := Op.load 73 (Operand.tmp 4), type := 73, pos := "dest.go:95", after := #[{ on := 15, ground := Ground.guard }], guard := some (15, false) }) (v := undef) rfl (by kernel_rfl) (by kernel_rfl) (by kernel_rfl) (fun _ _ _ h => h) (Or.inr ⟨by rfl, rfl⟩) (by assumption) ?_
        simp only [Act.put, List.setIfInBounds_toArray, List.set_cons_zero, List.set_cons_succ]
        refine wpAnyH_take (i := 22) (oi := { dst := some 34, op := Op.call { callee := Callee.value (Operand.func 128), args := #[Operand.tmp 32, Operand.tmp 33], argTypes := #[73, 73] }, type := 4, pos := "dest.go:95", after := #[{ on := 20, ground := Ground.data }, { on := 21, ground := Ground.data }, { on := 15, ground := Ground.chain }, { on := 15, ground := Ground.guard }], guard := some (15, false) }) (v := undef) rfl (by kernel_rfl) (by kernel_rfl) (by kernel_rfl) (fun _ _ _ h => h) (Or.inr ⟨by rfl, rfl⟩) (by assumption) ?_
        simp only [Act.put, List.setIfInBounds_toArray, List.set_cons_zero, List.set_cons_succ]
        refine wpAnyH_take (i := 23) (oi := { dst := some 35, op := Op.pick (Operand.tmp 27) (Operand.const (Value.bool true)) (Operand.tmp 34), type := 4, pos := "dest.go:95", after := #[{ on := 15, ground := Ground.data }, { on := 22, ground := Ground.data }, { on := 6, ground := Ground.guard }], guard := some (6, true) }) (v := undef) rfl (by kernel_rfl) (by kernel_rfl) (by kernel_rfl) (fun _ _ _ h => h) (Or.inr ⟨by rfl, rfl⟩) (by assumption) ?_
        simp only [Act.put, List.setIfInBounds_toArray, List.set_cons_zero, List.set_cons_succ]
        refine wpAnyH_take (i := 24) (oi := { dst := some 36, op := Op.pick (Operand.tmp 18) (Operand.tmp 35) (Operand.const (Value.bool false)), type := 4, pos := "dest.go:95", after := #[{ on := 6, ground := Ground.data }, { on := 23, ground := Ground.data }, { on := 3, ground := Ground.guard }], guard := some (3, false) }) (v := undef) rfl (by kernel_rfl) (by kernel_rfl) (by kernel_rfl) (fun _ _ _ h => h) (Or.inr ⟨by rfl, rfl⟩) (by assumption) ?_
        simp only [Act.put, List.setIfInBounds_toArray, List.set_cons_zero, List.set_cons_succ]
        refine wpAnyH_take (i := 25) (oi := { dst := some 37, op := Op.pick (Operand.tmp 15) (Operand.const (Value.bool true)) (Operand.tmp 36), type := 4, pos := "dest.go:95", after := #[{ on := 3, ground := Ground.data }, { on := 24, ground := Ground.data }], guard := none }) (v := ?_) rfl (by kernel_rfl) (by kernel_rfl) (by kernel_rfl) (fun _ _ _ h => h) (Or.inl ⟨by rfl, ?_⟩) (by assumption) ?_
        rotate_left
        · intro w' hSw; obtain ⟨d0, d1, d2, d3⟩ := hSw; go_simp; try with_reducible rfl
        simp only [Act.put, List.setIfInBounds_toArray, List.set_cons_zero, List.set_cons_succ]
        refine wpAnyH_done (by kernel_rfl) ?_ _
        go_wp2
        go_ret
        exact ⟨⟨k, ⟨by rw [pl_length, ← HN.out]; omega, HO.out, fun _ h => HS.out (h x.b (pl_get HX.out)).1⟩, by first | rfl | go_num⟩, (Z2.out _ z1).2⟩
    · have t0 : decide (k < n) = false := decide_eq_false hlt
      obtain rfl : k = n := by omega
      go_wp2
      go_ret
      exact ⟨⟨k, ⟨by rw [pl_length, HN.out]; exact Nat.le_refl _, HO.out, fun h => absurd h (by rw [pl_length]; have := HN.out; omega)⟩, rfl⟩, hbel⟩
end Go.Proofs.YtmjneokjgcgchaaGreat
/-
  The program's own add.
-/
namespace Go.Proofs.YtmjneokjgcgchaaGreat
open Go.RowKit
attribute [local go_sem ↓] Go.wp_at_zero Go.wp_at_succ

theorem dgb_below {w w' : World} (h : Below w.heap.size w w') (row : Option Nat) : w.grownBy w' row := ⟨h.os, h.tape, h.output, h.size, fun k hk _ => h.block k hk⟩
theorem dgb_trans {a b c : World} {r r' : Option Nat} (h : a.grownBy b r) (k : b.grownBy c r') (hr : ∀ g, r' = some g → r = some g ∨ a.heap.size ≤ g) : a.grownBy c r :=
  ⟨k.os.trans h.os, k.tape.trans h.tape, k.output.trans h.output, Nat.le_trans h.size k.size, fun j hj hne => (k.block j (Nat.lt_of_lt_of_le hj h.size) fun e => by
    rcases hr j e.symm with h1 | h1
    · exact hne h1.symm
    · omega).trans (h.block j hj hne)⟩
/-- What adds to a row hands back: the row, which is the old one or a new one. -/
def AddedB (w : World) (base : Nat) (v : Value) (m : List Me) (e : Ending) (w' : World) : Prop :=
  ∃ v', e = .returned v' ∧ w'.ownsRow base 73 4 v' m.length (dvs m) ∧ w.grownBy w' v.ownBlock ∧ (∀ g, v'.ownBlock = some g → v.ownBlock = some g ∨ w.heap.size ≤ g)
theorem own_fc {w : World} {base : Nat} {e : TypeId} {v : Value} {n : Nat} {out : List Me} {x : Me} (h : w.ownsRow base e 4 v n (dvs out ++ fq x)) (hn : n = out.length + 1) : w.ownsRow base e 4 v (out ++ [x]).length (dvs (out ++ [x])) := by
  subst hn
  rw [dvs_append, List.length_append]
  simpa [dvs] using h
theorem own_hiB {w : World} {base : Nat} {e : TypeId} {g cap n : Nat} {p : List Me} {y : Me} {hi : Int} (h : w.ownsRow base e 4 (.slice (some ⟨g, 0, none⟩) n cap) n (dvs (p ++ [y]))) :
    (w.setCell ⟨g, p.length * 4 + 2, none⟩ (.int .i64 hi)).ownsRow base e 4 (.slice (some ⟨g, 0, none⟩) n cap) n (dvs (p ++ [{ y with b := { y.b with hi := hi } }])) ∧ w.grownBy (w.setCell ⟨g, p.length * 4 + 2, none⟩ (.int .i64 hi)) (some g) := by
  have k := h.stored (p.length * 4 + 2) (.int .i64 hi)
  have e1 : (dvs (p ++ [y])).set (p.length * 4 + 2) (.int .i64 hi) = dvs (p ++ [{ y with b := { y.b with hi := hi } }]) := by
    rw [dvs_append, dvs_append, List.set_append_right _ _ (by rw [dvs_length]; omega), dvs_length, show p.length * 4 + 2 - p.length * 4 = 2 by omega]
    rfl
  rw [e1] at k
  exact k
def addM (d : List Me) (x : Me) : List Me :=
  match d.getLast? with
  | none => [x]
  | some e => if jnB e.b x.b then d.dropLast ++ [{ e with b := { e.b with hi := x.b.hi } }] else d ++ [x]
theorem addM_nil (x : Me) : addM [] x = [x] := rfl
theorem addM_snoc (p : List Me) (e x : Me) : addM (p ++ [e]) x = if jnB e.b x.b then p ++ [{ e with b := { e.b with hi := x.b.hi } }] else p ++ [e] ++ [x] := by
  unfold addM
  rw [List.getLast?_concat, List.dropLast_concat]
theorem addM_pl (d : List Me) (x : Me) : pl (addM d x) = addE (pl d) x.b := by
  rcases List.eq_nil_or_concat d with rfl | ⟨p, e, rfl⟩
  · rfl
  · rw [List.concat_eq_append, addM_snoc, pl_append]
    show _ = addE (pl p ++ [e.b]) x.b
    rw [addE_snoc]
    split
    · rw [pl_append]; rfl
    · rw [pl_append, pl_append]; rfl
theorem addM_ul {w : World} {d : List Me} {x : Me} (hd : Utl w d) (hx : Ut w x.a x.c x.b.u) : Utl w (addM d x) := by
  rcases List.eq_nil_or_concat d with rfl | ⟨p, e, rfl⟩
  · intro m hm
    rw [addM_nil, List.mem_singleton] at hm
    rw [hm]; exact hx
  · rw [List.concat_eq_append] at *
    rw [addM_snoc]
    split
    · intro m hm
      rcases List.mem_append.1 hm with hm | hm
      · exact hd m (List.mem_append_left _ hm)
      · rw [List.mem_singleton] at hm
        subst hm
        exact hd e (by simp)
    · intro m hm
      rcases List.mem_append.1 hm with hm | hm
      · exact hd m hm
      · rw [List.mem_singleton] at hm
        rw [hm]; exact hx
theorem addM_length (d : List Me) (x : Me) : (addM d x).length ≤ d.length + 1 := by
  have := addE_length (pl d) x.b
  rw [← addM_pl, pl_length, pl_length] at this
  exact this
set_option maxRecDepth 100000 in
set_option maxHeartbeats 4000000 in
theorem dAdd_any (base : Nat) (v : Value) (o : List Me) (x : Me) (w : World) (hown : w.ownsRow base 73 4 v o.length (dvs o)) (hbase : base ≤ w.heap.size) (hl : o.length ≤ 1073741824) (hul : Ul w o) (hux : Un w x.a x.c x.b.u) (hs : ∀ y ∈ o, Sb y.b) (hx : Sb x.b) :
    Calls Tryz.prog 156 #[v, fv x] w (AddedB w base v (addM o x)) := by
  obtain ⟨i0, hi, hz0, hz1, hz2⟩ := info_parts infoB
  rcases List.eq_nil_or_concat o with rfl | ⟨p, y, rfl⟩
  · obtain ⟨c, _, _, A, rfl, _, _⟩ := Rd.of_own hown
    rw [addM_nil]
    unfold fv
    go_enter Tryz.func156, Tryz.ntmps156
    go_wp2
    go_quiet (fail)
    obtain ⟨W1, hW1⟩ : ∃ W1, ((w.alloc (.cells #[.int .i64 x.b.n, .int .i64 x.b.lo, .int .i64 x.b.hi, .slice x.a x.b.u.length x.c] 73)).drewN nq) = W1 := ⟨_, rfl⟩
    have hW : Below w.heap.size w W1 := by rw [← hW1]; exact below_drewN ((Below.refl _ _).alloc (Nat.le_refl _) _) _
    have hbx : Fb W1 w.heap.size x := by rw [← hW1]; exact Fb.below (B := w.heap.size + 1) (Fb.new w x 73) (below_drewN (Below.refl _ _) _) (by omega)
    have hown1 := own_belowD hown hW (Nat.le_refl _)
    have hz : w.heap.size < W1.heap.size := by rw [← hW1]; simp
    rw [hW1]
    clear hW1 hown
    obtain ⟨y0, y1, y2, y3⟩ := hbx
    simp only [Nat.zero_add] at y1 y2 y3
    go_wp2_with (at_builtin; refine wpList_append_lies _ rfl _ _ _ rfl base 73 i0 (.agg #[.int .i64 0, .int .i64 0, .int .i64 0, .slice none 0 0]) 4 48 Tryz.underlying25 hi hz0 hz1 hz2 rfl (by omega) _ _ _ rfl (hown1.alloc _) ⟨W1.heap.size, 0, none⟩ 1 1 (fq x) rfl rfl (World.news_of_block (heap_alloc_new W1 _)) (by intro u hu; exact dvs_one [x] u (by simpa [dvs] using hu)) (by omega) (by unfold maxLen; omega) (by omega) (by simp; omega) _ rfl ?_; intro g2 cap2 w3 hown3 hgrow hat hgl)
    go_ret
    refine ⟨_, rfl, own_fc (out := []) hown3 rfl, dgb_trans (dgb_trans (dgb_below hW _) (World.grownBy_alloc W1 _ _) (fun g e => .inl e)) hgrow (fun g e => .inl e), fun g e => ?_⟩
    have e2 : g2 = g := by simpa [Value.ownBlock] using e
    subst e2
    rcases hat with h | h
    · exact .inl h
    · exact .inr (by rw [h]; simp; omega)
  · rw [List.concat_eq_append] at *
    have hys : Sb y.b := hs y (by simp)
    have huy := hul y (by simp)
    obtain ⟨g, cap, rfl, hg1, hg2⟩ := hown.form (by simp)
    have hle : (p ++ [y]).length = p.length + 1 := by simp
    rw [hle] at hown hl ⊢
    have K1 := Lib.hid (fun W (hW : Below w.heap.size w W) => dJoins_any y x W (huy.over hW) (hux.over hW) hys hx)
    have hm : (addM (p ++ [y]) x) = if jnB y.b x.b then p ++ [{ y with b := { y.b with hi := x.b.hi } }] else p ++ [y] ++ [x] := addM_snoc p y x
    obtain ⟨m, hmm⟩ : ∃ m, m = addM (p ++ [y]) x := ⟨_, rfl⟩
    rw [← hmm]
    have HM := Lib.hid (hmm.trans hm)
    clear hmm hm hs hys hx hle huy hux hul
    have hcl : ∀ W, Below w.heap.size w W → F4 W g (p.length * 4) y := fun W hW => by
      have h1 := own_belowD hown hW (Nat.le_refl _)
      have key : ∀ i u, i < 4 → (fq y)[i]? = some u → W.cell? ⟨g, p.length * 4 + i, none⟩ = some u := fun i u hi hu => by
        have := h1.cells (g := g) rfl (p.length * 4 + i) u ((dvs_get (p ++ [y]) p.length i y (by simp) hi).trans hu)
        rwa [addr_add, Nat.zero_add] at this
      exact ⟨key 0 _ (by omega) rfl, key 1 _ (by omega) rfl, key 2 _ (by omega) rfl, key 3 _ (by omega) rfl⟩
    have HCL := Lib.hid hcl
    have hb0 : Below w.heap.size w (w.alloc (.cells #[.int .i64 x.b.n, .int .i64 x.b.lo, .int .i64 x.b.hi, .slice x.a x.b.u.length x.c] 73)) := (Below.refl _ _).alloc (Nat.le_refl _) _
    have hbz : Fb (w.alloc (.cells #[.int .i64 x.b.n, .int .i64 x.b.lo, .int .i64 x.b.hi, .slice x.a x.b.u.length x.c] 73)) w.heap.size x := Fb.new _ _ _
    have hsz : w.heap.size < (w.alloc (.cells #[.int .i64 x.b.n, .int .i64 x.b.lo, .int .i64 x.b.hi, .slice x.a x.b.u.length x.c] 73)).heap.size := by simp
    unfold fv at *
    go_enter Tryz.func156, Tryz.ntmps156
    go_wp2_with fail
    generalize w.alloc (.cells #[.int .i64 x.b.n, .int .i64 x.b.lo, .int .i64 x.b.hi, .slice x.a x.b.u.length x.c] 73) = wr at *
    have HH : Hid (∀ w', Below wr.heap.size wr w' → (w'.cell? ⟨g, p.length * 4, none⟩ = some (.int .i64 y.b.n) ∧ w'.cell? ⟨g, p.length * 4 + 1, none⟩ = some (.int .i64 y.b.lo) ∧ w'.cell? ⟨g, p.length * 4 + 2, none⟩ = some (.int .i64 y.b.hi) ∧ w'.cell? ⟨g, p.length * 4 + 3, none⟩ = some (.slice y.a y.b.u.length y.c)) ∧ w'.cell? ⟨w.heap.size, 0, none⟩ = some (.int .i64 x.b.n) ∧ w'.cell? ⟨w.heap.size, 1, none⟩ = some (.int .i64 x.b.lo) ∧ w'.cell? ⟨w.heap.size, 2, none⟩ = some (.int .i64 x.b.hi) ∧ w'.cell? ⟨w.heap.size, 3, none⟩ = some (.slice x.a x.b.u.length x.c)) := Lib.hid fun w' hw => by
      have q := HCL.out w' (hb0.trans (hw.mono (by omega)))
      have r := Fb.below hbz hw hsz
      exact ⟨⟨q.c0, q.c1, q.c2, q.c3⟩, r.c0, r.c1, r.c2, r.c3⟩
    have z0 : Below wr.heap.size wr wr.drew := (Below.refl _ _).drew
    have HB : Hid (∀ w', Below wr.heap.size wr w' → Below w.heap.size w w' ∧ w.heap.size < w'.heap.size) := Lib.hid fun w' hw => ⟨hb0.trans (hw.mono (by omega)), Nat.lt_of_lt_of_le hsz hw.size⟩
    have HOW := Lib.hid hown
    clear hcl hb0 hbz hown hsz
    cases hj : decide (jnB y.b x.b)
    all_goals
      rw [hj] at K1
      have HJ := Lib.hid hj
      clear hj
      go_region_held (fun w' => (w'.cell? ⟨g, p.length * 4, none⟩ = some (.int .i64 y.b.n) ∧ w'.cell? ⟨g, p.length * 4 + 1, none⟩ = some (.int .i64 y.b.lo) ∧ w'.cell? ⟨g, p.length * 4 + 2, none⟩ = some (.int .i64 y.b.hi) ∧ w'.cell? ⟨g, p.length * 4 + 3, none⟩ = some (.slice y.a y.b.u.length y.c)) ∧ w'.cell? ⟨w.heap.size, 0, none⟩ = some (.int .i64 x.b.n) ∧ w'.cell? ⟨w.heap.size, 1, none⟩ = some (.int .i64 x.b.lo) ∧ w'.cell? ⟨w.heap.size, 2, none⟩ = some (.int .i64 x.b.hi) ∧ w'.cell? ⟨w.heap.size, 3, none⟩ = some (.slice x.a x.b.u.length x.c))
        (first | with_reducible exact HH.out _ z8 | with_reducible exact HH.out _ z0)
        ((go_at_call 128; (with_reducible refine (K1.out _ (HB.out _ z0).1).mono ?_); rintro e W1 ⟨rfl, y8⟩; have z8 := z0.trans (y8.mono z0.size)))
    · all_goals
        obtain ⟨hW, hz⟩ := HB.out _ z8
        have hown1 := own_belowD HOW.out hW (Nat.le_refl _)
        obtain ⟨_, y0, y1, y2, y3⟩ := HH.out _ z8
        go_wp2_with (at_builtin; refine wpList_append_lies _ rfl _ _ _ rfl base 73 i0 (.agg #[.int .i64 0, .int .i64 0, .int .i64 0, .slice none 0 0]) 4 48 Tryz.underlying25 hi hz0 hz1 hz2 rfl (by omega) _ _ _ rfl (hown1.alloc _) ⟨W1.heap.size, 0, none⟩ 1 1 (fq x) rfl rfl (World.news_of_block (heap_alloc_new W1 _)) (by intro u hu; exact dvs_one [x] u (by simpa [dvs] using hu)) (by omega) (by unfold maxLen; omega) (by omega) (by simp; omega) _ rfl ?_; intro g2 cap2 w3 hown3 hgrow hat hgl)
        go_ret
        refine ⟨_, rfl, by rw [HM.out, if_neg (of_decide_eq_false HJ.out)]; exact own_fc (out := p ++ [y]) hown3 (by simp), dgb_trans (dgb_trans (dgb_below hW _) (World.grownBy_alloc W1 _ _) (fun g e => .inl e)) hgrow (fun g e => .inl e), fun g e => ?_⟩
        have e2 : g2 = g := by simpa [Value.ownBlock] using e
        subst e2
        rcases hat with h | h
        · exact .inl h
        · exact .inr (by rw [h]; simp; omega)
    · all_goals
        obtain ⟨hW, hz⟩ := HB.out _ z8
        have hown1 := own_belowD HOW.out hW (Nat.le_refl _)
        obtain ⟨⟨x0, x1, x2, x3⟩, y0, y1, y2, y3⟩ := HH.out _ z8
        have hf := hown1.frozenAt (p.length * 4 + 2)
        obtain ⟨k1, k2⟩ := own_hiB (hi := x.b.hi) hown1
        go_wp2
        go_ret
        refine ⟨_, rfl, ?_, dgb_trans (dgb_below hW _) k2 (fun g e => .inl e), fun g e => .inl e⟩
        rw [HM.out, if_pos (of_decide_eq_true HJ.out), List.length_append]
        exact k1
end Go.Proofs.YtmjneokjgcgchaaGreat
/-
  What overlaying leaves alone: all blocks but one, and of that one all cells but those between two places.
-/
namespace Go.Proofs.YtmjneokjgcgchaaGreat
open Go.RowKit

/-- Only cells of one block, between lo and hi, are written. -/
structure Fz (w w' : World) (bt lo hi : Nat) : Prop where
  os : w'.os = w.os
  tape : w'.tape = w.tape
  output : w'.output = w.output
  size : w.heap.size ≤ w'.heap.size
  keep : ∀ b : Nat, b < w.heap.size → b ≠ bt → w'.heap[b]? = w.heap[b]?
  part : ∀ cs, w.heap[bt]? = some (Obj.cells cs 73 (0, 0)) → ∃ cs', w'.heap[bt]? = some (Obj.cells cs' 73 (0, 0)) ∧ cs'.size = cs.size ∧ ∀ i : Nat, i < lo ∨ hi ≤ i → cs'[i]? = cs[i]?
/-- Entries of a block, from a place on. -/
def Rt (w : World) (b o : Nat) (d : List Me) : Prop := ∃ cs : Array Value, w.heap[b]? = some (Obj.cells cs 73 (0, 0)) ∧ ∀ (j : Nat) (x : Me), d[j]? = some x → ∀ i u, (fq x)[i]? = some u → cs[o + j * 4 + i]? = some u
theorem cell_cs {w : World} {b i : Nat} {cs : Array Value} {t : TypeId} {f : Nat × Nat} (h : w.heap[b]? = some (Obj.cells cs t f)) : w.cell? ⟨b, i, none⟩ = cs[i]? := by simp [World.cell?, h]
theorem frozen_cs {w : World} {b i : Nat} {cs : Array Value} {t : TypeId} (h : w.heap[b]? = some (Obj.cells cs t (0, 0))) : w.frozen? ⟨b, i, none⟩ = false := by simp [World.frozen?, h]
section
variable {w w' w'' : World} {bt lo hi b o : Nat} {d : List Me}
theorem Fz.refl (w : World) (bt lo hi : Nat) : Fz w w bt lo hi := ⟨rfl, rfl, rfl, Nat.le_refl _, fun _ _ _ => rfl, fun cs h => ⟨cs, h, rfl, fun _ _ => rfl⟩⟩
theorem Fz.below (h : Fz w w' bt lo hi) (k : Below w'.heap.size w' w'') : Fz w w'' bt lo hi := ⟨k.os.trans h.os, k.tape.trans h.tape, k.output.trans h.output, Nat.le_trans h.size k.size, fun b hb hn => (k.block b (Nat.lt_of_lt_of_le hb h.size)).trans (h.keep b hb hn), fun cs hc => by
  obtain ⟨cs', h1, h2, h3⟩ := h.part cs hc
  exact ⟨cs', (k.block bt (Array.getElem?_eq_some_iff.1 h1).1).trans h1, h2, h3⟩⟩
theorem Fz.grown (h : Fz w w' bt lo hi) {row : Option Nat} (k : w'.grownBy w'' row) (hr : ∀ g, row = some g → w.heap.size ≤ g) : Fz w w'' bt lo hi := ⟨k.os.trans h.os, k.tape.trans h.tape, k.output.trans h.output, Nat.le_trans h.size k.size, fun b hb hn => (k.block b (Nat.lt_of_lt_of_le hb h.size) (fun e => by have := hr b e.symm; omega)).trans (h.keep b hb hn), fun cs hc => by
  obtain ⟨cs', h1, h2, h3⟩ := h.part cs hc
  have hb : bt < w.heap.size := (Array.getElem?_eq_some_iff.1 hc).1
  exact ⟨cs', (k.block bt (Array.getElem?_eq_some_iff.1 h1).1 (fun e => by have := hr bt e.symm; omega)).trans h1, h2, h3⟩⟩
theorem Fz.set (h : Fz w w' bt lo hi) (i : Nat) (v : Value) (h1 : lo ≤ i) (h2 : i < hi) : Fz w (w'.setCell ⟨bt, i, none⟩ v) bt lo hi := ⟨by rw [← h.os]; rfl, by rw [← h.tape]; rfl, by rw [← h.output]; rfl, by simpa using h.size, fun b hb hn => (heap_setCell_other _ _ _ _ hn).trans (h.keep b hb hn), fun cs hc => by
  obtain ⟨cs', k1, k2, k3⟩ := h.part cs hc
  refine ⟨cs'.setIfInBounds i v, heap_setCell_same _ _ _ _ _ _ k1, by simpa using k2, fun j hj => ?_⟩
  rw [Array.getElem?_setIfInBounds_ne (by omega)]
  exact k3 j hj⟩
theorem Fz.tq (h : Fz w w' bt lo hi) (ht : Tq w bt) : Tq w' bt := by
  obtain ⟨cs, hc⟩ := ht
  obtain ⟨cs', h1, _⟩ := h.part cs hc
  exact ⟨cs', h1⟩
theorem tq_int {w : World} {b : Nat} {cs : Array Value} {f : Nat × Nat} (h : Tq w b) (k : w.heap[b]? = some (Obj.cells cs 3 f)) : False := by
  obtain ⟨cs', h2⟩ := h
  rw [k] at h2
  injection h2 with h2
  injection h2 with _ h2
  revert h2
  decide
theorem Fz.ik (h : Fz w w' bt lo hi) (ht : Tq w bt) : Ik w w' := ⟨h.size, fun b cs f hb => (h.keep b (Array.getElem?_eq_some_iff.1 hb).1 (by rintro rfl; exact tq_int ht hb)).trans hb⟩
theorem Fz.toBelow (h : Fz w w' bt lo hi) {S : Nat} (hS : S ≤ bt) (hz : S ≤ w.heap.size) : Below S w w' := ⟨h.os, h.tape, h.output, h.size, fun b hb => h.keep b (by omega) (by omega)⟩
theorem Rt.tq (h : Rt w b o d) : Tq w b := by obtain ⟨cs, h1, _⟩ := h; exact ⟨cs, h1⟩
theorem Rt.lt (h : Rt w b o d) : b < w.heap.size := by obtain ⟨cs, h1, _⟩ := h; exact (Array.getElem?_eq_some_iff.1 h1).1
theorem Rt.f4 (h : Rt w b o d) {j : Nat} {x : Me} (hx : d[j]? = some x) : F4 w b (o + j * 4) x := by
  obtain ⟨cs, h1, h2⟩ := h
  exact ⟨by rw [cell_cs h1]; exact h2 j x hx 0 _ rfl, by rw [cell_cs h1]; exact h2 j x hx 1 _ rfl, by rw [cell_cs h1]; exact h2 j x hx 2 _ rfl, by rw [cell_cs h1]; exact h2 j x hx 3 _ rfl⟩
theorem Rt.frozen (h : Rt w b o d) (i : Nat) : w.frozen? ⟨b, i, none⟩ = false := by
  obtain ⟨cs, h1, _⟩ := h
  exact frozen_cs h1
theorem Rt.below (h : Rt w b o d) (k : Below w.heap.size w w') : Rt w' b o d := by
  have := h.lt
  obtain ⟨cs, h1, h2⟩ := h
  exact ⟨cs, (k.block b this).trans h1, h2⟩
theorem Rt.grown (h : Rt w b o d) {row : Option Nat} (k : w.grownBy w' row) (hr : ∀ g, row = some g → g ≠ b) : Rt w' b o d := by
  have := h.lt
  obtain ⟨cs, h1, h2⟩ := h
  exact ⟨cs, (k.block b this (fun e => hr b e.symm rfl)).trans h1, h2⟩
theorem Rt.fz (h : Rt w b o d) (k : Fz w w' bt lo hi) (hd : b ≠ bt ∨ o + d.length * 4 ≤ lo ∨ hi ≤ o) : Rt w' b o d := by
  have := h.lt
  obtain ⟨cs, h1, h2⟩ := h
  by_cases hb : b = bt
  · subst hb
    obtain ⟨cs', k1, k2, k3⟩ := k.part cs h1
    refine ⟨cs', k1, fun j x hx i u hu => ?_⟩
    have hj := (List.getElem?_eq_some_iff.1 hx).1
    have hi4 : i < 4 := (List.getElem?_eq_some_iff.1 hu).1
    rw [k3 _ (by rcases hd with h | h | h; exact absurd rfl h; left; omega; right; omega)]
    exact h2 j x hx i u hu
  · exact ⟨cs, (k.keep b this hb).trans h1, h2⟩
theorem Rt.tail {x : Me} (h : Rt w b o (x :: d)) : Rt w b (o + 4) d := by
  obtain ⟨cs, h1, h2⟩ := h
  refine ⟨cs, h1, fun j y hy i u hu => ?_⟩
  have := h2 (j + 1) y (by rw [List.getElem?_cons_succ]; exact hy) i u hu
  rwa [show o + (j + 1) * 4 + i = o + 4 + j * 4 + i by omega] at this
theorem Rt.rd (h : Rt w b o d) : Rd w w.heap.size (some ⟨b, o, none⟩) d := fun _ => ⟨b, o, rfl, h.lt, fun _ _ hx => h.f4 hx⟩
theorem Rt.take (h : Rt w b o d) (k : Nat) : Rt w b o (d.take k) := by
  obtain ⟨cs, h1, h2⟩ := h
  refine ⟨cs, h1, fun j x hx => h2 j x ?_⟩
  rw [List.getElem?_take] at hx
  split at hx
  · exact hx
  · cases hx
theorem Rt.drop (h : Rt w b o d) (k : Nat) : Rt w b (o + k * 4) (d.drop k) := by
  obtain ⟨cs, h1, h2⟩ := h
  refine ⟨cs, h1, fun j x hx i u hu => ?_⟩
  rw [List.getElem?_drop] at hx
  have := h2 _ x hx i u hu
  rwa [show o + (k + j) * 4 + i = o + k * 4 + j * 4 + i by omega] at this
theorem Rt.of_own {base n cap g : Nat} (h : w.ownsRow base 73 4 (.slice (some ⟨g, 0, none⟩) n cap) n (dvs d)) : Rt w g 0 d := by
  rcases h.2 with ⟨h', _⟩ | ⟨g', cap', cur, h', hb, hg, hnc, hcm, hcs, htake⟩
  · simp at h'
  · injection h' with h' h3 h4
    injection h' with h'
    injection h' with h'
    subst h'
    refine ⟨cur, hg, fun j x hx i u hu => ?_⟩
    have hi4 : i < 4 := (List.getElem?_eq_some_iff.1 hu).1
    have := h.cells (g := g) rfl (j * 4 + i) u ((dvs_get d j i x hx hi4).trans hu)
    rw [addr_add, cell_cs hg] at this
    rwa [← Nat.add_assoc] at this
/-- The first one is written anew. -/
theorem Rt.head {x y : Me} (h : Rt w b o (x :: d)) : Rt ((((w.setCell ⟨b, o, none⟩ (.int .i64 y.b.n)).setCell ⟨b, o + 1, none⟩ (.int .i64 y.b.lo)).setCell ⟨b, o + 2, none⟩ (.int .i64 y.b.hi)).setCell ⟨b, o + 3, none⟩ (.slice y.a y.b.u.length y.c)) b o (y :: d) := by
  obtain ⟨cs, h1, h2⟩ := h
  have e1 := heap_setCell_same _ b o cs _ (.int .i64 y.b.n) h1
  have e2 := heap_setCell_same _ b (o + 1) _ _ (.int .i64 y.b.lo) e1
  have e3 := heap_setCell_same _ b (o + 2) _ _ (.int .i64 y.b.hi) e2
  have e4 := heap_setCell_same _ b (o + 3) _ _ (.slice y.a y.b.u.length y.c) e3
  refine ⟨_, e4, fun j z hz i u hu => ?_⟩
  have hi4 : i < 4 := (List.getElem?_eq_some_iff.1 hu).1
  cases j with
  | zero =>
    cases hz
    have s0 := h2 0 x rfl 0 _ rfl
    have s1 := h2 0 x rfl 1 _ rfl
    have s2 := h2 0 x rfl 2 _ rfl
    have s3 := h2 0 x rfl 3 _ rfl
    have b3 : o + 3 < cs.size := by have := (Array.getElem?_eq_some_iff.1 s3).1; omega
    rcases (show i = 0 ∨ i = 1 ∨ i = 2 ∨ i = 3 by omega) with rfl | rfl | rfl | rfl
    all_goals
      cases hu
      simp [Array.getElem?_setIfInBounds]
      try omega
  | succ j =>
    have := h2 (j + 1) z (by simpa using hz) i u hu
    rw [Array.getElem?_setIfInBounds_ne (by omega), Array.getElem?_setIfInBounds_ne (by omega), Array.getElem?_setIfInBounds_ne (by omega), Array.getElem?_setIfInBounds_ne (by omega)]
    exact this
/-- One frame and another, in the same block. -/
theorem Fz.trans {lo1 hi1 lo2 hi2 : Nat} (h : Fz w w' b lo1 hi1) (k : Fz w' w'' b lo2 hi2) (h1 : lo ≤ lo1) (h2 : hi1 ≤ hi) (h3 : lo ≤ lo2) (h4 : hi2 ≤ hi) : Fz w w'' b lo hi := ⟨k.os.trans h.os, k.tape.trans h.tape, k.output.trans h.output, Nat.le_trans h.size k.size, fun j hj hn => (k.keep j (Nat.lt_of_lt_of_le hj h.size) hn).trans (h.keep j hj hn), fun cs hc => by
  obtain ⟨cs1, a1, a2, a3⟩ := h.part cs hc
  obtain ⟨cs2, b1, b2, b3⟩ := k.part cs1 a1
  exact ⟨cs2, b1, b2.trans a2, fun i hi => (b3 i (by omega)).trans (a3 i (by omega))⟩⟩
/-- A frame, and one in a block that is new. -/
theorem Fz.trans_new {bn lo2 hi2 : Nat} (h : Fz w w' b lo hi) (k : Fz w' w'' bn lo2 hi2) (hn : w.heap.size ≤ bn) : Fz w w'' b lo hi := ⟨k.os.trans h.os, k.tape.trans h.tape, k.output.trans h.output, Nat.le_trans h.size k.size, fun j hj hne => (k.keep j (Nat.lt_of_lt_of_le hj h.size) (by omega)).trans (h.keep j hj hne), fun cs hc => by
  have hb : b < w.heap.size := (Array.getElem?_eq_some_iff.1 hc).1
  obtain ⟨cs1, a1, a2, a3⟩ := h.part cs hc
  exact ⟨cs1, (k.keep b (Nat.lt_of_lt_of_le hb h.size) (by omega)).trans a1, a2, a3⟩⟩
theorem Fz.of_below (h : Below w.heap.size w w') : Fz w w' b lo hi := (Fz.refl w b lo hi).below h
end
end Go.Proofs.YtmjneokjgcgchaaGreat
/-
  The program's own Canon.
-/
namespace Go.Proofs.YtmjneokjgcgchaaGreat
open Go.RowKit
attribute [local go_sem ↓] Go.wp_at_zero Go.wp_at_succ

noncomputable instance ctDec (l : List Bp) : Decidable (Ct l) := Classical.propDecidable _
theorem RunB.all {l : List Bp} {k : Nat} (h : RunB l k) : ((k : Int) == (l.length : Int)) = decide (Ct l) := by
  obtain ⟨h1, h2, h3⟩ := h
  by_cases hk : k = l.length
  · subst hk
    rw [decide_eq_true h2.cn]
    simp
  · have : ¬ Ct l := fun hc => h3 (by omega) (hc.okk (k + 1) k (by omega))
    rw [decide_eq_false this]
    simp
    omega
set_option maxHeartbeats 1000000 in
theorem dCanon_any (A : Option Addr) (c : Nat) (l : List Me) (w : World) (hA : Sd w A l) (hl : l.length ≤ 1048576) :
    Calls Tryz.prog 48 #[.slice A l.length c] w fun e w' => e = .returned (.bool (decide (Ct (pl l)))) ∧ Below w.heap.size w w' := by
  have K1 := Lib.hid (dRun_any A c l w hA hl)
  obtain ⟨d, hd⟩ : ∃ d, d = decide (Ct (pl l)) := ⟨_, rfl⟩
  rw [← hd]
  have HD := Lib.hid hd
  clear hA hl hd
  go_enter Tryz.func48, Tryz.ntmps48
  go_wp2_with fail
  refine K1.out.mono ?_
  rintro e w1 ⟨⟨k, hk, rfl⟩, hb⟩
  have hk2 := hk.all
  rw [pl_length] at hk2
  rw [← HD.out] at hk2
  have HK := Lib.hid hk2
  clear hk hk2 K1
  go_wp2
  go_ret
  exact ⟨by first | exact rfl | (rw [HK.out]; exact rfl), hb⟩
end Go.Proofs.YtmjneokjgcgchaaGreat
