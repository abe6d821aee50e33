/-
  Layer 7 as plain lists: one table of two, the second of which overrides.
-/
import Derived.Test.YtdlkgcbiekilhaaSpanPure
namespace Go.Proofs.Ytdlkgcbiekilhaa

def partS (st : Bool) (s : Sp) (lo hi : Int) : Sp := ⟨s.n, lo, hi, goesS st s lo⟩
/-- One more at the end of a table. -/
def addL (st : Bool) (o : List Sp) (x : Sp) : List Sp :=
  match o.getLast? with
  | none => [x]
  | some e => if jnS st e x then o.dropLast ++ [{ e with hi := x.hi }] else o ++ [x]
/-- Those ahead of s are added. -/
def addA (st : Bool) : List Sp → List Sp → Sp → List Sp × List Sp
  | o, [], _ => (o, [])
  | o, x :: v, s => if ahS x s then addA st (addL st o x) v s else (o, x :: v)
/-- What is left of s. -/
def leftG (st : Bool) (s : Sp) : Int → List Sp → List Sp
  | lo, [] => if lo ≤ s.hi then [partS st s lo s.hi] else []
  | lo, c :: cs => if ahS s c then (if lo ≤ s.hi then [partS st s lo s.hi] else []) else (if lo < c.lo then [partS st s lo (c.lo - 1)] else []) ++ leftG st s (c.hi + 1) cs
def stepP (st : Bool) (q : List Sp × List Sp) (p : Sp) : List Sp × List Sp := (addL st (addA st q.1 q.2 p).1 p, (addA st q.1 q.2 p).2)
def stepS (st : Bool) (q : List Sp × List Sp) (s : Sp) : List Sp × List Sp := (leftG st s s.lo (addA st q.1 q.2 s).2).foldl (stepP st) (addA st q.1 q.2 s)
def overL (st : Bool) (t over : List Sp) : List Sp := (t.foldl (stepS st) ([], over)).2.foldl (addL st) (t.foldl (stepS st) ([], over)).1

section
variable {st : Bool}
theorem addL_nil (x : Sp) : addL st [] x = [x] := rfl
theorem addL_snoc (p : List Sp) (e x : Sp) : addL st (p ++ [e]) x = if jnS st e x then p ++ [{ e with hi := x.hi }] else p ++ [e] ++ [x] := by
  unfold addL
  rw [List.getLast?_concat, List.dropLast_concat]
theorem addL_ind {o : List Sp} {x : Sp} {C : List Sp → List Sp → Prop} (h0 : C [] [x]) (h1 : ∀ p e, jnS st e x → C (p ++ [e]) (p ++ [{ e with hi := x.hi }])) (h2 : ∀ p e, ¬ jnS st e x → C (p ++ [e]) (p ++ [e] ++ [x])) : C o (addL st o x) := by
  rcases List.eq_nil_or_concat o with rfl | ⟨p, e, rfl⟩
  · exact h0
  · rw [List.concat_eq_append, addL_snoc]
    split
    · exact h1 _ _ ‹_›
    · exact h2 _ _ ‹_›
theorem addL_length (o : List Sp) (x : Sp) : (addL st o x).length ≤ o.length + 1 :=
  addL_ind (C := fun o r => r.length ≤ o.length + 1) (by simp) (by simp) (by simp)
theorem addL_ah {o : List Sp} {x z : Sp} (ho : ∀ e ∈ o, ahS e z) (hx : ahS x z) : ∀ e ∈ addL st o x, ahS e z := by
  revert ho
  refine addL_ind (C := fun o r => (∀ e ∈ o, ahS e z) → ∀ e ∈ r, ahS e z) ?_ ?_ ?_
  · intro _ e he
    rw [List.mem_singleton] at he
    rw [he]; exact hx
  · intro p e hj ho q hq
    rcases List.mem_append.1 hq with hq | hq
    · exact ho q (List.mem_append_left _ hq)
    · rw [List.mem_singleton] at hq
      subst hq
      have := hj.1
      unfold ahS at *
      show e.n < z.n ∨ e.n = z.n ∧ x.hi < z.lo
      rw [this]
      exact hx
  · intro p e hj ho q hq
    rcases List.mem_append.1 hq with hq | hq
    · exact ho q hq
    · rw [List.mem_singleton] at hq
      rw [hq]; exact hx
theorem join_sn {e x : Sp} (he : Sn st e) (hx : Sn st x) (hj : jnS st e x) : Sn st { e with hi := x.hi } := by
  obtain ⟨e1, e2, e3, e4, e5, e6⟩ := he
  obtain ⟨x1, x2, x3, x4, x5, x6⟩ := hx
  obtain ⟨j1, j2, j3⟩ := hj
  refine ⟨e1, by rw [j1]; exact x2, ?_, e4, e5, ?_⟩
  · show e.lo ≤ x.hi
    omega
  · have : goesS st { e with hi := x.hi } x.hi = goesS st x x.hi := by
      unfold goesS at *
      cases st
      · simp at *; omega
      · simp at *; omega
    exact this ▸ x6
theorem join_to {e x : Sp} (he : Sn st e) (hx : Sn st x) (hj : jnS st e x) (n v : Int) : toS st { e with hi := x.hi } n v = (toS st x n v).or (toS st e n v) := by
  have hm := join_sn he hx hj
  obtain ⟨j1, j2, j3⟩ := hj
  have he3 := he.2.2.1
  have hx3 := hx.2.2.1
  have hg : ∀ v, goesS st x v = goesS st { e with hi := x.hi } v := fun v => by
    unfold goesS at *
    cases st
    · simp at *; omega
    · simp at *; omega
  by_cases k : n = e.n ∧ e.lo ≤ v ∧ v ≤ x.hi
  · rw [toS_some.2 ⟨hm, k.1, k.2.1, k.2.2, rfl⟩]
    by_cases k2 : x.lo ≤ v
    · rw [toS_some.2 ⟨hx, by omega, k2, k.2.2, rfl⟩, hg]
      rfl
    · rw [toS_none (s := x) (by omega), toS_some.2 ⟨he, k.1, k.2.1, by omega, rfl⟩]
      rfl
  · rw [toS_none (s := { e with hi := x.hi }) k, toS_none (s := x) (by omega), toS_none (s := e) (by omega)]
    rfl
theorem addL_last {o : List Sp} {x : Sp} (hx : Sn st x) (ho : ∀ e ∈ o, Sn st e) (n v : Int) : lastS st (addL st o x) n v = (toS st x n v).or (lastS st o n v) := by
  revert ho
  refine addL_ind (C := fun o r => (∀ e ∈ o, Sn st e) → lastS st r n v = (toS st x n v).or (lastS st o n v)) ?_ ?_ ?_
  · intro _
    simp [lastS]
  · intro p e hj ho
    rw [lastS_append, lastS_append, ← Option.or_assoc]
    congr 1
    simp only [lastS, Option.none_or]
    exact join_to (ho e (by simp)) hx hj n v
  · intro p e hj ho
    rw [lastS_append _ [x]]
    simp [lastS]
theorem addL_cn {o : List Sp} {x : Sp} (hx : Sn st x) (ho : Cn st o) (ha : ∀ e ∈ o, ahS e x) : Cn st (addL st o x) := by
  revert ho ha
  refine addL_ind (C := fun o r => Cn st o → (∀ e ∈ o, ahS e x) → Cn st r) ?_ ?_ ?_
  · intro _ _
    exact ⟨fun s hs => by rw [List.mem_singleton] at hs; rw [hs]; exact hx, List.pairwise_singleton _ _⟩
  · intro p e hj ho _
    obtain ⟨h1, h2⟩ := ho
    rw [List.pairwise_append] at h2
    refine ⟨fun s hs => ?_, List.pairwise_append.2 ⟨h2.1, List.pairwise_singleton _ _, fun a ha b hb => ?_⟩⟩
    · rcases List.mem_append.1 hs with hs | hs
      · exact h1 s (List.mem_append_left _ hs)
      · rw [List.mem_singleton] at hs
        rw [hs]
        exact join_sn (h1 e (by simp)) hx hj
    · rw [List.mem_singleton] at hb
      subst hb
      exact h2.2.2 a ha e (by simp)
  · intro p e hj ho ha
    obtain ⟨h1, h2⟩ := ho
    refine ⟨fun s hs => ?_, List.pairwise_append.2 ⟨h2, List.pairwise_singleton _ _, fun a ha' b hb => ?_⟩⟩
    · rcases List.mem_append.1 hs with hs | hs
      · exact h1 s hs
      · rw [List.mem_singleton] at hs
        rw [hs]; exact hx
    · rw [List.mem_singleton] at hb
      subst hb
      refine ⟨ha a ha', fun hj2 => ?_⟩
      rcases List.mem_append.1 ha' with hp | hp
      · have k1 := ((List.pairwise_append.1 h2).2.2 a hp e (by simp)).1
        have k2 := ha e (by simp)
        have k3 := (h1 e (by simp)).2.2.1
        obtain ⟨j1, j2, _⟩ := hj2
        unfold ahS at *
        omega
      · rw [List.mem_singleton] at hp
        rw [hp] at hj2
        exact hj hj2
/-- What holds as one table is put over another: o is made, v is left of the one above, T of the one below. -/
structure Iv (st : Bool) (o v T : List Sp) : Prop where
  co : Cn st o
  cv : Cn st v
  sT : ∀ s ∈ T, Sn st s
  pT : T.Pairwise ahS
  ov : ∀ e ∈ o, ∀ x ∈ v, ahS e x
  oT : ∀ e ∈ o, ∀ x ∈ T, ahS e x
def mS (st : Bool) (o v T : List Sp) (n y : Int) : Option Int := (lastS st v n y).or ((lastS st T n y).or (lastS st o n y))
theorem Iv.up {o v T : List Sp} {x : Sp} (h : Iv st o (x :: v) T) (hx : ∀ z ∈ T, ahS x z) : Iv st (addL st o x) v T ∧ ∀ n y, mS st (addL st o x) v T n y = mS st o (x :: v) T n y := by
  have sx := h.cv.1 x List.mem_cons_self
  refine ⟨⟨addL_cn sx h.co (fun e he => h.ov e he x List.mem_cons_self), h.cv.tail, h.sT, h.pT, ?_, ?_⟩, fun n y => ?_⟩
  · intro e he z hz
    exact addL_ah (fun e he => h.ov e he z (List.mem_cons_of_mem _ hz)) ((List.pairwise_cons.1 h.cv.2).1 z hz).1 e he
  · intro e he z hz
    exact addL_ah (fun e he => h.oT e he z hz) (hx z hz) e he
  · unfold mS
    rw [addL_last sx h.co.1, lastS, Option.or_assoc]
    congr 1
    cases e : toS st x n y with
    | none => simp
    | some a =>
      rw [lastS_none.2 (fun z hz => (hx z hz).off e)]
      rfl
theorem addA_spec {s : Sp} {T : List Sp} : ∀ {v o : List Sp}, Iv st o v (s :: T) → Iv st (addA st o v s).1 (addA st o v s).2 (s :: T) ∧ (∀ n y, mS st (addA st o v s).1 (addA st o v s).2 (s :: T) n y = mS st o v (s :: T) n y) ∧ (∀ x ∈ (addA st o v s).2.head?, ¬ ahS x s) ∧ (addA st o v s).2 <:+ v
  | [], o, h => ⟨h, fun _ _ => rfl, by simp [addA], List.suffix_refl _⟩
  | x :: v, o, h => by
    rw [addA]
    split
    · rename_i hx
      obtain ⟨h1, h2⟩ := h.up (x := x) (fun z hz => by
        rcases List.mem_cons.1 hz with rfl | hz
        · exact hx
        · exact hx.trans ((List.pairwise_cons.1 h.pT).1 z hz) (h.sT s List.mem_cons_self).2.2.1)
      obtain ⟨g1, g2, g3, g4⟩ := addA_spec h1
      exact ⟨g1, fun n y => (g2 n y).trans (h2 n y), g3, g4.trans (List.suffix_cons _ _)⟩
    · rename_i hx
      exact ⟨h, fun _ _ => rfl, fun z hz => by simp at hz; rw [← hz]; exact hx, List.suffix_refl _⟩
theorem addA_lens {s : Sp} : ∀ {v o : List Sp}, (addA st o v s).1.length + (addA st o v s).2.length ≤ o.length + v.length ∧ (addA st o v s).2.length ≤ v.length
  | [], o => by simp [addA]
  | x :: v, o => by
    rw [addA]
    split
    · have h1 := addA_lens (s := s) (v := v) (o := addL st o x)
      have h2 := addL_length (st := st) o x
      simp only [List.length_cons]
      omega
    · simp
theorem Iv.part {o v T : List Sp} {p : Sp} (h : Iv st o v (p :: T)) (hd : ∀ x ∈ v, ahS p x ∨ ahS x p) : Iv st (stepP st (o, v) p).1 (stepP st (o, v) p).2 T ∧ (∀ n y, mS st (stepP st (o, v) p).1 (stepP st (o, v) p).2 T n y = mS st o v (p :: T) n y) ∧ (stepP st (o, v) p).2 <:+ v := by
  obtain ⟨g1, g2, g3, g4⟩ := addA_spec h
  show Iv st (addL st (addA st o v p).1 p) (addA st o v p).2 T ∧ (∀ n y, mS st (addL st (addA st o v p).1 p) (addA st o v p).2 T n y = mS st o v (p :: T) n y) ∧ (addA st o v p).2 <:+ v
  generalize (addA st o v p).1 = o1 at *
  generalize (addA st o v p).2 = v1 at *
  have sp := h.sT p List.mem_cons_self
  have hp : ∀ x ∈ v1, ahS p x := by
    cases v1 with
    | nil => intro x hx; cases hx
    | cons x0 v2 =>
      have k0 : ahS p x0 := (hd x0 (g4.subset List.mem_cons_self)).resolve_right (g3 x0 (by simp))
      intro x hx
      rcases List.mem_cons.1 hx with rfl | hx
      · exact k0
      · exact k0.trans ((List.pairwise_cons.1 g1.cv.2).1 x hx).1 (g1.cv.lo List.mem_cons_self)
  refine ⟨⟨addL_cn sp g1.co (fun e he => g1.oT e he p List.mem_cons_self), g1.cv, fun s hs => h.sT s (List.mem_cons_of_mem _ hs), (List.pairwise_cons.1 h.pT).2, ?_, ?_⟩, fun n y => ?_, g4⟩
  · intro e he z hz
    exact addL_ah (fun e he => g1.ov e he z hz) (hp z hz) e he
  · intro e he z hz
    exact addL_ah (fun e he => g1.oT e he z (List.mem_cons_of_mem _ hz)) ((List.pairwise_cons.1 h.pT).1 z hz) e he
  · rw [← g2]
    unfold mS
    rw [addL_last sp g1.co.1, lastS, Option.or_assoc]
theorem Iv.parts {T : List Sp} : ∀ {P o v : List Sp}, Iv st o v (P ++ T) → (∀ p ∈ P, ∀ x ∈ v, ahS p x ∨ ahS x p) → Iv st (P.foldl (stepP st) (o, v)).1 (P.foldl (stepP st) (o, v)).2 T ∧ (∀ n y, mS st (P.foldl (stepP st) (o, v)).1 (P.foldl (stepP st) (o, v)).2 T n y = mS st o v (P ++ T) n y)
  | [], o, v, h, _ => ⟨h, fun _ _ => rfl⟩
  | p :: P, o, v, h, hd => by
    obtain ⟨g1, g2, g3⟩ := h.part (hd p List.mem_cons_self)
    obtain ⟨k1, k2⟩ := Iv.parts g1 (fun q hq x hx => hd q (List.mem_cons_of_mem _ hq) x (g3.subset hx))
    exact ⟨k1, fun n y => (k2 n y).trans (g2 n y)⟩
theorem part_goes (s : Sp) (lo hi v : Int) : goesS st (partS st s lo hi) v = goesS st s v := by
  unfold partS
  cases st
  · rfl
  · simp only [goesS, if_true]
    omega
theorem Sn.goes {s : Sp} (hs : Sn st s) {v : Int} (h1 : s.lo ≤ v) (h2 : v ≤ s.hi) : 0 ≤ goesS st s v ∧ goesS st s v ≤ 65535 := by
  obtain ⟨_, _, s3, s4, s5, s6⟩ := hs
  cases st
  · exact ⟨s4, s5⟩
  · simp only [goesS, if_true] at *
    omega
theorem part_sn {s : Sp} (hs : Sn st s) {lo hi : Int} (h1 : s.lo ≤ lo) (h2 : lo ≤ hi) (h3 : hi ≤ s.hi) : Sn st (partS st s lo hi) := by
  have g1 := hs.goes h1 (by omega)
  have g2 := hs.goes (v := hi) (by omega) h3
  rw [← part_goes s lo hi] at g2
  obtain ⟨s1, s2, s3, s4, s5, s6⟩ := hs
  exact ⟨(show saneB s.n lo = true from saneB_mid s1 s2 h1 (by omega)), (show saneB s.n hi = true from saneB_mid s1 s2 (by omega) h3), h2, g1.1, g1.2, g2.2⟩
theorem leftG_spec {s : Sp} (hs : Sn st s) : ∀ (cs : List Sp) (lo : Int), (∀ c ∈ cs, Sn st c) → cs.Pairwise ahS → s.lo ≤ lo → (∀ c ∈ cs, s.n < c.n ∨ (s.n = c.n ∧ lo ≤ c.hi)) →
    (∀ p ∈ leftG st s lo cs, ∃ a b, p = partS st s a b ∧ lo ≤ a ∧ a ≤ b ∧ b ≤ s.hi) ∧ (leftG st s lo cs).Pairwise ahS ∧ (∀ p ∈ leftG st s lo cs, ∀ c ∈ cs, ahS p c ∨ ahS c p) ∧
    (∀ n v, lo ≤ v → (lastS st cs n v).or (lastS st (leftG st s lo cs) n v) = (lastS st cs n v).or (toS st s n v)) := by
  have last : ∀ lo : Int, s.lo ≤ lo → (∀ p ∈ (if lo ≤ s.hi then [partS st s lo s.hi] else []), p = partS st s lo s.hi ∧ lo ≤ s.hi) ∧ (if lo ≤ s.hi then [partS st s lo s.hi] else []).Pairwise ahS ∧ (∀ n v, lo ≤ v → lastS st (if lo ≤ s.hi then [partS st s lo s.hi] else []) n v = toS st s n v) := fun lo hlo => by
    split
    · rename_i h
      refine ⟨fun p hp => ⟨by simpa using hp, h⟩, List.pairwise_singleton _ _, fun n v hv => ?_⟩
      simp only [lastS, Option.none_or]
      by_cases k : n = s.n ∧ v ≤ s.hi
      · rw [toS_some.2 ⟨part_sn hs hlo h (Int.le_refl _), k.1, hv, k.2, rfl⟩, toS_some.2 ⟨hs, k.1, by omega, k.2, rfl⟩, part_goes]
      · rw [toS_none (s := s) (by omega), toS_none (s := partS st s lo s.hi) (fun k2 => k ⟨k2.1, k2.2.2⟩)]
    · refine ⟨fun p hp => by simp at hp, List.Pairwise.nil, fun n v hv => ?_⟩
      rw [toS_none (by omega)]
      rfl
  intro cs
  induction cs with
  | nil =>
    intro lo _ _ hlo _
    obtain ⟨l1, l2, l3⟩ := last lo hlo
    rw [leftG]
    refine ⟨fun p hp => ?_, l2, fun p hp c hc => (by cases hc), fun n v hv => by rw [l3 n v hv]⟩
    obtain ⟨e, h⟩ := l1 p hp
    exact ⟨lo, s.hi, e, Int.le_refl _, h, Int.le_refl _⟩
  | cons c cs ih =>
    intro lo hsn hpw hlo hH
    rw [leftG]
    have sc := hsn c List.mem_cons_self
    have hpc := List.pairwise_cons.1 hpw
    split
    · rename_i ha
      obtain ⟨l1, l2, l3⟩ := last lo hlo
      refine ⟨fun p hp => ?_, l2, fun p hp d hd => ?_, fun n v hv => by rw [l3 n v hv]⟩
      · obtain ⟨e, h⟩ := l1 p hp
        exact ⟨lo, s.hi, e, Int.le_refl _, h, Int.le_refl _⟩
      · obtain ⟨e, h⟩ := l1 p hp
        subst e
        left
        have had : ahS s d := by
          rcases List.mem_cons.1 hd with rfl | hd
          · exact ha
          · exact ha.trans (hpc.1 d hd) sc.2.2.1
        exact had
    · rename_i ha
      have hc := hH c List.mem_cons_self
      have hcn : s.n = c.n ∧ lo ≤ c.hi ∧ c.lo ≤ s.hi := by unfold ahS at ha; omega
      have hH2 : ∀ d ∈ cs, s.n < d.n ∨ (s.n = d.n ∧ c.hi + 1 ≤ d.hi) := fun d hd => by
        have h1 := hpc.1 d hd
        have h2 := (hsn d (List.mem_cons_of_mem _ hd)).2.2.1
        unfold ahS at h1
        omega
      obtain ⟨i1, i2, i3, i4⟩ := ih (c.hi + 1) (fun d hd => hsn d (List.mem_cons_of_mem _ hd)) hpc.2 (by omega) hH2
      have p0 : ∀ p ∈ (if lo < c.lo then [partS st s lo (c.lo - 1)] else []), p = partS st s lo (c.lo - 1) ∧ lo < c.lo := fun p hp => by
        split at hp
        · rename_i h
          exact ⟨by simpa using hp, h⟩
        · simp at hp
      have hcl := sc.2.2.1
      refine ⟨fun p hp => ?_, List.pairwise_append.2 ⟨?_, i2, fun a ha b hb => ?_⟩, fun p hp d hd => ?_, fun n v hv => ?_⟩
      · rcases List.mem_append.1 hp with hp | hp
        · obtain ⟨e, h⟩ := p0 p hp
          exact ⟨lo, c.lo - 1, e, Int.le_refl _, by omega, by omega⟩
        · obtain ⟨a, b, e, h1, h2, h3⟩ := i1 p hp
          exact ⟨a, b, e, by omega, h2, h3⟩
      · split
        · exact List.pairwise_singleton _ _
        · exact List.Pairwise.nil
      · obtain ⟨e, h⟩ := p0 a ha
        obtain ⟨x, y, e2, h1, h2, h3⟩ := i1 b hb
        subst e e2
        right
        exact ⟨rfl, by show c.lo - 1 < x; omega⟩
      · rcases List.mem_append.1 hp with hp | hp
        · obtain ⟨e, h⟩ := p0 p hp
          subst e
          left
          have k : ahS (partS st s lo (c.lo - 1)) c := .inr ⟨hcn.1, by show c.lo - 1 < c.lo; omega⟩
          rcases List.mem_cons.1 hd with rfl | hd
          · exact k
          · exact k.trans (hpc.1 d hd) hcl
        · rcases List.mem_cons.1 hd with rfl | hd
          · obtain ⟨x, y, e2, h1, h2, h3⟩ := i1 p hp
            subst e2
            right
            exact .inr ⟨hcn.1.symm, by show d.hi < x; omega⟩
          · exact i3 p hp d hd
      · rw [lastS_append, lastS]
        by_cases k : v ≤ c.hi
        · have z1 : lastS st (leftG st s (c.hi + 1) cs) n v = none := lastS_none.2 fun p hp => by
            obtain ⟨x, y, e2, h1, h2, h3⟩ := i1 p hp
            subst e2
            exact toS_none fun q => by have : x ≤ v := q.2.1; omega
          rw [z1, Option.none_or]
          by_cases k2 : c.lo ≤ v
          · by_cases kn : n = c.n
            · rw [toS_some.2 ⟨sc, kn, k2, k, rfl⟩]
              cases lastS st cs n v <;> rfl
            · rw [toS_none (s := s) (by omega), (lastS_none (l := if lo < c.lo then [partS st s lo (c.lo - 1)] else [])).2 fun p hp => ?_]
              obtain ⟨e, h⟩ := p0 p hp
              subst e
              exact toS_none fun q => kn (q.1.trans hcn.1)
          · rw [if_pos (by omega)]
            simp only [lastS, Option.none_or]
            by_cases kn : n = s.n
            · rw [toS_some.2 ⟨part_sn hs hlo (by omega) (by omega), kn, hv, by show v ≤ c.lo - 1; omega, rfl⟩, toS_some.2 ⟨hs, kn, by omega, by omega, rfl⟩, part_goes]
            · rw [toS_none (s := s) (by omega), toS_none (s := partS st s lo (c.lo - 1)) (fun q => kn q.1)]
        · have z1 : lastS st (if lo < c.lo then [partS st s lo (c.lo - 1)] else []) n v = none := lastS_none.2 fun p hp => by
            obtain ⟨e, h⟩ := p0 p hp
            subst e
            exact toS_none fun q => by have : v ≤ c.lo - 1 := q.2.2; omega
          rw [z1, Option.or_none, toS_none (s := c) (by omega), Option.or_none]
          exact i4 n v (by omega)
theorem leftG_length (s : Sp) : ∀ (cs : List Sp) (lo : Int), (leftG st s lo cs).length ≤ cs.length + 1
  | [], lo => by
    rw [leftG]
    split <;> simp
  | c :: cs, lo => by
    have := leftG_length s cs (c.hi + 1)
    rw [leftG]
    split
    · split <;> simp
    · rw [List.length_append]
      split <;> simp <;> omega
theorem Iv.cut {o v T : List Sp} {s : Sp} (h : Iv st o v (s :: T)) (hv : ∀ x ∈ v.head?, ¬ ahS x s) : Iv st o v (leftG st s s.lo v ++ T) ∧ (∀ n y, mS st o v (leftG st s s.lo v ++ T) n y = mS st o v (s :: T) n y) ∧ (∀ p ∈ leftG st s s.lo v, ∀ x ∈ v, ahS p x ∨ ahS x p) := by
  have ss := h.sT s List.mem_cons_self
  have hH : ∀ c ∈ v, s.n < c.n ∨ (s.n = c.n ∧ s.lo ≤ c.hi) := by
    cases v with
    | nil => intro c hc; cases hc
    | cons x v =>
      have hx := hv x (by simp)
      intro c hc
      rcases List.mem_cons.1 hc with rfl | hc
      · unfold ahS at hx; omega
      · have h1 := ((List.pairwise_cons.1 h.cv.2).1 c hc).1
        have h2 := h.cv.lo (s := c) (List.mem_cons_of_mem _ hc)
        unfold ahS at hx h1
        omega
  obtain ⟨i1, i2, i3, i4⟩ := leftG_spec ss v s.lo h.cv.1 h.cv.ah (Int.le_refl _) hH
  have hpT := List.pairwise_cons.1 h.pT
  refine ⟨⟨h.co, h.cv, fun p hp => ?_, List.pairwise_append.2 ⟨i2, hpT.2, fun p hp z hz => ?_⟩, h.ov, fun e he p hp => ?_⟩, fun n y => ?_, i3⟩
  · rcases List.mem_append.1 hp with hp | hp
    · obtain ⟨a, b, rfl, h1, h2, h3⟩ := i1 p hp
      exact part_sn ss h1 h2 h3
    · exact h.sT p (List.mem_cons_of_mem _ hp)
  · obtain ⟨a, b, rfl, h1, h2, h3⟩ := i1 p hp
    have := hpT.1 z hz
    unfold ahS at *
    show s.n < z.n ∨ s.n = z.n ∧ b < z.lo
    omega
  · rcases List.mem_append.1 hp with hp | hp
    · obtain ⟨a, b, rfl, h1, h2, h3⟩ := i1 p hp
      have := h.oT e he s List.mem_cons_self
      unfold ahS at *
      show e.n < s.n ∨ e.n = s.n ∧ e.hi < a
      omega
    · exact h.oT e he p (List.mem_cons_of_mem _ hp)
  · unfold mS
    rw [lastS_append, lastS]
    by_cases k : s.lo ≤ y
    · have := i4 n y k
      cases e : lastS st v n y with
      | some a => rfl
      | none =>
        rw [e, Option.none_or, Option.none_or] at this
        rw [this]
    · have z1 : lastS st (leftG st s s.lo v) n y = none := lastS_none.2 fun p hp => by
        obtain ⟨a, b, rfl, h1, h2, h3⟩ := i1 p hp
        exact toS_none fun q => by have : a ≤ y := q.2.1; omega
      rw [z1, toS_none (s := s) (by omega)]
theorem Iv.one {o v T : List Sp} {s : Sp} (h : Iv st o v (s :: T)) : Iv st (stepS st (o, v) s).1 (stepS st (o, v) s).2 T ∧ (∀ n y, mS st (stepS st (o, v) s).1 (stepS st (o, v) s).2 T n y = mS st o v (s :: T) n y) := by
  obtain ⟨g1, g2, g3, _⟩ := addA_spec h
  obtain ⟨k1, k2, k3⟩ := g1.cut g3
  obtain ⟨m1, m2⟩ := k1.parts k3
  exact ⟨m1, fun n y => ((m2 n y).trans (k2 n y)).trans (g2 n y)⟩
theorem Iv.all : ∀ {T o v : List Sp}, Iv st o v T → Iv st (T.foldl (stepS st) (o, v)).1 (T.foldl (stepS st) (o, v)).2 [] ∧ (∀ n y, mS st (T.foldl (stepS st) (o, v)).1 (T.foldl (stepS st) (o, v)).2 [] n y = mS st o v T n y)
  | [], _, _, h => ⟨h, fun _ _ => rfl⟩
  | s :: T, o, v, h => by
    obtain ⟨g1, g2⟩ := h.one
    obtain ⟨k1, k2⟩ := Iv.all g1
    exact ⟨k1, fun n y => (k2 n y).trans (g2 n y)⟩
theorem Iv.rest : ∀ {v o : List Sp}, Iv st o v [] → Cn st (v.foldl (addL st) o) ∧ ∀ n y, lastS st (v.foldl (addL st) o) n y = mS st o v [] n y
  | [], o, h => ⟨h.co, fun n y => by simp [mS, lastS]⟩
  | x :: v, o, h => by
    obtain ⟨g1, g2⟩ := h.up (by simp)
    obtain ⟨k1, k2⟩ := Iv.rest g1
    exact ⟨k1, fun n y => (k2 n y).trans (g2 n y)⟩
theorem overL_spec {t over : List Sp} (ht : Cn st t) (hv : Cn st over) : Cn st (overL st t over) ∧ ∀ n y, lastS st (overL st t over) n y = (lastS st over n y).or (lastS st t n y) := by
  obtain ⟨g1, g2⟩ := Iv.all (st := st) (T := t) (o := []) (v := over) ⟨Cn.nil, hv, ht.1, ht.ah, by simp, by simp⟩
  obtain ⟨k1, k2⟩ := g1.rest
  exact ⟨k1, fun n y => ((k2 n y).trans (g2 n y)).trans (by simp [mS, lastS])⟩
end
end Go.Proofs.Ytdlkgcbiekilhaa
