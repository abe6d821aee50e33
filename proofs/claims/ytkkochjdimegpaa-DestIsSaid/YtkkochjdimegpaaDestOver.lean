/-
  Layer 8 as plain lists: one table of two, the second of which overrides, step by step.
-/
import Derived.Test.YtkkochjdimegpaaDestPure
namespace Go.Proofs.Ytkkochjdimegpaa

def partB (s : Bp) (lo hi : Int) : Bp := ⟨s.n, lo, hi, goB s lo⟩
/-- One more at the end of a table. -/
def addE (o : List Bp) (x : Bp) : List Bp :=
  match o.getLast? with
  | none => [x]
  | some e => if jnB e x then o.dropLast ++ [{ e with hi := x.hi }] else o ++ [x]

section
theorem addE_nil (x : Bp) : addE [] x = [x] := rfl
theorem addE_snoc (p : List Bp) (e x : Bp) : addE (p ++ [e]) x = if jnB e x then p ++ [{ e with hi := x.hi }] else p ++ [e] ++ [x] := by
  unfold addE
  rw [List.getLast?_concat, List.dropLast_concat]
theorem addE_ind {o : List Bp} {x : Bp} {C : List Bp → List Bp → Prop} (h0 : C [] [x]) (h1 : ∀ p e, jnB e x → C (p ++ [e]) (p ++ [{ e with hi := x.hi }])) (h2 : ∀ p e, ¬ jnB e x → C (p ++ [e]) (p ++ [e] ++ [x])) : C o (addE o x) := by
  rcases List.eq_nil_or_concat o with rfl | ⟨p, e, rfl⟩
  · exact h0
  · rw [List.concat_eq_append, addE_snoc]
    split
    · exact h1 _ _ ‹_›
    · exact h2 _ _ ‹_›
theorem addE_length (o : List Bp) (x : Bp) : (addE o x).length ≤ o.length + 1 :=
  addE_ind (C := fun o r => r.length ≤ o.length + 1) (by simp) (by simp) (by simp)
theorem addE_ah {o : List Bp} {x z : Bp} (ho : ∀ e ∈ o, ahB e z) (hx : ahB x z) : ∀ e ∈ addE o x, ahB e z := by
  revert ho
  refine addE_ind (C := fun o r => (∀ e ∈ o, ahB e z) → ∀ e ∈ r, ahB e z) ?_ ?_ ?_
  · intro _ e he
    rw [List.mem_singleton] at he
    rw [he]; exact hx
  · intro p e hj ho q hq
    rcases List.mem_append.1 hq with hq | hq
    · exact ho q (List.mem_append_left _ hq)
    · rw [List.mem_singleton] at hq
      subst hq
      have := hj.1
      unfold ahB at *
      show e.n < z.n ∨ e.n = z.n ∧ x.hi < z.lo
      rw [this]
      exact hx
  · intro p e hj ho q hq
    rcases List.mem_append.1 hq with hq | hq
    · exact ho q hq
    · rw [List.mem_singleton] at hq
      rw [hq]; exact hx
theorem goB_goB {e x : Bp} (hj : jnB e x) (v : Int) : goB x v = goB e v := by
  unfold goB
  rw [hj.2.2, goB, addU_add]
  congr 1
  omega
theorem lastU_goB {s : Bp} (h : okU s.u) (v : Int) : lastU (goB s v) = lastU s.u + (v - s.lo) := lastU_add h.ne _
theorem joinB_sn {e x : Bp} (he : Sb e) (hx : Sb x) (hj : jnB e x) : Sb { e with hi := x.hi } := by
  obtain ⟨e1, e2, e3, e4, e5⟩ := he
  obtain ⟨x1, x2, x3, x4, x5⟩ := hx
  have hl : lastU x.u = lastU e.u + (x.lo - e.lo) := by rw [hj.2.2]; exact lastU_goB e4 _
  obtain ⟨j1, j2, j3⟩ := hj
  refine ⟨e1, by rw [j1]; exact x2, ?_, e4, ?_⟩
  · show e.lo ≤ x.hi
    omega
  · show lastU e.u + (x.hi - e.lo) ≤ 65535
    omega
theorem joinB_to {e x : Bp} (he : Sb e) (hx : Sb x) (hj : jnB e x) (n v : Int) : toB { e with hi := x.hi } n v = (toB x n v).or (toB e n v) := by
  have hm := joinB_sn he hx hj
  have hg := goB_goB hj
  obtain ⟨j1, j2, j3⟩ := hj
  have he3 := he.2.2.1
  have hx3 := hx.2.2.1
  by_cases k : n = e.n ∧ e.lo ≤ v ∧ v ≤ x.hi
  · rw [toB_some.2 ⟨hm, k.1, k.2.1, k.2.2, rfl⟩]
    by_cases k2 : x.lo ≤ v
    · rw [toB_some.2 ⟨hx, by omega, k2, k.2.2, rfl⟩, hg]
      rfl
    · rw [toB_none (s := x) (by omega), toB_some.2 ⟨he, k.1, k.2.1, by omega, rfl⟩]
      rfl
  · rw [toB_none (s := { e with hi := x.hi }) k, toB_none (s := x) (by omega), toB_none (s := e) (by omega)]
    rfl
theorem addE_last {o : List Bp} {x : Bp} (hx : Sb x) (ho : ∀ e ∈ o, Sb e) (n v : Int) : lastB (addE o x) n v = (toB x n v).or (lastB o n v) := by
  revert ho
  refine addE_ind (C := fun o r => (∀ e ∈ o, Sb e) → lastB r n v = (toB x n v).or (lastB o n v)) ?_ ?_ ?_
  · intro _
    simp [lastB]
  · intro p e hj ho
    rw [lastB_append, lastB_append, ← Option.or_assoc]
    congr 1
    simp only [lastB, Option.none_or]
    exact joinB_to (ho e (by simp)) hx hj n v
  · intro p e hj ho
    rw [lastB_append _ [x]]
    simp [lastB]
theorem addE_cn {o : List Bp} {x : Bp} (hx : Sb x) (ho : Ct o) (ha : ∀ e ∈ o, ahB e x) : Ct (addE o x) := by
  revert ho ha
  refine addE_ind (C := fun o r => Ct o → (∀ e ∈ o, ahB e x) → Ct r) ?_ ?_ ?_
  · intro _ _
    exact ⟨fun s hs => by rw [List.mem_singleton] at hs; rw [hs]; exact hx, List.pairwise_singleton _ _⟩
  · intro p e hj ho _
    obtain ⟨h1, h2⟩ := ho
    rw [List.pairwise_append] at h2
    refine ⟨fun s hs => ?_, List.pairwise_append.2 ⟨h2.1, List.pairwise_singleton _ _, fun a ha b hb => ?_⟩⟩
    · rcases List.mem_append.1 hs with hs | hs
      · exact h1 s (List.mem_append_left _ hs)
      · rw [List.mem_singleton] at hs
        rw [hs]
        exact joinB_sn (h1 e (by simp)) hx hj
    · rw [List.mem_singleton] at hb
      subst hb
      exact h2.2.2 a ha e (by simp)
  · intro p e hj ho ha
    obtain ⟨h1, h2⟩ := ho
    refine ⟨fun s hs => ?_, List.pairwise_append.2 ⟨h2, List.pairwise_singleton _ _, fun a ha' b hb => ?_⟩⟩
    · rcases List.mem_append.1 hs with hs | hs
      · exact h1 s hs
      · rw [List.mem_singleton] at hs
        rw [hs]; exact hx
    · rw [List.mem_singleton] at hb
      subst hb
      refine ⟨ha a ha', fun hj2 => ?_⟩
      rcases List.mem_append.1 ha' with hp | hp
      · have k1 := ((List.pairwise_append.1 h2).2.2 a hp e (by simp)).1
        have k2 := ha e (by simp)
        have k3 := (h1 e (by simp)).2.2.1
        obtain ⟨j1, j2, _⟩ := hj2
        unfold ahB at *
        omega
      · rw [List.mem_singleton] at hp
        rw [hp] at hj2
        exact hj hj2
/-- What holds as one table is put over another: o is made, v is left of the one above, T of the one below. -/
structure IvB (o v T : List Bp) : Prop where
  co : Ct o
  cv : Ct v
  sT : ∀ s ∈ T, Sb s
  pT : T.Pairwise ahB
  ov : ∀ e ∈ o, ∀ x ∈ v, ahB e x
  oT : ∀ e ∈ o, ∀ x ∈ T, ahB e x
def mB (o v T : List Bp) (n y : Int) : Option (List Int) := (lastB v n y).or ((lastB T n y).or (lastB o n y))
theorem IvB.up {o v T : List Bp} {x : Bp} (h : IvB o (x :: v) T) (hx : ∀ z ∈ T, ahB x z) : IvB (addE o x) v T ∧ ∀ n y, mB (addE o x) v T n y = mB o (x :: v) T n y := by
  have sx := h.cv.1 x List.mem_cons_self
  refine ⟨⟨addE_cn sx h.co (fun e he => h.ov e he x List.mem_cons_self), h.cv.tail, h.sT, h.pT, ?_, ?_⟩, fun n y => ?_⟩
  · intro e he z hz
    exact addE_ah (fun e he => h.ov e he z (List.mem_cons_of_mem _ hz)) ((List.pairwise_cons.1 h.cv.2).1 z hz).1 e he
  · intro e he z hz
    exact addE_ah (fun e he => h.oT e he z hz) (hx z hz) e he
  · unfold mB
    rw [addE_last sx h.co.1, lastB, Option.or_assoc]
    congr 1
    cases e : toB x n y with
    | none => simp
    | some a =>
      rw [lastB_none.2 (fun z hz => (hx z hz).off e)]
      rfl
theorem IvB.low {o v T : List Bp} {a : Bp} (h : IvB o v (a :: T)) (ha : ∀ x ∈ v, ahB a x) : IvB (addE o a) v T ∧ ∀ n y, mB (addE o a) v T n y = mB o v (a :: T) n y := by
  have sa := h.sT a List.mem_cons_self
  refine ⟨⟨addE_cn sa h.co (fun e he => h.oT e he a List.mem_cons_self), h.cv, fun s hs => h.sT s (List.mem_cons_of_mem _ hs), (List.pairwise_cons.1 h.pT).2, ?_, ?_⟩, fun n y => ?_⟩
  · intro e he z hz
    exact addE_ah (fun e he => h.ov e he z hz) (ha z hz) e he
  · intro e he z hz
    exact addE_ah (fun e he => h.oT e he z (List.mem_cons_of_mem _ hz)) ((List.pairwise_cons.1 h.pT).1 z hz) e he
  · unfold mB
    rw [addE_last sa h.co.1, lastB, Option.or_assoc]
theorem part_goB (s : Bp) (lo hi v : Int) : goB (partB s lo hi) v = goB s v := by
  unfold partB
  show addU (goB s lo) (v - lo) = _
  rw [← goB_add]
  congr 1
  omega
theorem partB_sn {s : Bp} (hs : Sb s) {lo hi : Int} (h1 : s.lo ≤ lo) (h2 : lo ≤ hi) (h3 : hi ≤ s.hi) : Sb (partB s lo hi) := by
  obtain ⟨s1, s2, s3, s4, s5⟩ := hs
  have hl := s4.last
  refine ⟨(show saneB s.n lo = true from saneB_mid s1 s2 h1 (by omega)), (show saneB s.n hi = true from saneB_mid s1 s2 (by omega) h3), h2, s4.add (by omega) (by omega), ?_⟩
  show lastU (goB s lo) + (hi - lo) ≤ 65535
  rw [lastU_goB s4]
  omega
theorem partB_self (s : Bp) : partB s s.lo s.hi = s := by
  unfold partB
  rw [goB_lo]
theorem partB_up (s : Bp) (hi : Int) : { s with hi := hi } = partB s s.lo hi := by
  unfold partB
  rw [goB_lo]
theorem partB_to {s : Bp} (hs : Sb s) {m : Int} (h1 : s.lo < m) (h2 : m ≤ s.hi) (n v : Int) : toB s n v = (toB (partB s m s.hi) n v).or (toB (partB s s.lo (m - 1)) n v) := by
  by_cases k : n = s.n ∧ s.lo ≤ v ∧ v ≤ s.hi
  · rw [toB_some.2 ⟨hs, k.1, k.2.1, k.2.2, rfl⟩]
    by_cases k2 : m ≤ v
    · rw [toB_some.2 ⟨partB_sn hs (by omega) h2 (Int.le_refl _), k.1, k2, k.2.2, rfl⟩, part_goB]
      rfl
    · rw [toB_none (s := partB s m s.hi) (fun q => k2 q.2.1), toB_some.2 ⟨partB_sn hs (Int.le_refl _) (by omega) (by omega), k.1, k.2.1, (by show v ≤ m - 1; omega), rfl⟩, part_goB]
      rfl
  · rw [toB_none k, toB_none (s := partB s m s.hi) (fun q => k ⟨q.1, by have : m ≤ v := q.2.1; omega, q.2.2⟩), toB_none (s := partB s s.lo (m - 1)) (fun q => k ⟨q.1, q.2.1, by have : v ≤ m - 1 := q.2.2; omega⟩)]
    rfl
theorem IvB.split {o v T : List Bp} {a : Bp} (h : IvB o v (a :: T)) {m : Int} (h1 : a.lo < m) (h2 : m ≤ a.hi) : IvB o v (partB a a.lo (m - 1) :: partB a m a.hi :: T) ∧ ∀ n y, mB o v (partB a a.lo (m - 1) :: partB a m a.hi :: T) n y = mB o v (a :: T) n y := by
  have sa := h.sT a List.mem_cons_self
  have hp := List.pairwise_cons.1 h.pT
  refine ⟨⟨h.co, h.cv, fun s hs => ?_, List.pairwise_cons.2 ⟨fun z hz => ?_, List.pairwise_cons.2 ⟨fun z hz => ?_, hp.2⟩⟩, h.ov, fun e he z hz => ?_⟩, fun n y => ?_⟩
  · rcases List.mem_cons.1 hs with rfl | hs
    · exact partB_sn sa (Int.le_refl _) (by omega) (by omega)
    · rcases List.mem_cons.1 hs with rfl | hs
      · exact partB_sn sa (by omega) h2 (Int.le_refl _)
      · exact h.sT s (List.mem_cons_of_mem _ hs)
  · rcases List.mem_cons.1 hz with rfl | hz
    · exact .inr ⟨rfl, by show m - 1 < m; omega⟩
    · have := hp.1 z hz
      unfold ahB at *
      show a.n < z.n ∨ a.n = z.n ∧ m - 1 < z.lo
      omega
  · exact hp.1 z hz
  · have k := h.oT e he a List.mem_cons_self
    rcases List.mem_cons.1 hz with rfl | hz
    · exact k
    · rcases List.mem_cons.1 hz with rfl | hz
      · unfold ahB at *
        show e.n < a.n ∨ e.n = a.n ∧ e.hi < m
        omega
      · exact h.oT e he z (List.mem_cons_of_mem _ hz)
  · unfold mB
    rw [lastB, lastB, lastB, partB_to sa h1 h2]
    simp only [Option.or_assoc]
theorem IvB.skip {o v T : List Bp} {a b : Bp} (h : IvB o v (a :: T)) (hb : b ∈ v) (h0 : a.n = b.n) (h1 : b.lo ≤ a.lo) (h2 : a.hi ≤ b.hi) : IvB o v T ∧ ∀ n y, mB o v T n y = mB o v (a :: T) n y := by
  refine ⟨⟨h.co, h.cv, fun s hs => h.sT s (List.mem_cons_of_mem _ hs), (List.pairwise_cons.1 h.pT).2, h.ov, fun e he z hz => h.oT e he z (List.mem_cons_of_mem _ hz)⟩, fun n y => ?_⟩
  unfold mB
  rw [lastB]
  by_cases k : n = a.n ∧ a.lo ≤ y ∧ y ≤ a.hi
  · have := h.cv.of (v := y) hb (by omega) (by omega)
    rw [show n = b.n by omega, this]
    rfl
  · rw [toB_none k, Option.or_none]
/-- One step: what holds of the cut parts. -/
theorem IvB.cutLo {o v T : List Bp} {a b : Bp} (h : IvB o (b :: v) (a :: T)) (h0 : a.n = b.n) (h1 : a.lo < b.lo) (h2 : b.lo ≤ a.hi) : IvB (addE o (partB a a.lo (b.lo - 1))) (b :: v) (partB a b.lo a.hi :: T) ∧ ∀ n y, mB (addE o (partB a a.lo (b.lo - 1))) (b :: v) (partB a b.lo a.hi :: T) n y = mB o (b :: v) (a :: T) n y := by
  obtain ⟨g1, g2⟩ := h.split h1 h2
  have hab : ahB (partB a a.lo (b.lo - 1)) b := .inr ⟨h0, by show b.lo - 1 < b.lo; omega⟩
  obtain ⟨k1, k2⟩ := g1.low fun x hx => by
    rcases List.mem_cons.1 hx with rfl | hx
    · exact hab
    · exact hab.trans ((List.pairwise_cons.1 h.cv.2).1 x hx).1 (h.cv.lo List.mem_cons_self)
  exact ⟨k1, fun n y => (k2 n y).trans (g2 n y)⟩
theorem IvB.cutHi {o v T : List Bp} {a b : Bp} (h : IvB o (b :: v) (a :: T)) (h0 : a.n = b.n) (h1 : b.lo ≤ a.lo) (h2 : a.lo ≤ b.hi) (h3 : b.hi < a.hi) : IvB o (b :: v) (partB a (b.hi + 1) a.hi :: T) ∧ ∀ n y, mB o (b :: v) (partB a (b.hi + 1) a.hi :: T) n y = mB o (b :: v) (a :: T) n y := by
  obtain ⟨g1, g2⟩ := h.split (m := b.hi + 1) (by omega) (by omega)
  obtain ⟨k1, k2⟩ := g1.skip (b := b) List.mem_cons_self h0 h1 (by show b.hi + 1 - 1 ≤ b.hi; omega)
  exact ⟨k1, fun n y => (k2 n y).trans (g2 n y)⟩
theorem IvB.restV : ∀ {v o : List Bp}, IvB o v [] → Ct (v.foldl addE o) ∧ ∀ n y, lastB (v.foldl addE o) n y = mB o v [] n y
  | [], o, h => ⟨h.co, fun n y => by simp [mB, lastB]⟩
  | x :: v, o, h => by
    obtain ⟨g1, g2⟩ := h.up (by simp)
    obtain ⟨k1, k2⟩ := IvB.restV g1
    exact ⟨k1, fun n y => (k2 n y).trans (g2 n y)⟩
theorem IvB.restT : ∀ {T o : List Bp}, IvB o [] T → Ct (T.foldl addE o) ∧ ∀ n y, lastB (T.foldl addE o) n y = mB o [] T n y
  | [], o, h => ⟨h.co, fun n y => by simp [mB, lastB]⟩
  | x :: v, o, h => by
    obtain ⟨g1, g2⟩ := h.low (by simp)
    obtain ⟨k1, k2⟩ := IvB.restT g1
    exact ⟨k1, fun n y => (k2 n y).trans (g2 n y)⟩
theorem IvB.start {t over : List Bp} (ht : Ct t) (hv : Ct over) : IvB [] over t := ⟨Ct.nil, hv, ht.1, ht.ah, by simp, by simp⟩
/-- How far it is to the end. -/
def wid (T : List Bp) : Nat := (T.map fun s => (s.hi - s.lo + 1).toNat).sum
theorem wid_cons (a : Bp) (T : List Bp) : wid (a :: T) = (a.hi - a.lo + 1).toNat + wid T := by simp [wid]
end
end Go.Proofs.Ytkkochjdimegpaa
