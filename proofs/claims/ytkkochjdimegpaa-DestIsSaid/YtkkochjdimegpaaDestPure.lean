/-
  Layer 8 as plain lists: what an entry tells, what the last of some tells, tables; two tables that tell the same are one.
-/
import Derived.Test.YtkkochjdimegpaaSpanPure
namespace Go.Proofs.Ytkkochjdimegpaa

/-- Units, the last one so much more. -/
def addU : List Int → Int → List Int
  | [], _ => []
  | [x], d => [x + d]
  | x :: y :: l, d => x :: addU (y :: l) d
theorem addU_snoc : ∀ (l : List Int) (x d : Int), addU (l ++ [x]) d = l ++ [x + d]
  | [], _, _ => rfl
  | [_], _, _ => rfl
  | a :: b :: l, x, d => by
    show a :: addU (b :: l ++ [x]) d = _
    rw [addU_snoc (b :: l) x d]
    rfl
theorem addU_add : ∀ (l : List Int) (a b : Int), addU (addU l a) b = addU l (a + b) := fun l a b => by
  rcases List.eq_nil_or_concat l with rfl | ⟨p, e, rfl⟩
  · rfl
  · rw [List.concat_eq_append, addU_snoc, addU_snoc, addU_snoc, Int.add_assoc]
theorem addU_zero (l : List Int) : addU l 0 = l := by
  rcases List.eq_nil_or_concat l with rfl | ⟨p, e, rfl⟩
  · rfl
  · rw [List.concat_eq_append, addU_snoc, Int.add_zero]
theorem addU_length (l : List Int) (d : Int) : (addU l d).length = l.length := by
  rcases List.eq_nil_or_concat l with rfl | ⟨p, e, rfl⟩
  · rfl
  · rw [List.concat_eq_append, addU_snoc]; simp
/-- The last unit. -/
def lastU (l : List Int) : Int := l.getLast?.getD 0
theorem lastU_snoc (l : List Int) (x : Int) : lastU (l ++ [x]) = x := by simp [lastU]
theorem lastU_add {l : List Int} (h : l ≠ []) (d : Int) : lastU (addU l d) = lastU l + d := by
  rcases List.eq_nil_or_concat l with rfl | ⟨p, e, rfl⟩
  · exact absurd rfl h
  · rw [List.concat_eq_append, addU_snoc, lastU_snoc, lastU_snoc]
/-- Units that may be. -/
def okU (l : List Int) : Prop := 1 ≤ l.length ∧ l.length ≤ 64 ∧ ∀ x ∈ l, 0 ≤ x ∧ x ≤ 65535
instance (l : List Int) : Decidable (okU l) := inferInstanceAs (Decidable (_ ∧ _))
theorem okU.ne {l : List Int} (h : okU l) : l ≠ [] := by rintro rfl; exact absurd h.1 (by simp)
theorem okU.last {l : List Int} (h : okU l) : 0 ≤ lastU l ∧ lastU l ≤ 65535 := by
  rcases List.eq_nil_or_concat l with rfl | ⟨p, e, rfl⟩
  · exact absurd rfl h.ne
  · rw [List.concat_eq_append, lastU_snoc]
    exact h.2.2 e (by simp)
theorem okU.add {l : List Int} (h : okU l) {d : Int} (h0 : 0 ≤ lastU l + d) (h1 : lastU l + d ≤ 65535) : okU (addU l d) := by
  rcases List.eq_nil_or_concat l with rfl | ⟨p, e, rfl⟩
  · exact absurd rfl h.ne
  · rw [List.concat_eq_append] at *
    rw [lastU_snoc] at *
    obtain ⟨a, b, c⟩ := h
    rw [addU_snoc]
    refine ⟨by simp, by simpa using b, fun x hx => ?_⟩
    rcases List.mem_append.1 hx with hx | hx
    · exact c x (List.mem_append_left _ hx)
    · rw [List.mem_singleton] at hx
      rw [hx]; exact ⟨h0, h1⟩
/-- An entry. -/
structure Bp where
  n : Int
  lo : Int
  hi : Int
  u : List Int
deriving DecidableEq

def goB (s : Bp) (v : Int) : List Int := addU s.u (v - s.lo)
def Sb (s : Bp) : Prop := saneB s.n s.lo = true ∧ saneB s.n s.hi = true ∧ s.lo ≤ s.hi ∧ okU s.u ∧ lastU s.u + (s.hi - s.lo) ≤ 65535
instance (s : Bp) : Decidable (Sb s) := inferInstanceAs (Decidable (_ ∧ _))
def toB (s : Bp) (n v : Int) : Option (List Int) := if Sb s ∧ n = s.n ∧ s.lo ≤ v ∧ v ≤ s.hi then some (goB s v) else none
def lastB : List Bp → Int → Int → Option (List Int)
  | [], _, _ => none
  | s :: l, n, v => (lastB l n v).or (toB s n v)
def ahB (a b : Bp) : Prop := a.n < b.n ∨ (a.n = b.n ∧ a.hi < b.lo)
instance (a b : Bp) : Decidable (ahB a b) := inferInstanceAs (Decidable (_ ∨ _))
def jnB (a b : Bp) : Prop := a.n = b.n ∧ b.lo = a.hi + 1 ∧ b.u = goB a b.lo
instance (a b : Bp) : Decidable (jnB a b) := inferInstanceAs (Decidable (_ ∧ _))
def RqB (a b : Bp) : Prop := ahB a b ∧ ¬ jnB a b
/-- A table. -/
def Ct (l : List Bp) : Prop := (∀ s ∈ l, Sb s) ∧ l.Pairwise RqB

theorem goB_lo (s : Bp) : goB s s.lo = s.u := by
  unfold goB
  rw [Int.sub_self, addU_zero]
theorem goB_add (s : Bp) (u d : Int) : goB s (u + d) = addU (goB s u) d := by
  unfold goB
  rw [addU_add]
  congr 1
  omega
theorem ahB.trans {a b c : Bp} (h : ahB a b) (k : ahB b c) (hb : b.lo ≤ b.hi) : ahB a c := by
  unfold ahB at *
  omega
section
variable {n v : Int} {x : List Int}
theorem toB_some {s : Bp} : toB s n v = some x ↔ Sb s ∧ n = s.n ∧ s.lo ≤ v ∧ v ≤ s.hi ∧ x = goB s v := by
  unfold toB
  split
  · rename_i h
    constructor
    · intro e
      injection e with e
      exact ⟨h.1, h.2.1, h.2.2.1, h.2.2.2, e.symm⟩
    · rintro ⟨_, _, _, _, rfl⟩
      rfl
  · rename_i h
    constructor
    · intro e; cases e
    · rintro ⟨h1, h2, h3, h4, _⟩
      exact absurd ⟨h1, h2, h3, h4⟩ h
theorem toB_none {s : Bp} (h : ¬ (n = s.n ∧ s.lo ≤ v ∧ v ≤ s.hi)) : toB s n v = none := by
  unfold toB
  rw [if_neg (fun k => h k.2)]
theorem toB_yes {s : Bp} (h : Sb s) (h1 : s.lo ≤ v) (h2 : v ≤ s.hi) : toB s s.n v = some (goB s v) := toB_some.2 ⟨h, rfl, h1, h2, rfl⟩
theorem lastB_append (a b : List Bp) : lastB (a ++ b) n v = (lastB b n v).or (lastB a n v) := by
  induction a with
  | nil => simp [lastB]
  | cons s a ih => rw [List.cons_append, lastB, ih, lastB, Option.or_assoc]
theorem lastB_none {l : List Bp} : lastB l n v = none ↔ ∀ s ∈ l, toB s n v = none := by
  induction l with
  | nil => simp [lastB]
  | cons s l ih => rw [lastB, Option.or_eq_none_iff, ih]; simp [and_comm]
theorem lastB_mem {l : List Bp} (h : lastB l n v = some x) : ∃ s ∈ l, toB s n v = some x := by
  induction l with
  | nil => cases h
  | cons s l ih =>
    rw [lastB] at h
    cases e : lastB l n v with
    | some y =>
      rw [e] at h
      obtain ⟨q, hq, hx⟩ := ih (by rw [e]; exact h)
      exact ⟨q, List.mem_cons_of_mem _ hq, hx⟩
    | none =>
      rw [e] at h
      exact ⟨s, List.mem_cons_self, h⟩
theorem ahB.off {a b : Bp} (h : ahB a b) (ha : toB a n v = some x) : toB b n v = none := by
  obtain ⟨_, h1, h2, h3, _⟩ := toB_some.1 ha
  refine toB_none fun k => ?_
  unfold ahB at h
  omega
theorem ahB.oth {a b : Bp} (h : ahB a b) (hb : toB b n v = some x) : toB a n v = none := by
  obtain ⟨_, h1, h2, h3, _⟩ := toB_some.1 hb
  refine toB_none fun k => ?_
  unfold ahB at h
  omega
/-- Where spans go ahead of each other, the one that tells of a code is the one by which it is told. -/
theorem lastB_of {l : List Bp} (hp : l.Pairwise ahB) {s : Bp} (hs : s ∈ l) (h : toB s n v = some x) : lastB l n v = some x := by
  induction l with
  | nil => cases hs
  | cons a l ih =>
    rw [List.pairwise_cons] at hp
    rw [lastB]
    rcases List.mem_cons.1 hs with rfl | hs
    · rw [lastB_none.2 (fun q hq => (hp.1 q hq).off h)]
      exact h
    · rw [ih hp.2 hs]
      rfl
theorem Ct.ah {l : List Bp} (h : Ct l) : l.Pairwise ahB := h.2.imp fun k => k.1
theorem Ct.lo {l : List Bp} (h : Ct l) {s : Bp} (hs : s ∈ l) : s.lo ≤ s.hi := (h.1 s hs).2.2.1
theorem Ct.of {l : List Bp} (h : Ct l) {s : Bp} (hs : s ∈ l) (h1 : s.lo ≤ v) (h2 : v ≤ s.hi) : lastB l s.n v = some (goB s v) := lastB_of h.ah hs (toB_yes (h.1 s hs) h1 h2)
theorem Ct.nil : Ct [] := ⟨by simp, List.Pairwise.nil⟩
theorem Ct.tail {a : Bp} {l : List Bp} (h : Ct (a :: l)) : Ct l := ⟨fun s hs => h.1 s (List.mem_cons_of_mem _ hs), (List.pairwise_cons.1 h.2).2⟩
theorem pair_twoB {R : Bp → Bp → Prop} {l : List Bp} (hp : l.Pairwise R) {a b : Bp} (ha : a ∈ l) (hb : b ∈ l) (hne : a ≠ b) : R a b ∨ R b a := by
  induction l with
  | nil => cases ha
  | cons c l ih =>
    rw [List.pairwise_cons] at hp
    rcases List.mem_cons.1 ha with rfl | ha'
    · rcases List.mem_cons.1 hb with rfl | hb'
      · exact absurd rfl hne
      · exact .inl (hp.1 b hb')
    · rcases List.mem_cons.1 hb with rfl | hb'
      · exact .inr (hp.1 a ha')
      · exact ih hp.2 ha' hb'
/-- A SPAN ENDS WHERE IT ENDS. -/
theorem Ct.ends {l : List Bp} (h : Ct l) {s : Bp} (hs : s ∈ l) (hx : lastB l s.n (s.hi + 1) = some x) : x ≠ goB s (s.hi + 1) := by
  obtain ⟨q, hq, hqx⟩ := lastB_mem hx
  obtain ⟨_, q1, q2, q3, rfl⟩ := toB_some.1 hqx
  have hl := h.lo hs
  have hne : s ≠ q := by rintro rfl; omega
  rcases pair_twoB h.2 hs hq hne with k | k
  · intro e
    have k1 := k.1
    unfold ahB at k1
    have e1 : q.lo = s.hi + 1 := by omega
    rw [← e1, goB_lo] at e
    exact k.2 ⟨q1, e1, e⟩
  · have k1 := k.1
    unfold ahB at k1
    omega
/-- A TABLE IS ONE FOR ALL. -/
theorem Ct.one : ∀ {t u : List Bp}, Ct t → Ct u → (∀ n v, lastB t n v = lastB u n v) → t = u
  | [], [], _, _, _ => rfl
  | [], b :: u, _, hu, h => by
    have := h b.n b.lo
    rw [hu.of List.mem_cons_self (Int.le_refl _) (hu.lo List.mem_cons_self)] at this
    cases this
  | a :: t, [], ht, _, h => by
    have := h a.n a.lo
    rw [ht.of List.mem_cons_self (Int.le_refl _) (ht.lo List.mem_cons_self)] at this
    cases this
  | a :: t, b :: u, ht, hu, h => by
    have la := ht.lo (s := a) List.mem_cons_self
    have lb := hu.lo (s := b) List.mem_cons_self
    have fa := ht.of (s := a) List.mem_cons_self (Int.le_refl _) la
    have fb := hu.of (s := b) List.mem_cons_self (Int.le_refl _) lb
    have key : ∀ {a b : Bp} {u : List Bp} {y : List Int}, Ct (b :: u) → lastB (b :: u) a.n a.lo = some y → b.n < a.n ∨ (b.n = a.n ∧ b.lo ≤ a.lo) := fun {a b u y} hu f => by
      obtain ⟨q, hq, hqx⟩ := lastB_mem f
      obtain ⟨_, q1, q2, q3, _⟩ := toB_some.1 hqx
      have lb := hu.lo (s := b) List.mem_cons_self
      rcases List.mem_cons.1 hq with rfl | hq
      · omega
      · have := ((List.pairwise_cons.1 hu.2).1 q hq).1
        unfold ahB at this
        omega
    have k1 := key hu ((h a.n a.lo).symm.trans fa)
    have k2 := key ht ((h b.n b.lo).trans fb)
    have en : a.n = b.n := by omega
    have el : a.lo = b.lo := by omega
    have et : a.u = b.u := by
      have f1 := fa.symm.trans (h a.n a.lo)
      rw [en, el, fb, ← el, goB_lo, el, goB_lo] at f1
      injection f1
    have eg : ∀ v, goB a v = goB b v := fun v => by unfold goB; rw [el, et]
    have eh : a.hi = b.hi := by
      rcases Int.lt_trichotomy a.hi b.hi with k | k | k
      · exfalso
        have f := hu.of (s := b) (v := a.hi + 1) List.mem_cons_self (by omega) (by omega)
        rw [← en, ← h, ← eg] at f
        exact ht.ends List.mem_cons_self f rfl
      · exact k
      · exfalso
        have f := ht.of (s := a) (v := b.hi + 1) List.mem_cons_self (by omega) (by omega)
        rw [en, h, eg] at f
        exact hu.ends List.mem_cons_self f rfl
    have e : a = b := by
      cases a; cases b
      simp only [Bp.mk.injEq]
      exact ⟨en, el, eh, et⟩
    subst e
    congr 1
    refine Ct.one ht.tail hu.tail fun n v => ?_
    have hh := h n v
    rw [lastB, lastB] at hh
    cases e : toB a n v with
    | none =>
      rw [e, Option.or_none, Option.or_none] at hh
      exact hh
    | some y =>
      rw [lastB_none.2 (fun q hq => ((List.pairwise_cons.1 ht.2).1 q hq).1.off e), lastB_none.2 (fun q hq => ((List.pairwise_cons.1 hu.2).1 q hq).1.off e)]
/-- Where nothing begins or ends between two codes, both go by the same one. -/
theorem lastB_shift {l : List Bp} {u : Int} (huv : u ≤ v) (h : ∀ r ∈ l, Sb r → r.n = n → ¬ (u < r.lo ∧ r.lo ≤ v) ∧ ¬ (u < r.hi + 1 ∧ r.hi + 1 ≤ v)) : lastB l n v = (lastB l n u).map (addU · (v - u)) := by
  induction l with
  | nil => rfl
  | cons r l ih =>
    rw [lastB, lastB, ih (fun q hq => h q (List.mem_cons_of_mem _ hq))]
    have e : toB r n v = (toB r n u).map (addU · (v - u)) := by
      by_cases hr : Sb r ∧ n = r.n
      · have h0 := h r List.mem_cons_self hr.1 hr.2.symm
        by_cases hu : r.lo ≤ u ∧ u ≤ r.hi
        · rw [toB_some.2 ⟨hr.1, hr.2, hu.1, hu.2, rfl⟩, toB_some.2 ⟨hr.1, hr.2, by omega, by omega, rfl⟩]
          have := goB_add r u (v - u)
          rw [show u + (v - u) = v by omega] at this
          rw [this]
          rfl
        · rw [toB_none (v := u) (by omega), toB_none (v := v) (by omega)]
          rfl
      · have g : ∀ y, toB r n y = none := fun y => by
          unfold toB
          rw [if_neg (fun k => hr ⟨k.1, k.2.1⟩)]
        rw [g, g]
        rfl
    rw [e]
    cases lastB l n u <;> rfl
/-- Where something begins, or has ended. -/
def bordB (l : List Bp) : List (Int × Int) := l.flatMap fun s => [(s.n, s.lo), (s.n, s.hi + 1)]
theorem bordB_length (l : List Bp) : (bordB l).length = 2 * l.length := by
  induction l with
  | nil => rfl
  | cons s l ih => simp only [bordB, List.flatMap_cons, List.length_append, List.length_cons, List.length_nil] at *; omega
theorem Ct.start {t l : List Bp} (h : Ct t) (e : ∀ n v, lastB t n v = lastB l n v) {s : Bp} (hs : s ∈ t) : (s.n, s.lo) ∈ bordB l := by
  refine Decidable.byContradiction fun hc => ?_
  have hb : ∀ r ∈ l, Sb r → r.n = s.n → ¬ (s.lo - 1 < r.lo ∧ r.lo ≤ s.lo) ∧ ¬ (s.lo - 1 < r.hi + 1 ∧ r.hi + 1 ≤ s.lo) := fun r hr _ hn => by
    constructor
    · intro k
      exact hc (List.mem_flatMap.2 ⟨r, hr, by rw [hn, show r.lo = s.lo by omega]; exact List.mem_cons_self⟩)
    · intro k
      exact hc (List.mem_flatMap.2 ⟨r, hr, by rw [hn, show r.hi + 1 = s.lo by omega]; exact List.mem_cons_of_mem _ List.mem_cons_self⟩)
  have h1 := lastB_shift (v := s.lo) (u := s.lo - 1) (by omega) hb
  have h2 := h.of hs (Int.le_refl _) (h.lo hs)
  rw [← e, ← e, h2] at h1
  cases h3 : lastB t s.n (s.lo - 1) with
  | none => rw [h3] at h1; cases h1
  | some x =>
    rw [h3, goB_lo] at h1
    injection h1 with h1
    obtain ⟨q, hq, hqx⟩ := lastB_mem h3
    obtain ⟨_, q1, q2, q3, rfl⟩ := toB_some.1 hqx
    have hl := h.lo hs
    have hne : q ≠ s := by rintro rfl; omega
    rcases pair_twoB h.2 hq hs hne with k | k
    · have k1 := k.1
      unfold ahB at k1
      refine k.2 ⟨q1.symm, by omega, ?_⟩
      have := goB_add q (s.lo - 1) (s.lo - (s.lo - 1))
      rw [show s.lo - 1 + (s.lo - (s.lo - 1)) = s.lo by omega] at this
      rw [this]
      exact h1
    · have k1 := k.1
      unfold ahB at k1
      omega
theorem Ct.starts : ∀ {t : List Bp}, Ct t → (t.map fun s => (s.n, s.lo)).Nodup
  | [], _ => List.nodup_nil
  | a :: t, h => by
    rw [List.map_cons, List.nodup_cons]
    refine ⟨fun hm => ?_, Ct.starts h.tail⟩
    obtain ⟨q, hq, e⟩ := List.mem_map.1 hm
    injection e with e1 e2
    have := ((List.pairwise_cons.1 h.2).1 q hq).1
    have := h.lo (s := a) List.mem_cons_self
    unfold ahB at *
    omega
theorem Ct.few {t l : List Bp} (h : Ct t) (e : ∀ n v, lastB t n v = lastB l n v) : t.length ≤ 2 * l.length := by
  have := nodup_le h.starts (m := bordB l) fun a ha => by
    obtain ⟨s, hs, rfl⟩ := List.mem_map.1 ha
    exact h.start e hs
  rw [List.length_map, bordB_length] at this
  exact this
end
end Go.Proofs.Ytkkochjdimegpaa
