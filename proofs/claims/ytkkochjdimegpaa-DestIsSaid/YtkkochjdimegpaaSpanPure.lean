/-
  Layer 7 as plain lists: what a span tells, what the last of some tells, tables; two tables that tell the same are one.
-/
import Derived.Test.YtkkochjdimegpaaHexSane
namespace Go.Proofs.Ytkkochjdimegpaa

/-- A span. -/
structure Sp where
  n : Int
  lo : Int
  hi : Int
  to : Int
deriving DecidableEq

def goesS (st : Bool) (s : Sp) (v : Int) : Int := if st = true then s.to + v - s.lo else s.to
def Sn (st : Bool) (s : Sp) : Prop := saneB s.n s.lo = true ∧ saneB s.n s.hi = true ∧ s.lo ≤ s.hi ∧ 0 ≤ s.to ∧ s.to ≤ 65535 ∧ goesS st s s.hi ≤ 65535
instance (st : Bool) (s : Sp) : Decidable (Sn st s) := inferInstanceAs (Decidable (_ ∧ _))
def toS (st : Bool) (s : Sp) (n v : Int) : Option Int := if Sn st s ∧ n = s.n ∧ s.lo ≤ v ∧ v ≤ s.hi then some (goesS st s v) else none
def lastS (st : Bool) : List Sp → Int → Int → Option Int
  | [], _, _ => none
  | s :: l, n, v => (lastS st l n v).or (toS st s n v)
def ahS (a b : Sp) : Prop := a.n < b.n ∨ (a.n = b.n ∧ a.hi < b.lo)
instance (a b : Sp) : Decidable (ahS a b) := inferInstanceAs (Decidable (_ ∨ _))
def jnS (st : Bool) (a b : Sp) : Prop := a.n = b.n ∧ b.lo = a.hi + 1 ∧ b.to = goesS st a b.lo
instance (st : Bool) (a b : Sp) : Decidable (jnS st a b) := inferInstanceAs (Decidable (_ ∧ _))
def Rq (st : Bool) (a b : Sp) : Prop := ahS a b ∧ ¬ jnS st a b
/-- A table. -/
def Cn (st : Bool) (l : List Sp) : Prop := (∀ s ∈ l, Sn st s) ∧ l.Pairwise (Rq st)

theorem saneB_mid {n a b v : Int} (ha : saneB n a = true) (hb : saneB n b = true) (h1 : a ≤ v) (h2 : v ≤ b) : saneB n v = true := by
  rw [saneB_iff] at *
  obtain ⟨a1, a2, a3, a4⟩ := ha
  obtain ⟨b1, b2, b3, b4⟩ := hb
  exact ⟨a1, a2, by omega, by omega⟩
theorem saneB_top {n v : Int} (h : saneB n v = true) : 0 ≤ v ∧ v < 4294967296 ∧ 1 ≤ n ∧ n ≤ 4 := by
  obtain ⟨h1, h2, h3, h4⟩ := (saneB_iff n v).1 h
  rcases (show n = 1 ∨ n = 2 ∨ n = 3 ∨ n = 4 by omega) with rfl | rfl | rfl | rfl
  all_goals
    simp at h4
    omega
theorem goesS_lo (st : Bool) (s : Sp) : goesS st s s.lo = s.to := by
  unfold goesS
  split <;> omega
theorem goesS_add (st : Bool) (s : Sp) (u d : Int) : goesS st s (u + d) = goesS st s u + (if st = true then d else 0) := by
  unfold goesS
  split <;> omega
theorem ahS.trans {a b c : Sp} (h : ahS a b) (k : ahS b c) (hb : b.lo ≤ b.hi) : ahS a c := by
  unfold ahS at *
  omega
section
variable {st : Bool} {n v x : Int}
theorem toS_some {s : Sp} : toS st s n v = some x ↔ Sn st s ∧ n = s.n ∧ s.lo ≤ v ∧ v ≤ s.hi ∧ x = goesS st s v := by
  unfold toS
  split
  · rename_i h
    constructor
    · intro e
      injection e with e
      exact ⟨h.1, h.2.1, h.2.2.1, h.2.2.2, e.symm⟩
    · rintro ⟨_, _, _, _, rfl⟩
      rfl
  · rename_i h
    constructor
    · intro e; cases e
    · rintro ⟨h1, h2, h3, h4, _⟩
      exact absurd ⟨h1, h2, h3, h4⟩ h
theorem toS_none {s : Sp} (h : ¬ (n = s.n ∧ s.lo ≤ v ∧ v ≤ s.hi)) : toS st s n v = none := by
  unfold toS
  rw [if_neg (fun k => h k.2)]
theorem toS_yes {s : Sp} (h : Sn st s) (h1 : s.lo ≤ v) (h2 : v ≤ s.hi) : toS st s s.n v = some (goesS st s v) := toS_some.2 ⟨h, rfl, h1, h2, rfl⟩
theorem lastS_append (a b : List Sp) : lastS st (a ++ b) n v = (lastS st b n v).or (lastS st a n v) := by
  induction a with
  | nil => simp [lastS]
  | cons s a ih => rw [List.cons_append, lastS, ih, lastS, Option.or_assoc]
theorem lastS_none {l : List Sp} : lastS st l n v = none ↔ ∀ s ∈ l, toS st s n v = none := by
  induction l with
  | nil => simp [lastS]
  | cons s l ih => rw [lastS, Option.or_eq_none_iff, ih]; simp [and_comm]
theorem lastS_mem {l : List Sp} (h : lastS st l n v = some x) : ∃ s ∈ l, toS st s n v = some x := by
  induction l with
  | nil => cases h
  | cons s l ih =>
    rw [lastS] at h
    cases e : lastS st l n v with
    | some y =>
      rw [e] at h
      obtain ⟨q, hq, hx⟩ := ih (by rw [e]; exact h)
      exact ⟨q, List.mem_cons_of_mem _ hq, hx⟩
    | none =>
      rw [e] at h
      exact ⟨s, List.mem_cons_self, h⟩
theorem ahS.off {a b : Sp} (h : ahS a b) (ha : toS st a n v = some x) : toS st b n v = none := by
  obtain ⟨_, h1, h2, h3, _⟩ := toS_some.1 ha
  refine toS_none fun k => ?_
  unfold ahS at h
  omega
theorem ahS.oth {a b : Sp} (h : ahS a b) (hb : toS st b n v = some x) : toS st a n v = none := by
  obtain ⟨_, h1, h2, h3, _⟩ := toS_some.1 hb
  refine toS_none fun k => ?_
  unfold ahS at h
  omega
/-- Where spans go ahead of each other, the one that tells of a code is the one by which it is told. -/
theorem lastS_of {l : List Sp} (hp : l.Pairwise ahS) {s : Sp} (hs : s ∈ l) (h : toS st s n v = some x) : lastS st l n v = some x := by
  induction l with
  | nil => cases hs
  | cons a l ih =>
    rw [List.pairwise_cons] at hp
    rw [lastS]
    rcases List.mem_cons.1 hs with rfl | hs
    · rw [lastS_none.2 (fun q hq => (hp.1 q hq).off h)]
      exact h
    · rw [ih hp.2 hs]
      rfl
theorem Cn.ah {l : List Sp} (h : Cn st l) : l.Pairwise ahS := h.2.imp fun k => k.1
theorem Cn.lo {l : List Sp} (h : Cn st l) {s : Sp} (hs : s ∈ l) : s.lo ≤ s.hi := (h.1 s hs).2.2.1
theorem Cn.of {l : List Sp} (h : Cn st l) {s : Sp} (hs : s ∈ l) (h1 : s.lo ≤ v) (h2 : v ≤ s.hi) : lastS st l s.n v = some (goesS st s v) := lastS_of h.ah hs (toS_yes (h.1 s hs) h1 h2)
theorem Cn.nil : Cn st [] := ⟨by simp, List.Pairwise.nil⟩
theorem Cn.tail {a : Sp} {l : List Sp} (h : Cn st (a :: l)) : Cn st l := ⟨fun s hs => h.1 s (List.mem_cons_of_mem _ hs), (List.pairwise_cons.1 h.2).2⟩
theorem pair_two {R : Sp → Sp → Prop} {l : List Sp} (hp : l.Pairwise R) {a b : Sp} (ha : a ∈ l) (hb : b ∈ l) (hne : a ≠ b) : R a b ∨ R b a := by
  induction l with
  | nil => cases ha
  | cons c l ih =>
    rw [List.pairwise_cons] at hp
    rcases List.mem_cons.1 ha with rfl | ha'
    · rcases List.mem_cons.1 hb with rfl | hb'
      · exact absurd rfl hne
      · exact .inl (hp.1 b hb')
    · rcases List.mem_cons.1 hb with rfl | hb'
      · exact .inr (hp.1 a ha')
      · exact ih hp.2 ha' hb'
/-- A SPAN ENDS WHERE IT ENDS. -/
theorem Cn.ends {l : List Sp} (h : Cn st l) {s : Sp} (hs : s ∈ l) (hx : lastS st l s.n (s.hi + 1) = some x) : x ≠ goesS st s (s.hi + 1) := by
  obtain ⟨q, hq, hqx⟩ := lastS_mem hx
  obtain ⟨_, q1, q2, q3, rfl⟩ := toS_some.1 hqx
  have hl := h.lo hs
  have hne : s ≠ q := by rintro rfl; omega
  rcases pair_two h.2 hs hq hne with k | k
  · intro e
    have k1 := k.1
    unfold ahS at k1
    have e1 : q.lo = s.hi + 1 := by omega
    rw [← e1, goesS_lo] at e
    exact k.2 ⟨q1, e1, e⟩
  · have k1 := k.1
    unfold ahS at k1
    omega
/-- A TABLE IS ONE FOR ALL. -/
theorem Cn.one : ∀ {t u : List Sp}, Cn st t → Cn st u → (∀ n v, lastS st t n v = lastS st u n v) → t = u
  | [], [], _, _, _ => rfl
  | [], b :: u, _, hu, h => by
    have := h b.n b.lo
    rw [hu.of List.mem_cons_self (Int.le_refl _) (hu.lo List.mem_cons_self)] at this
    cases this
  | a :: t, [], ht, _, h => by
    have := h a.n a.lo
    rw [ht.of List.mem_cons_self (Int.le_refl _) (ht.lo List.mem_cons_self)] at this
    cases this
  | a :: t, b :: u, ht, hu, h => by
    have la := ht.lo (s := a) List.mem_cons_self
    have lb := hu.lo (s := b) List.mem_cons_self
    have fa := ht.of (s := a) List.mem_cons_self (Int.le_refl _) la
    have fb := hu.of (s := b) List.mem_cons_self (Int.le_refl _) lb
    have key : ∀ {a b : Sp} {u : List Sp} {y : Int}, Cn st (b :: u) → lastS st (b :: u) a.n a.lo = some y → b.n < a.n ∨ (b.n = a.n ∧ b.lo ≤ a.lo) := fun {a b u y} hu f => by
      obtain ⟨q, hq, hqx⟩ := lastS_mem f
      obtain ⟨_, q1, q2, q3, _⟩ := toS_some.1 hqx
      have lb := hu.lo (s := b) List.mem_cons_self
      rcases List.mem_cons.1 hq with rfl | hq
      · omega
      · have := ((List.pairwise_cons.1 hu.2).1 q hq).1
        unfold ahS at this
        omega
    have k1 := key hu ((h a.n a.lo).symm.trans fa)
    have k2 := key ht ((h b.n b.lo).trans fb)
    have en : a.n = b.n := by omega
    have el : a.lo = b.lo := by omega
    have et : a.to = b.to := by
      have f1 := fa.symm.trans (h a.n a.lo)
      rw [en, el, fb, ← el, goesS_lo, el, goesS_lo] at f1
      injection f1
    have eg : ∀ v, goesS st a v = goesS st b v := fun v => by unfold goesS; rw [el, et]
    have eh : a.hi = b.hi := by
      rcases Int.lt_trichotomy a.hi b.hi with k | k | k
      · exfalso
        have f := hu.of (s := b) (v := a.hi + 1) List.mem_cons_self (by omega) (by omega)
        rw [← en, ← h, ← eg] at f
        exact ht.ends List.mem_cons_self f rfl
      · exact k
      · exfalso
        have f := ht.of (s := a) (v := b.hi + 1) List.mem_cons_self (by omega) (by omega)
        rw [en, h, eg] at f
        exact hu.ends List.mem_cons_self f rfl
    have e : a = b := by
      cases a; cases b
      simp only [Sp.mk.injEq]
      exact ⟨en, el, eh, et⟩
    subst e
    congr 1
    refine Cn.one ht.tail hu.tail fun n v => ?_
    have hh := h n v
    rw [lastS, lastS] at hh
    cases e : toS st a n v with
    | none =>
      rw [e, Option.or_none, Option.or_none] at hh
      exact hh
    | some y =>
      rw [lastS_none.2 (fun q hq => ((List.pairwise_cons.1 ht.2).1 q hq).1.off e), lastS_none.2 (fun q hq => ((List.pairwise_cons.1 hu.2).1 q hq).1.off e)]
/-- Where nothing begins or ends between two codes, both go by the same one. -/
theorem lastS_shift {l : List Sp} {u : Int} (huv : u ≤ v) (h : ∀ r ∈ l, Sn st r → r.n = n → ¬ (u < r.lo ∧ r.lo ≤ v) ∧ ¬ (u < r.hi + 1 ∧ r.hi + 1 ≤ v)) : lastS st l n v = (lastS st l n u).map (· + (if st = true then v - u else 0)) := by
  induction l with
  | nil => rfl
  | cons r l ih =>
    rw [lastS, lastS, ih (fun q hq => h q (List.mem_cons_of_mem _ hq))]
    have e : toS st r n v = (toS st r n u).map (· + (if st = true then v - u else 0)) := by
      by_cases hr : Sn st r ∧ n = r.n
      · have h0 := h r List.mem_cons_self hr.1 hr.2.symm
        by_cases hu : r.lo ≤ u ∧ u ≤ r.hi
        · rw [toS_some.2 ⟨hr.1, hr.2, hu.1, hu.2, rfl⟩, toS_some.2 ⟨hr.1, hr.2, by omega, by omega, rfl⟩]
          have := goesS_add st r u (v - u)
          rw [show u + (v - u) = v by omega] at this
          rw [this]
          rfl
        · rw [toS_none (v := u) (by omega), toS_none (v := v) (by omega)]
          rfl
      · have g : ∀ y, toS st r n y = none := fun y => by
          unfold toS
          rw [if_neg (fun k => hr ⟨k.1, k.2.1⟩)]
        rw [g, g]
        rfl
    rw [e]
    cases lastS st l n u <;> rfl
/-- Where something begins, or has ended. -/
def bordL (l : List Sp) : List (Int × Int) := l.flatMap fun s => [(s.n, s.lo), (s.n, s.hi + 1)]
theorem bordL_length (l : List Sp) : (bordL l).length = 2 * l.length := by
  induction l with
  | nil => rfl
  | cons s l ih => simp only [bordL, List.flatMap_cons, List.length_append, List.length_cons, List.length_nil] at *; omega
theorem Cn.start {t l : List Sp} (h : Cn st t) (e : ∀ n v, lastS st t n v = lastS st l n v) {s : Sp} (hs : s ∈ t) : (s.n, s.lo) ∈ bordL l := by
  refine Decidable.byContradiction fun hc => ?_
  have hb : ∀ r ∈ l, Sn st r → r.n = s.n → ¬ (s.lo - 1 < r.lo ∧ r.lo ≤ s.lo) ∧ ¬ (s.lo - 1 < r.hi + 1 ∧ r.hi + 1 ≤ s.lo) := fun r hr _ hn => by
    constructor
    · intro k
      exact hc (List.mem_flatMap.2 ⟨r, hr, by rw [hn, show r.lo = s.lo by omega]; exact List.mem_cons_self⟩)
    · intro k
      exact hc (List.mem_flatMap.2 ⟨r, hr, by rw [hn, show r.hi + 1 = s.lo by omega]; exact List.mem_cons_of_mem _ List.mem_cons_self⟩)
  have h1 := lastS_shift (v := s.lo) (u := s.lo - 1) (by omega) hb
  have h2 := h.of hs (Int.le_refl _) (h.lo hs)
  rw [← e, ← e, h2] at h1
  cases h3 : lastS st t s.n (s.lo - 1) with
  | none => rw [h3] at h1; cases h1
  | some x =>
    rw [h3, goesS_lo] at h1
    injection h1 with h1
    obtain ⟨q, hq, hqx⟩ := lastS_mem h3
    obtain ⟨_, q1, q2, q3, rfl⟩ := toS_some.1 hqx
    have hl := h.lo hs
    have hne : q ≠ s := by rintro rfl; omega
    rcases pair_two h.2 hq hs hne with k | k
    · have k1 := k.1
      unfold ahS at k1
      refine k.2 ⟨q1.symm, by omega, ?_⟩
      have := goesS_add st q (s.lo - 1) (s.lo - (s.lo - 1))
      rw [show s.lo - 1 + (s.lo - (s.lo - 1)) = s.lo by omega] at this
      rw [this]
      exact h1
    · have k1 := k.1
      unfold ahS at k1
      omega
theorem nodup_le {α : Type} [DecidableEq α] : ∀ {l m : List α}, l.Nodup → (∀ a ∈ l, a ∈ m) → l.length ≤ m.length
  | [], _, _, _ => Nat.zero_le _
  | a :: l, m, hn, hm => by
    have ha := hm a List.mem_cons_self
    rw [List.nodup_cons] at hn
    have := nodup_le (m := m.erase a) hn.2 fun b hb => (List.mem_erase_of_ne (by rintro rfl; exact hn.1 hb)).2 (hm b (List.mem_cons_of_mem _ hb))
    rw [List.length_erase_of_mem ha] at this
    have := List.length_pos_of_mem ha
    simp only [List.length_cons]
    omega
theorem Cn.starts : ∀ {t : List Sp}, Cn st t → (t.map fun s => (s.n, s.lo)).Nodup
  | [], _ => List.nodup_nil
  | a :: t, h => by
    rw [List.map_cons, List.nodup_cons]
    refine ⟨fun hm => ?_, Cn.starts h.tail⟩
    obtain ⟨q, hq, e⟩ := List.mem_map.1 hm
    injection e with e1 e2
    have := ((List.pairwise_cons.1 h.2).1 q hq).1
    have := h.lo (s := a) List.mem_cons_self
    unfold ahS at *
    omega
theorem Cn.few {t l : List Sp} (h : Cn st t) (e : ∀ n v, lastS st t n v = lastS st l n v) : t.length ≤ 2 * l.length := by
  have := nodup_le h.starts (m := bordL l) fun a ha => by
    obtain ⟨s, hs, rfl⟩ := List.mem_map.1 ha
    exact h.start e hs
  rw [List.length_map, bordL_length] at this
  exact this
end
end Go.Proofs.Ytkkochjdimegpaa
