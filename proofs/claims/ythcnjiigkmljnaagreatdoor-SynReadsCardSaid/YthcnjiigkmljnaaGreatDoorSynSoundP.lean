/-
  P5.4, plainly: the entries of what tokens come to may be; and tokens that are few are short, or no word of theirs means anything.
-/
import Derived.Test.YthcnjiigkmljnaaGreatDoorSynItem0
namespace Go.Proofs.YthcnjiigkmljnaaGreatDoor
open Go.RowKit

/-- Where an entry of a section goes to may be. -/
def SnT (kind : Int) (x : En) : Prop :=
  (kind < 7 ∧ x.u = [] ∧ x.ll = []) ∨ (7 ≤ kind ∧ 0 < x.ll.length ∧ (x.ll.length : Int) = x.hi.v - x.lo.v + 1 ∧ x.u = []) ∨
  (7 ≤ kind ∧ x.ll = [] ∧ 1 ≤ x.u.length ∧ x.u.length ≤ 64 ∧ 0 ≤ lastU x.u ∧ lastU x.u + (x.hi.v - x.lo.v) ≤ 65535)
/-- An entry of a section may be. -/
structure SnE (kind : Int) (x : En) : Prop where
  lo : saneB x.lo.n x.lo.v = true
  hi : saneB x.hi.n x.hi.v = true
  nn : x.lo.n = x.hi.n
  vv : x.lo.v ≤ x.hi.v
  t0 : 0 ≤ x.to
  t1 : x.to ≤ 65535
  t3 : kind = 3 → x.to + (x.hi.v - x.lo.v) ≤ 65535
  tt : SnT kind x
/-- An item may be. -/
structure SnI (x : Im) : Prop where
  k0 : 0 ≤ x.kind
  k8 : x.kind ≤ 8
  few : x.ents.length ≤ 100
  none : x.kind < 2 → x.ents = []
  all : ∀ y ∈ x.ents, SnE x.kind y
theorem sane_v {n v : Int} (h : saneB n v = true) : 0 ≤ v ∧ v < 4294967296 := by
  rw [saneB_iff] at h
  obtain ⟨h1, h2, h3, h4⟩ := h
  refine ⟨h3, Int.lt_of_lt_of_le h4 ?_⟩
  rcases (show n = 1 ∨ n = 2 ∨ n = 3 ∨ n = 4 by omega) with rfl | rfl | rfl | rfl <;> decide
theorem units_range : ∀ (l : List UInt8), ∀ u ∈ units l, 0 ≤ u ∧ u ≤ 65535
  | [], u, h => by simp [units] at h
  | [_], u, h => by simp [units] at h
  | a :: b :: r, u, h => by
    rw [units] at h
    rcases List.mem_cons.1 h with rfl | h
    · have := a.toNat_lt; have := b.toNat_lt; omega
    · exact units_range r u h
theorem lastU_range {u : List Int} (h : ∀ x ∈ u, 0 ≤ x ∧ x ≤ 65535) : 0 ≤ lastU u ∧ lastU u ≤ 65535 := by
  unfold lastU
  cases hl : u.getLast? with
  | none => decide
  | some x => exact h x (List.mem_of_getLast? hl)
theorem any_append_false {α : Type} {p : α → Bool} {a b : List α} (h : (a ++ b).any p = false) : a.any p = false ∧ b.any p = false := by
  rw [List.any_append, Bool.or_eq_false_iff] at h; exact h
theorem beL_low : ∀ (n : Nat) (a b : Int), 0 ≤ a → 0 ≤ b → a < 256 ^ n → b < 256 ^ n → lowL (beL n a) (beL n b) = false → b ≤ a
  | 0, a, b, ha, hb, h1, h2, _ => by simp at h1 h2; omega
  | n + 1, a, b, ha, hb, h1, h2, h => by
    unfold lowL at h
    rw [beL, beL, List.zip_append (by rw [beL_length, beL_length])] at h
    obtain ⟨h3, h4⟩ := any_append_false h
    have e : (256 : Int) ^ (n + 1) = 256 ^ n * 256 := Int.pow_succ 256 n
    rw [e] at h1 h2
    have h5 := beL_low n (a / 256) (b / 256) (by omega) (by omega) (by omega) (by omega) h3
    simp only [List.zip_cons_cons, List.zip_nil_right, List.any_cons, List.any_nil, Bool.or_false, decide_eq_false_iff_not] at h4
    have q1 := low_byte a
    have q2 := low_byte b
    omega
section
variable {L : List Tk} {en : Int}
theorem code_sane {i j : Nat} {x : Cd × Int} (h : codeT L en i = .ok x j) : saneB x.1.n x.1.v = true := by
  obtain ⟨t, k, h1, h2⟩ := then_inv h
  by_cases hv : 1 ≤ t.s.length ∧ t.s.length ≤ 4
  · rw [if_pos hv] at h2
    injection h2 with e _
    subst e
    have hb := num_bounds t.s.length t.s (Nat.le_refl _)
    rw [saneB_iff]
    exact ⟨by simp only; omega, by simp only; omega, hb.1, by simpa using hb.2⟩
  · rw [if_neg hv] at h2; cases h2
theorem pair_sane {b : Bool} {i j : Nat} {x : Cd × Cd} (h : pairT L en b i = .ok x j) : saneB x.1.n x.1.v = true ∧ saneB x.2.n x.2.v = true ∧ x.1.n = x.2.n ∧ x.1.v ≤ x.2.v := by
  obtain ⟨p, k, h1, h2⟩ := then_inv h
  obtain ⟨q, l, h3, h4⟩ := then_inv h2
  have s1 := code_sane h1
  have s2 := code_sane h3
  by_cases hn : q.1.n = p.1.n
  · rw [if_pos hn] at h4
    by_cases hb : (b && lowB q.1 p.1 || !b && decide (q.1.v < p.1.v)) = true
    · rw [if_pos hb] at h4; cases h4
    · rw [if_neg hb] at h4
      injection h4 with e _
      subst e
      refine ⟨s1, s2, hn.symm, ?_⟩
      cases b with
      | false =>
        have : ¬ q.1.v < p.1.v := by simpa using hb
        simp only; omega
      | true =>
        have hlow : lowB q.1 p.1 = false := by simpa using hb
        unfold lowB codeL at hlow
        rw [if_pos s1, if_pos s2, hn] at hlow
        rw [saneB_iff] at s1 s2
        rw [hn] at s2
        exact beL_low p.1.n.toNat q.1.v p.1.v s2.2.2.1 s1.2.2.1 s2.2.2.2 s1.2.2.2 hlow
  · rw [if_neg hn] at h4; cases h4
theorem to_sane {m : Int} {i j : Nat} {x : Int} (h : toT L en m i = .ok x j) : 0 ≤ x ∧ x ≤ 65535 - m := by
  obtain ⟨t, k, h1, h2⟩ := then_inv h
  by_cases hv : t.n < 0 ∨ 65535 - m < t.n
  · rw [if_pos hv] at h2; cases h2
  · rw [if_neg hv] at h2; injection h2 with e _; subst e; omega
theorem unit_sane {i j : Nat} {x : List Int × Int} (h : unitT L en i = .ok x j) : 1 ≤ x.1.length ∧ x.1.length ≤ 64 ∧ 0 ≤ lastU x.1 ∧ lastU x.1 ≤ 65535 := by
  obtain ⟨t, k, h1, h2⟩ := then_inv h
  unfold unitsT at h2
  by_cases hv : oddB t.s = false ∧ 1 ≤ (units t.s).length ∧ (units t.s).length ≤ 64
  · rw [if_pos hv] at h2
    injection h2 with e _
    subst e
    have := lastU_range (units_range t.s)
    exact ⟨hv.2.1, hv.2.2, this.1, this.2⟩
  · rw [if_neg hv] at h2; cases h2
theorem list_sane (n : Int) : ∀ (k : Nat) (acc : List (List Int)) (i j : Nat) (x : List (List Int)), L.length - i ≤ k → listT L en n acc i = .ok x j → (x.length : Int) = n := by
  intro k
  induction k with
  | zero =>
    intro acc i j x hk h
    rw [listT, dif_neg (by omega)] at h
    cases h
  | succ k ih =>
    intro acc i j x hk h
    rw [listT] at h
    by_cases hi : i < L.length
    · rw [dif_pos hi] at h
      by_cases h7 : (tg L i).kind = 7
      · rw [if_pos h7] at h
        by_cases hn : (acc.length : Int) = n
        · rw [if_pos hn] at h; injection h with e _; subst e; exact hn
        · rw [if_neg hn] at h; cases h
      · rw [if_neg h7] at h
        obtain ⟨u, l, _, h2⟩ := then_inv h
        exact ih _ _ _ _ (by omega) h2
    · rw [dif_neg hi] at h; cases h
theorem bf_sane {kind : Int} (hk : kind = 7) {i j : Nat} {x : En} (h : bfT L en i = .ok x j) : SnE kind x := by
  obtain ⟨p, k, h1, h2⟩ := then_inv h
  obtain ⟨s1, s2, s3, s4⟩ := pair_sane h1
  by_cases hb : k < L.length ∧ (tg L k).kind = 6
  · rw [if_pos hb] at h2
    obtain ⟨l, m, h3, h4⟩ := then_inv h2
    injection h4 with e _
    subst e
    have hl := list_sane _ _ _ _ _ _ (Nat.le_refl _) h3
    exact ⟨s1, s2, s3, s4, by simp, by simp, fun h => by omega, .inr (.inl ⟨by omega, by simp only; omega, hl, rfl⟩)⟩
  · rw [if_neg hb] at h2
    obtain ⟨u, m, h3, h4⟩ := then_inv h2
    obtain ⟨u1, u2, u3, u4⟩ := unit_sane h3
    by_cases hv : 65535 < u.1.getLast?.getD 0 + p.2.v - p.1.v
    · rw [if_pos hv] at h4; cases h4
    · rw [if_neg hv] at h4
      injection h4 with e _
      subst e
      exact ⟨s1, s2, s3, s4, by simp, by simp, fun h => by omega, .inr (.inr ⟨by omega, rfl, u1, u2, u3, by unfold lastU; simp only; omega⟩)⟩
theorem ent_sane {kind : Int} (h28 : 2 ≤ kind ∧ kind ≤ 8) {i j : Nat} {x : En} (h : entT L en kind i = .ok x j) : SnE kind x := by
  unfold entT at h
  by_cases k2 : kind = 2
  · rw [if_pos k2] at h
    obtain ⟨p, k, h1, h2⟩ := then_inv h
    obtain ⟨s1, s2, s3, s4⟩ := pair_sane h1
    injection h2 with e _
    subst e
    exact ⟨s1, s2, s3, s4, by simp, by simp, fun h => by omega, .inl ⟨by omega, rfl, rfl⟩⟩
  · rw [if_neg k2] at h
    by_cases k3 : kind = 3
    · rw [if_pos k3] at h
      obtain ⟨p, k, h1, h2⟩ := then_inv h
      obtain ⟨t, l, h3, h4⟩ := then_inv h2
      obtain ⟨s1, s2, s3, s4⟩ := pair_sane h1
      obtain ⟨t1, t2⟩ := to_sane h3
      injection h4 with e _
      subst e
      exact ⟨s1, s2, s3, s4, t1, by simp only; omega, fun _ => by simp only; omega, .inl ⟨by omega, rfl, rfl⟩⟩
    · rw [if_neg k3] at h
      by_cases k5 : kind = 5
      · rw [if_pos k5] at h
        obtain ⟨p, k, h1, h2⟩ := then_inv h
        obtain ⟨t, l, h3, h4⟩ := then_inv h2
        obtain ⟨s1, s2, s3, s4⟩ := pair_sane h1
        obtain ⟨t1, t2⟩ := to_sane h3
        injection h4 with e _
        subst e
        exact ⟨s1, s2, s3, s4, t1, by simp only; omega, fun h => by omega, .inl ⟨by omega, rfl, rfl⟩⟩
      · rw [if_neg k5] at h
        by_cases k46 : kind = 4 ∨ kind = 6
        · rw [if_pos k46] at h
          obtain ⟨p, k, h1, h2⟩ := then_inv h
          obtain ⟨t, l, h3, h4⟩ := then_inv h2
          have s1 := code_sane h1
          obtain ⟨t1, t2⟩ := to_sane h3
          injection h4 with e _
          subst e
          exact ⟨s1, s1, rfl, Int.le_refl _, t1, by simp only; omega, fun h => by omega, .inl ⟨by omega, rfl, rfl⟩⟩
        · rw [if_neg k46] at h
          by_cases k7 : kind = 7
          · rw [if_pos k7] at h; exact bf_sane k7 h
          · rw [if_neg k7] at h
            obtain ⟨p, k, h1, h2⟩ := then_inv h
            obtain ⟨u, l, h3, h4⟩ := then_inv h2
            have s1 := code_sane h1
            obtain ⟨u1, u2, u3, u4⟩ := unit_sane h3
            injection h4 with e _
            subst e
            exact ⟨s1, s1, rfl, Int.le_refl _, by simp, by simp, fun h => by omega, .inr (.inr ⟨by omega, rfl, u1, u2, u3, by simp only; omega⟩)⟩
theorem sec_sane {kind n : Int} (h28 : 2 ≤ kind ∧ kind ≤ 8) : ∀ (k : Nat) (acc : List En) (i j : Nat) (x : List En), L.length - i ≤ k → (∀ y ∈ acc, SnE kind y) → secT L en kind n acc i = .ok x j → (x.length : Int) = n ∧ ∀ y ∈ x, SnE kind y := by
  intro k
  induction k with
  | zero =>
    intro acc i j x hk ha h
    cases hb : atW L i (endL kind) with
    | true => simp [atW, atB] at hb; omega
    | false =>
      rw [secT_step hb] at h
      obtain ⟨u, l, h1, _⟩ := then_inv h
      have := ent_ok h1
      omega
  | succ k ih =>
    intro acc i j x hk ha h
    cases hb : atW L i (endL kind) with
    | true =>
      rw [secT_end hb] at h
      by_cases hn : (acc.length : Int) = n
      · rw [if_pos hn] at h; injection h with e _; subst e; exact ⟨hn, ha⟩
      · rw [if_neg hn] at h; cases h
    | false =>
      rw [secT_step hb] at h
      obtain ⟨u, l, h1, h2⟩ := then_inv h
      have h3 := ent_ok h1
      refine ih _ _ _ _ (by omega) ?_ h2
      intro y hy
      rcases List.mem_append.1 hy with hy | hy
      · exact ha y hy
      · rw [List.mem_singleton.1 hy]; exact ent_sane h28 h1
theorem word_sane {i j : Nat} {x : List Im} (h : wordT L en i = .ok x j) : ∀ y ∈ x, SnI y := by
  by_cases h1 : (tg L i).s = [100, 101, 102]
  · rw [wordT_def h1] at h
    injection h with e1 e2
    subst e1
    unfold defT
    split
    · intro y hy
      rw [List.mem_singleton.1 hy]
      exact ⟨by simp, by simp, by simp, fun _ => rfl, fun _ h => by cases h⟩
    · intro y hy; cases hy
  · by_cases h2 : (tg L i).s = [117, 115, 101, 99, 109, 97, 112]
    · rw [wordT_use h2] at h
      unfold useT at h
      by_cases hk : (backT L i 1).kind = 2
      · rw [if_pos hk] at h
        injection h with e1 e2
        subst e1
        intro y hy
        rw [List.mem_singleton.1 hy]
        exact ⟨by simp, by simp, by simp, fun _ => rfl, fun _ h => by cases h⟩
      · rw [if_neg hk] at h; cases h
    · by_cases h3 : begunT (tg L i).s = 0
      · rw [wordT_none h1 h2 h3] at h; injection h with e1 e2; subst e1; intro y hy; cases hy
      · rw [wordT_sec h1 h2 h3] at h
        unfold secW at h
        by_cases h4 : (backT L i 1).kind = 1
        · rw [if_pos h4] at h
          by_cases h5 : (backT L i 1).n < 0 ∨ 100 < (backT L i 1).n
          · rw [if_pos h5] at h; cases h
          · rw [if_neg h5] at h
            obtain ⟨y, l, h6, h7⟩ := then_inv h
            obtain ⟨kk, hk2, hk8, hkk⟩ := (begunT_range (tg L i).s).resolve_left h3
            obtain ⟨q1, q2⟩ := sec_sane (by omega) _ _ _ _ _ (Nat.le_refl _) (fun _ h => by cases h) h6
            injection h7 with e1 e2
            subst e1
            intro z hz
            rw [List.mem_singleton.1 hz]
            exact ⟨by simp only; omega, by simp only; omega, by simp only; omega, fun h => by simp only at h; omega, q2⟩
        · rw [if_neg h4] at h; cases h
theorem items_sane : ∀ (k : Nat) (op : List Int) (acc : List Im) (i j : Nat) (x : List Im), L.length - i ≤ k → (∀ y ∈ acc, SnI y) → itemsT L en op acc i = .ok x j → ∀ y ∈ x, SnI y := by
  intro k
  induction k with
  | zero =>
    intro op acc i j x hk ha h
    rw [items_end (by omega)] at h
    by_cases ho : op = []
    · rw [if_pos ho] at h; injection h with e _; subst e; exact ha
    · rw [if_neg ho] at h; cases h
  | succ k ih =>
    intro op acc i j x hk ha h
    by_cases hi : i < L.length
    · by_cases hw : (tg L i).kind = 3 ∧ op = []
      · obtain ⟨hw, rfl⟩ := hw
        rw [items_word hi hw] at h
        obtain ⟨y, l, h1, h2⟩ := then_inv h
        have h3 := (word_ok h1).1
        refine ih _ _ _ _ _ (by omega) ?_ h2
        intro z hz
        rcases List.mem_append.1 hz with hz | hz
        · exact ha z hz
        · exact word_sane h1 z hz
      · by_cases h6 : (tg L i).kind = 6 ∨ (tg L i).kind = 8 ∨ (tg L i).kind = 10
        · rw [items_open hi h6] at h
          by_cases h32 : op.length = 32
          · rw [if_pos h32] at h; cases h
          · rw [if_neg h32] at h; exact ih _ _ _ _ _ (by omega) ha h
        · by_cases h7 : (tg L i).kind = 7 ∨ (tg L i).kind = 9 ∨ (tg L i).kind = 11
          · rw [items_close hi h7] at h
            by_cases hh : op.head? = some (tg L i).kind
            · rw [if_pos hh] at h; exact ih _ _ _ _ _ (by omega) ha h
            · rw [if_neg hh] at h; cases h
          · rw [items_skip hi hw h6 h7] at h
            exact ih _ _ _ _ _ (by omega) ha h
    · rw [items_end hi] at h
      by_cases ho : op = []
      · rw [if_pos ho] at h; injection h with e _; subst e; exact ha
      · rw [if_neg ho] at h; cases h
theorem parse_sane {j : Nat} {x : List Im} (h : parseT L en = .ok x j) : ∀ y ∈ x, SnI y := items_sane _ _ _ _ _ _ (Nat.le_refl _) (fun _ h => by cases h) h
theorem items_len : ∀ (k : Nat) (op : List Int) (acc : List Im) (i j : Nat) (x : List Im), L.length - i ≤ k → itemsT L en op acc i = .ok x j → x.length ≤ acc.length + (L.length - i) := by
  intro k
  induction k with
  | zero =>
    intro op acc i j x hk h
    rw [items_end (by omega)] at h
    by_cases ho : op = []
    · rw [if_pos ho] at h; injection h with e _; subst e; omega
    · rw [if_neg ho] at h; cases h
  | succ k ih =>
    intro op acc i j x hk h
    by_cases hi : i < L.length
    · by_cases hw : (tg L i).kind = 3 ∧ op = []
      · obtain ⟨hw, rfl⟩ := hw
        rw [items_word hi hw] at h
        obtain ⟨y, l, h1, h2⟩ := then_inv h
        have h3 := word_ok h1
        have := ih _ _ _ _ _ (by omega) h2
        rw [List.length_append] at this
        omega
      · by_cases h6 : (tg L i).kind = 6 ∨ (tg L i).kind = 8 ∨ (tg L i).kind = 10
        · rw [items_open hi h6] at h
          by_cases h32 : op.length = 32
          · rw [if_pos h32] at h; cases h
          · rw [if_neg h32] at h; have := ih _ _ _ _ _ (by omega) h; omega
        · by_cases h7 : (tg L i).kind = 7 ∨ (tg L i).kind = 9 ∨ (tg L i).kind = 11
          · rw [items_close hi h7] at h
            by_cases hh : op.head? = some (tg L i).kind
            · rw [if_pos hh] at h; have := ih _ _ _ _ _ (by omega) h; omega
            · rw [if_neg hh] at h; cases h
          · rw [items_skip hi hw h6 h7] at h
            have := ih _ _ _ _ _ (by omega) h
            omega
    · rw [items_end hi] at h
      by_cases ho : op = []
      · rw [if_pos ho] at h; injection h with e _; subst e; omega
      · rw [if_neg ho] at h; cases h
theorem parse_len {j : Nat} {x : List Im} (h : parseT L en = .ok x j) : x.length ≤ L.length := by
  have := items_len _ _ _ _ _ _ (Nat.le_refl _) h
  simpa using this
end
/-- How long texts are, up to 3000 each. -/
def fewN (t : Tk) : Nat := min t.s.length 3000
def fewS (L : List Tk) : Nat := (L.map fewN).sum
theorem fewS_take {L : List Tk} {k : Nat} (h : k < L.length) : fewS (L.take (k + 1)) = fewS (L.take k) + fewN (tg L k) := by
  have e : L.take (k + 1) = L.take k ++ [tg L k] := by
    rw [List.take_add_one, List.getElem?_eq_getElem h]
    unfold tg
    rw [List.getElem?_eq_getElem h]
    rfl
  unfold fewS
  rw [e, List.map_append, List.sum_append]
  simp
theorem fewS_le (L : List Tk) : fewS L ≤ 3000 * L.length := by
  unfold fewS
  induction L with
  | nil => simp
  | cons t L ih =>
    have : fewN t ≤ 3000 := Nat.min_le_right _ _
    simp only [List.map_cons, List.sum_cons, List.length_cons]
    omega
theorem sum_one : ∀ (l : List Nat) (i : Nat), l[i]?.getD 0 ≤ l.sum
  | [], i => by simp
  | a :: l, 0 => by simp
  | a :: l, i + 1 => by have := sum_one l i; simp; omega
theorem sum_two : ∀ (l : List Nat) (i j : Nat), i < j → l[i]?.getD 0 + l[j]?.getD 0 ≤ l.sum
  | [], i, j, _ => by simp
  | a :: l, 0, j + 1, _ => by have := sum_one l j; simp; omega
  | a :: l, i + 1, j + 1, h => by have := sum_two l i j (by omega); simp; omega
theorem few_get {L : List Tk} {i : Nat} (h : i < L.length) : (L.map fewN)[i]?.getD 0 = fewN (tg L i) := by
  unfold tg
  rw [List.getElem?_map, List.getElem?_eq_getElem h]
  rfl
theorem idle_of {s : List UInt8} (h : s.length = 0 ∨ 20 < s.length) : Idle s := by
  have hk : ∀ k : Nat, 2 ≤ k → k ≤ 8 → s ≠ beginL (k : Int) := by
    intro k h1 h2 e
    have hl : 0 < (beginL (k : Int)).length ∧ (beginL (k : Int)).length ≤ 20 := by
      rcases (show k = 2 ∨ k = 3 ∨ k = 4 ∨ k = 5 ∨ k = 6 ∨ k = 7 ∨ k = 8 by omega) with rfl | rfl | rfl | rfl | rfl | rfl | rfl <;> decide
    rw [← e] at hl
    omega
  refine ⟨fun e => by rw [e] at h; simp at h, fun e => by rw [e] at h; simp at h, ?_⟩
  unfold begunT
  rw [if_neg (show ¬ s = beginL 2 from hk 2 (by decide) (by decide)), if_neg (show ¬ s = beginL 3 from hk 3 (by decide) (by decide)), if_neg (show ¬ s = beginL 4 from hk 4 (by decide) (by decide)), if_neg (show ¬ s = beginL 5 from hk 5 (by decide) (by decide)), if_neg (show ¬ s = beginL 6 from hk 6 (by decide) (by decide)), if_neg (show ¬ s = beginL 7 from hk 7 (by decide) (by decide)), if_neg (show ¬ s = beginL 8 from hk 8 (by decide) (by decide))]
theorem few_jv {L : List Tk} (h1 : L.length ≤ 300) (h2 : fewS L ≤ 3000) : Jv L [] 0 := by
  by_cases hs : ∀ t ∈ L, t.s.length ≤ 1048576
  · exact .inl ⟨by omega, hs⟩
  · refine .inr (.inl ⟨by omega, fun i hi hk => idle_of ?_⟩)
    have : ∃ t ∈ L, ¬ t.s.length ≤ 1048576 := by
      apply Classical.byContradiction
      intro hn
      exact hs fun t ht => Classical.byContradiction fun h => hn ⟨t, ht, h⟩
    obtain ⟨t, ht, hl⟩ := this
    obtain ⟨j, hj, rfl⟩ := List.mem_iff_getElem.1 ht
    have hj3 : fewN (tg L j) = 3000 := by
      unfold tg fewN
      rw [List.getElem?_eq_getElem hj]
      simp only [Option.getD_some]
      omega
    have e1 := few_get hi
    have e2 := few_get hj
    by_cases hij : i = j
    · right
      subst hij
      unfold tg
      rw [List.getElem?_eq_getElem hj]
      simp only [Option.getD_some]
      omega
    · left
      have hsum : fewN (tg L i) + fewN (tg L j) ≤ fewS L := by
        rcases Nat.lt_or_gt_of_ne hij with h | h
        · have := sum_two (L.map fewN) i j h
          rw [e1, e2] at this
          exact this
        · have := sum_two (L.map fewN) j i h
          rw [e1, e2] at this
          unfold fewS
          omega
      unfold fewN at hsum hj3
      omega
end Go.Proofs.YthcnjiigkmljnaaGreatDoor
