/-
  From border to border: plain lists (layer 8).
-/
import Derived.Test.YtkkochjdimegpaaDestBord
namespace Go.Proofs.Ytkkochjdimegpaa

theorem rise_at {b : List Int} (h : b.Pairwise (· < ·)) {i j : Nat} {y w : Int} (hi : b[i]? = some y) (hj : b[j]? = some w) (hij : i < j) : y < w := by
  obtain ⟨h1, h2⟩ := List.getElem?_eq_some_iff.1 hi
  obtain ⟨h3, h4⟩ := List.getElem?_eq_some_iff.1 hj
  have := List.pairwise_iff_getElem.1 h i j h1 h3 hij
  rw [h2, h4] at this
  exact this
/-- What is told of codes of fewer bytes. -/
def PN (l : List Bp) (n : Int) (out : List Bp) : Prop := Ct out ∧ (∀ e ∈ out, e.n < n) ∧ ∀ m v, m < n → lastB out m v = lastB l m v
/-- What is told of codes ahead of a border. -/
def PI (l : List Bp) (n : Int) (b : List Int) (i : Nat) (out : List Bp) : Prop :=
  Ct out ∧ (∀ e ∈ out, e.n < n ∨ (e.n = n ∧ ∃ y, b[i]? = some y ∧ e.hi < y)) ∧ ∀ m v, (m < n ∨ (m = n ∧ ∃ y, b[i]? = some y ∧ v < y)) → lastB out m v = lastB l m v
section
variable {l out : List Bp} {n m v y z : Int} {t : List Int} {b : List Int} {i : Nat}
theorem lastB_far {P : Bp → Prop} (h : ∀ e ∈ out, P e) (hp : ∀ e, P e → ¬ (m = e.n ∧ e.lo ≤ v ∧ v ≤ e.hi)) : lastB out m v = none :=
  lastB_none.2 fun e he => toB_none (hp e (h e he))
theorem lastB_nobody (h : ∀ r ∈ l, Sb r → r.n = n → ¬ (r.lo ≤ v ∧ v ≤ r.hi)) : lastB l n v = none :=
  lastB_none.2 fun e he => by
    unfold toB
    rw [if_neg (fun k => h e he k.1 k.2.1.symm k.2.2)]
theorem PN.one : PN l 1 [] := ⟨Ct.nil, by simp, fun m v hm => by
  refine (lastB_none.2 fun e he => ?_).symm
  unfold toB
  rw [if_neg (fun k => by have := (saneB_top k.1.1).2.2.1; have := k.2.1; omega)]⟩
theorem PN.end (h : PN l 5 out) (m v : Int) : lastB out m v = lastB l m v := by
  by_cases hm : m < 5
  · exact h.2.2 m v hm
  · rw [lastB_far h.2.1 (fun e he k => by have := k.1; omega)]
    refine (lastB_none.2 fun e he => ?_).symm
    unfold toB
    rw [if_neg (fun k => by have := (saneB_top k.1.1).2.2.2; have := k.2.1; omega)]
theorem PN.start (h : PN l n out) (hb : Bo n l b) : PI l n b 0 out := by
  refine ⟨h.1, fun e he => .inl (h.2.1 e he), fun m v hm => ?_⟩
  rcases hm with hm | ⟨rfl, y, hy, hv⟩
  · exact h.2.2 m v hm
  · rw [lastB_far h.2.1 (fun e he k => by have := k.1; omega)]
    refine (lastB_nobody fun r hr hs hn k => ?_).symm
    have hm := (hb.2 r.lo).2 ⟨r, hr, hs, hn, .inl rfl⟩
    obtain ⟨j, hj⟩ := List.getElem?_of_mem hm
    rcases Nat.eq_zero_or_pos j with rfl | h0
    · rw [hy] at hj
      injection hj with hj
      omega
    · have := rise_at hb.1 hy hj h0
      omega
theorem Bo.mid (hb : Bo n l b) (hy : b[i]? = some y) (hz : b[i + 1]? = some z) {w : Int} (hw : w ∈ b) : w ≤ y ∨ z ≤ w := by
  obtain ⟨j, hj⟩ := List.getElem?_of_mem hw
  rcases Nat.lt_trichotomy j i with h | h | h
  · have := rise_at hb.1 hj hy h
    omega
  · subst h
    rw [hy] at hj
    injection hj with hj
    omega
  · rcases Nat.lt_or_ge (i + 1) j with h | h
    · have := rise_at hb.1 hz hj h
      omega
    · obtain rfl : j = i + 1 := by omega
      rw [hz] at hj
      injection hj with hj
      omega
theorem Bo.shift (hb : Bo n l b) (hy : b[i]? = some y) (hz : b[i + 1]? = some z) (h1 : y ≤ v) (h2 : v < z) : lastB l n v = (lastB l n y).map (addU · (v - y)) :=
  lastB_shift h1 fun r hr hs hn => by
    have k1 := hb.mid hy hz ((hb.2 r.lo).2 ⟨r, hr, hs, hn, .inl rfl⟩)
    have k2 := hb.mid hy hz ((hb.2 (r.hi + 1)).2 ⟨r, hr, hs, hn, .inr rfl⟩)
    omega
theorem PI.skip (h : PI l n b i out) (hb : Bo n l b) (hy : b[i]? = some y) (hz : b[i + 1]? = some z) (hn : lastB l n y = none) : PI l n b (i + 1) out := by
  have hyz := rise_at hb.1 hy hz (Nat.lt_succ_self i)
  refine ⟨h.1, fun e he => ?_, fun m v hm => ?_⟩
  · rcases h.2.1 e he with k | ⟨k1, y', k2, k3⟩
    · exact .inl k
    · rw [hy] at k2
      injection k2 with k2
      exact .inr ⟨k1, z, hz, by omega⟩
  · rcases hm with hm | ⟨rfl, z', hz', hv⟩
    · exact h.2.2 m v (.inl hm)
    · rw [hz] at hz'
      injection hz' with hz'
      by_cases hvy : v < y
      · exact h.2.2 m v (.inr ⟨rfl, y, hy, hvy⟩)
      · rw [hb.shift hy hz (by omega) (by omega), hn]
        refine lastB_far h.2.1 fun e he k => ?_
        rcases he with he | ⟨_, y', k2, k3⟩
        · have := k.1; omega
        · rw [hy] at k2
          injection k2 with k2
          omega
theorem Bo.sn (hb : Bo n l b) (hy : b[i]? = some y) (hz : b[i + 1]? = some z) (ht : lastB l n y = some t) : Sb ⟨n, y, z - 1, t⟩ := by
  have hyz := rise_at hb.1 hy hz (Nat.lt_succ_self i)
  obtain ⟨r, hr, hx⟩ := lastB_mem ht
  obtain ⟨hs, rfl, h1, h2, rfl⟩ := toB_some.1 hx
  have k2 := hb.mid hy hz ((hb.2 (r.hi + 1)).2 ⟨r, hr, hs, rfl, .inr rfl⟩)
  exact partB_sn hs h1 (by omega) (by omega)
theorem PI.ahead (h : PI l n b i out) (hy : b[i]? = some y) : ∀ e ∈ out, ahB e ⟨n, y, z - 1, t⟩ := fun e he => by
  unfold ahB
  rcases h.2.1 e he with k | ⟨k1, y', k2, k3⟩
  · exact .inl k
  · rw [hy] at k2
    injection k2 with k2
    exact .inr ⟨k1, by simp only; omega⟩
theorem PI.add (h : PI l n b i out) (hb : Bo n l b) (hy : b[i]? = some y) (hz : b[i + 1]? = some z) (ht : lastB l n y = some t) : PI l n b (i + 1) (addE out ⟨n, y, z - 1, t⟩) := by
  have hyz := rise_at hb.1 hy hz (Nat.lt_succ_self i)
  have hs := hb.sn hy hz ht
  have ha := h.ahead (z := z) (t := t) hy
  refine ⟨addE_cn hs h.1 ha, fun e he => ?_, fun m v hm => ?_⟩
  · have key := addE_ah (o := out) (x := ⟨n, y, z - 1, t⟩) (z := ⟨n, z, z, []⟩) (fun e he => by
      have := ha e he
      unfold ahB at *
      simp only at *
      omega) (.inr ⟨rfl, by show z - 1 < z; omega⟩) e he
    unfold ahB at key
    simp only at key
    rcases key with k | ⟨k1, k2⟩
    · exact .inl k
    · exact .inr ⟨k1, z, hz, k2⟩
  · rw [addE_last hs h.1.1]
    rcases hm with hm | ⟨rfl, z', hz', hv⟩
    · rw [toB_none (fun k => by have := k.1; simp only at this; omega), Option.none_or]
      exact h.2.2 m v (.inl hm)
    · rw [hz] at hz'
      injection hz' with hz'
      by_cases hvy : v < y
      · rw [toB_none (fun k => by have := k.2.1; simp only at this; omega), Option.none_or]
        exact h.2.2 m v (.inr ⟨rfl, y, hy, hvy⟩)
      · rw [hb.shift hy hz (by omega) (by omega), ht]
        have hto : toB ⟨m, y, z - 1, t⟩ m v = some (addU t (v - y)) := by
          exact toB_some.2 ⟨hs, rfl, by simp only; omega, by simp only; omega, rfl⟩
        rw [hto]
        rfl
theorem PI.done (h : PI l n b i out) (hb : Bo n l b) (hi : b.length ≤ i + 1) (hj : i < b.length ∨ i = 0) : PN l (n + 1) out := by
  refine ⟨h.1, fun e he => ?_, fun m v hm => ?_⟩
  · rcases h.2.1 e he with k | ⟨k, _⟩ <;> omega
  · by_cases hmn : m < n
    · exact h.2.2 m v (.inl hmn)
    · obtain rfl : m = n := by omega
      cases hy : b[i]? with
      | none =>
        have hnil : b = [] := by
          have := List.getElem?_eq_none_iff.1 hy
          exact List.eq_nil_of_length_eq_zero (by omega)
        have h1 : lastB out m v = none := lastB_far h.2.1 fun e he k => by
          rcases he with he | ⟨_, y', k2, _⟩
          · have := k.1; omega
          · rw [hy] at k2; cases k2
        rw [h1]
        refine (lastB_nobody fun r hr hs hn k => ?_).symm
        have := (hb.2 r.lo).2 ⟨r, hr, hs, hn, .inl rfl⟩
        rw [hnil] at this
        cases this
      | some y =>
        by_cases hv : v < y
        · exact h.2.2 m v (.inr ⟨rfl, y, hy, hv⟩)
        · have h1 : lastB out m v = none := lastB_far h.2.1 fun e he k => by
            rcases he with he | ⟨_, y', k2, _⟩
            · have := k.1; omega
            · rw [hy] at k2
              injection k2 with k2
              omega
          rw [h1]
          refine (lastB_nobody fun r hr hs hn k => ?_).symm
          have := (hb.2 (r.hi + 1)).2 ⟨r, hr, hs, hn, .inr rfl⟩
          obtain ⟨j, hj2⟩ := List.getElem?_of_mem this
          have hjl := (List.getElem?_eq_some_iff.1 hj2).1
          rcases Nat.lt_or_ge j i with h | h
          · have := rise_at hb.1 hj2 hy h
            omega
          · obtain rfl : j = i := by omega
            rw [hy] at hj2
            injection hj2 with hj2
            omega
end
end Go.Proofs.Ytkkochjdimegpaa
