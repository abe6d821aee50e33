/-
  Sections, as plain functions: what the loop of section has done so far.
-/
import Derived.Test.YthcnjiigkmljnaaGreatDoorSynEnt3
import Derived.Test.YthcnjiigkmljnaaGreatDoorSynDev9
import Derived.Test.YthcnjiigkmljnaaGreatDoorSynDev11
namespace Go.Proofs.YthcnjiigkmljnaaGreatDoor
open Go.RowKit

section
variable {L : List Tk} {en : Int}
theorem then_inv {α β : Type} {r : Rs α} {f : α → Nat → Rs β} {y : β} {k : Nat} (h : r.then f = .ok y k) : ∃ x j, r = .ok x j ∧ f x j = .ok y k := by
  cases r with
  | no a e => cases h
  | ok x j => exact ⟨x, j, rfl, h⟩
theorem code_ok {i j : Nat} {x : Cd × Int} (h : codeT L en i = .ok x j) : j = i + 1 ∧ i < L.length := by
  obtain ⟨t, k, h1, h2⟩ := then_inv h
  obtain ⟨q1, _, q3, _⟩ := takeT_s h1
  by_cases hv : 1 ≤ t.s.length ∧ t.s.length ≤ 4
  · rw [if_pos hv] at h2; injection h2 with _ e; exact ⟨by omega, q1⟩
  · rw [if_neg hv] at h2; cases h2
theorem to_ok {m : Int} {i j : Nat} {x : Int} (h : toT L en m i = .ok x j) : j = i + 1 ∧ i < L.length := by
  obtain ⟨t, k, h1, h2⟩ := then_inv h
  obtain ⟨q1, _, q3, _⟩ := takeT_s h1
  by_cases hv : t.n < 0 ∨ 65535 - m < t.n
  · rw [if_pos hv] at h2; cases h2
  · rw [if_neg hv] at h2; injection h2 with _ e; exact ⟨by omega, q1⟩
theorem pair_ok {b : Bool} {i j : Nat} {x : Cd × Cd} (h : pairT L en b i = .ok x j) : j = i + 2 ∧ i < L.length := by
  obtain ⟨p, k, h1, h2⟩ := then_inv h
  obtain ⟨q, l, h3, h4⟩ := then_inv h2
  obtain ⟨e1, l1⟩ := code_ok h1
  obtain ⟨e2, _⟩ := code_ok h3
  by_cases hn : q.1.n = p.1.n
  · rw [if_pos hn] at h4
    by_cases hb : (b && lowB q.1 p.1 || !b && decide (q.1.v < p.1.v)) = true
    · rw [if_pos hb] at h4; cases h4
    · rw [if_neg hb] at h4; injection h4 with _ e; exact ⟨by omega, l1⟩
  · rw [if_neg hn] at h4; cases h4
theorem list_ok (n : Int) : ∀ (k : Nat) (acc : List (List Int)) (i j : Nat) (x : List (List Int)), L.length - i ≤ k → listT L en n acc i = .ok x j → i < j := by
  intro k
  induction k with
  | zero =>
    intro acc i j x hk h
    rw [listT, dif_neg (by omega)] at h
    cases h
  | succ k ih =>
    intro acc i j x hk h
    rw [listT] at h
    by_cases hi : i < L.length
    · rw [dif_pos hi] at h
      by_cases h7 : (tg L i).kind = 7
      · rw [if_pos h7] at h
        by_cases hn : (acc.length : Int) = n
        · rw [if_pos hn] at h; injection h with _ e; omega
        · rw [if_neg hn] at h; cases h
      · rw [if_neg h7] at h
        obtain ⟨u, l, _, h2⟩ := then_inv h
        have := ih _ _ _ _ (by omega) h2
        omega
    · rw [dif_neg hi] at h; cases h
theorem bf_ok {i j : Nat} {x : En} (h : bfT L en i = .ok x j) : i < j ∧ i < L.length := by
  obtain ⟨p, k, h1, h2⟩ := then_inv h
  obtain ⟨e1, l1⟩ := pair_ok h1
  by_cases hq : k < L.length ∧ (tg L k).kind = 6
  · rw [if_pos hq] at h2
    obtain ⟨l, m, h3, h4⟩ := then_inv h2
    have := list_ok _ _ _ _ _ _ (Nat.le_refl _) h3
    injection h4 with _ e
    exact ⟨by omega, l1⟩
  · rw [if_neg hq] at h2
    obtain ⟨u, m, h3, h4⟩ := then_inv h2
    have := (unitT_ok h3).1
    by_cases hu : 65535 < u.1.getLast?.getD 0 + p.2.v - p.1.v
    · rw [if_pos hu] at h4; cases h4
    · rw [if_neg hu] at h4; injection h4 with _ e; exact ⟨by omega, l1⟩
theorem ent_ok {kind : Int} {i j : Nat} {x : En} (h : entT L en kind i = .ok x j) : i < j ∧ i < L.length := by
  unfold entT at h
  by_cases h2 : kind = 2
  · rw [if_pos h2] at h
    obtain ⟨p, k, h1, h3⟩ := then_inv h
    obtain ⟨e1, l1⟩ := pair_ok h1
    injection h3 with _ e
    exact ⟨by omega, l1⟩
  rw [if_neg h2] at h
  by_cases h3 : kind = 3
  · rw [if_pos h3] at h
    obtain ⟨p, k, h1, h3⟩ := then_inv h
    obtain ⟨t, m, h5, h6⟩ := then_inv h3
    obtain ⟨e1, l1⟩ := pair_ok h1
    have := (to_ok h5).1
    injection h6 with _ e
    exact ⟨by omega, l1⟩
  rw [if_neg h3] at h
  by_cases h5 : kind = 5
  · rw [if_pos h5] at h
    obtain ⟨p, k, h1, h3⟩ := then_inv h
    obtain ⟨t, m, h5, h6⟩ := then_inv h3
    obtain ⟨e1, l1⟩ := pair_ok h1
    have := (to_ok h5).1
    injection h6 with _ e
    exact ⟨by omega, l1⟩
  rw [if_neg h5] at h
  by_cases h4 : kind = 4 ∨ kind = 6
  · rw [if_pos h4] at h
    obtain ⟨p, k, h1, h3⟩ := then_inv h
    obtain ⟨t, m, h5, h6⟩ := then_inv h3
    obtain ⟨e1, l1⟩ := code_ok h1
    have := (to_ok h5).1
    injection h6 with _ e
    exact ⟨by omega, l1⟩
  rw [if_neg h4] at h
  by_cases h7 : kind = 7
  · rw [if_pos h7] at h
    exact bf_ok h
  rw [if_neg h7] at h
  obtain ⟨p, k, h1, h3⟩ := then_inv h
  obtain ⟨t, m, h5, h6⟩ := then_inv h3
  obtain ⟨e1, l1⟩ := code_ok h1
  have := (unitT_ok h5).1
  injection h6 with _ e
  exact ⟨by omega, l1⟩
theorem secT_end {kind n : Int} {acc : List En} {i : Nat} (h : atW L i (endL kind) = true) : secT L en kind n acc i = if (acc.length : Int) = n then .ok acc (i + 1) else .no (tg L i).at_ 6 := by
  simp [atW, atB] at h
  rw [secT, if_pos ⟨h.1.1, h.1.2, h.2⟩]
theorem secT_step {kind n : Int} {acc : List En} {i : Nat} (h : atW L i (endL kind) = false) : secT L en kind n acc i = (entT L en kind i).then fun x j => secT L en kind n (acc ++ [x]) j := by
  rw [secT, if_neg]
  · cases he : entT L en kind i with
    | no a e => rfl
    | ok x j =>
      have := ent_ok he
      show (if _h : i < j ∧ i < L.length then secT L en kind n (acc ++ [x]) j else .no 0 0) = _
      rw [dif_pos this]
      rfl
  · rintro ⟨h1, h2, h3⟩
    simp [atW, atB, h1, h2, h3] at h
/-- Where the loop of section is: an error, or what is left. -/
def SecR (L : List Tk) (en kind n : Int) (i : Nat) (a : Int) (out : List En) (ir : Nat) (ar er : Int) : Prop :=
  (er ≠ 0 → secT L en kind n [] i = .no ar er) ∧ (er = 0 → ar = a ∧ secT L en kind n [] i = secT L en kind n out ir)
theorem SecR.step {kind n : Int} {i ir i2 : Nat} {a ar a2 e2 : Int} {out : List En} {x : En} (h : SecR L en kind n i a out ir ar 0) (hat : atW L ir (endL kind) = false) (ho : Oc (entT L en kind ir) (fun _ => True) ir ar 0 x i2 a2 e2) : SecR L en kind n i a (out ++ [x]) i2 a2 e2 := by
  obtain ⟨k2, k3⟩ := h.2 rfl
  rw [secT_step hat] at k3
  rcases ho with ⟨h1, _⟩ | ⟨h1, h2, h3, _⟩ | ⟨h1, h2, h3, h4⟩
  · exact absurd rfl h1
  · exact ⟨fun _ => by rw [k3, h2, then_no], fun h => absurd h h3⟩
  · exact ⟨fun h => absurd h4 h, fun _ => ⟨h3.trans k2, by rw [k3, h2, then_ok]⟩⟩
/-- What section has found in the end. -/
def SecD (L : List Tk) (en kind n : Int) (i : Nat) (a : Int) (out : List En) (iz : Nat) (az ez : Int) : Prop :=
  (ez ≠ 0 ∧ secT L en kind n [] i = .no az ez) ∨ (ez = 0 ∧ az = a ∧ secT L en kind n [] i = .ok out iz)
theorem SecR.done {kind n : Int} {i ir i2 : Nat} {a ar er a2 e2 : Int} {out : List En} {t : Tk} (h : SecR L en kind n i a out ir ar er) (hex : er ≠ 0 ∨ atW L ir (endL kind) = true) (ho : Oc (takeT L en 3 ir) (fun x => x = noT) ir ar er t i2 a2 e2) :
    SecD L en kind n i a out i2 (fA ((out.length : Int) != n) t.at_ a2 e2) (fE ((out.length : Int) != n) 6 e2) := by
  by_cases he : er = 0
  · subst he
    have hat : atW L ir (endL kind) = true := by rcases hex with h | h; exact absurd rfl h; exact h
    obtain ⟨k2, k3⟩ := h.2 rfl
    rw [secT_end hat] at k3
    have hat2 := hat
    simp [atW, atB] at hat2
    have ht : takeT L en 3 ir = .ok (tg L ir) (ir + 1) := by unfold takeT; rw [if_pos hat2.1.1, if_pos hat2.1.2]
    rcases ho with ⟨h1, _⟩ | ⟨_, h2, _⟩ | ⟨_, h2, h3, h4⟩
    · exact absurd rfl h1
    · rw [ht] at h2; cases h2
    · rw [ht] at h2
      injection h2 with e1 e2'
      subst e1 e2' h4
      by_cases hn : (out.length : Int) = n
      · have : ((out.length : Int) != n) = false := by simp [hn]
        rw [this, fA_no, fE_no]
        exact .inr ⟨rfl, h3.trans k2, by rw [k3, if_pos hn]⟩
      · have : ((out.length : Int) != n) = true := by simp [hn]
        rw [this, fA_yes, fE_yes]
        exact .inl ⟨by decide, by rw [k3, if_neg hn]⟩
  · rcases ho with ⟨_, h2, h3, h4, _⟩ | ⟨h1, _⟩ | ⟨h1, _⟩
    · subst h2 h3 h4
      rw [fA_err he, fE_err he]
      exact .inl ⟨he, h.1 he⟩
    · exact absurd h1 he
    · exact absurd h1 he
end
theorem Ex.of_loop {wr wf : World} {B P n : Nat} {e : TypeId} {v : Value} {out : List (En × Value × Value)} (hown : wr.ownsRow B e 7 v n (out.flatMap dq)) (hn : ∀ p ∈ out, Eo wr (Xv B v) p) (hf : Fr wr wf P) (hP : P < B) : Ex wf (fun b => b < B) v (out.map (·.1)) :=
  ⟨out, rfl, (Rw.of_own dq_len (by decide) (own_fr hown hf hP) (fun b hb _ => by have := (hown.lt b hb).1; omega)).2, fun p hp => (hn p hp).to (Kp.of_fr hf (fun _ => .inl hP)) (fun _ _ h => .inl h)⟩
theorem infoE : (Tryz.prog.info? 51).map (fun i => (i.zero, i.size, i.bytes)) = some (some (.agg #[.int .i64 0, .int .i64 0, .int .i64 0, .int .i64 0, .int .i64 0, .slice none 0 0, .slice none 0 0]), 7, 88) := by kernel_rfl
end Go.Proofs.YthcnjiigkmljnaaGreatDoor
