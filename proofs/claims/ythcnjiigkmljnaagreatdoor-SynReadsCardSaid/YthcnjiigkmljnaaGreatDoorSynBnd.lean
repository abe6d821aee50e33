/-
  How many there are of all that tokens come to.
-/
import Derived.Test.YthcnjiigkmljnaaGreatDoorSynSoundP
namespace Go.Proofs.YthcnjiigkmljnaaGreatDoor
open Go.RowKit

section
variable {L : List Tk} {en : Int}
theorem list_in (n : Int) : ∀ (k : Nat) (acc : List (List Int)) (i j : Nat) (x : List (List Int)), L.length - i ≤ k → (∀ l ∈ acc, l.length ≤ 64) → listT L en n acc i = .ok x j → ∀ l ∈ x, l.length ≤ 64 := by
  intro k
  induction k with
  | zero =>
    intro acc i j x hk ha h
    rw [listT, dif_neg (by omega)] at h
    cases h
  | succ k ih =>
    intro acc i j x hk ha h
    rw [listT] at h
    by_cases hi : i < L.length
    · rw [dif_pos hi] at h
      by_cases h7 : (tg L i).kind = 7
      · rw [if_pos h7] at h
        by_cases hn : (acc.length : Int) = n
        · rw [if_pos hn] at h; injection h with e _; subst e; exact ha
        · rw [if_neg hn] at h; cases h
      · rw [if_neg h7] at h
        obtain ⟨u, l, h1, h2⟩ := then_inv h
        refine ih _ _ _ _ (by omega) ?_ h2
        intro y hy
        rcases List.mem_append.1 hy with hy | hy
        · exact ha y hy
        · rw [List.mem_singleton.1 hy]; exact (unit_sane h1).2.1
    · rw [dif_neg hi] at h; cases h
theorem ent_in {kind : Int} {i j : Nat} {x : En} (h : entT L en kind i = .ok x j) : ∀ l ∈ x.ll, l.length ≤ 64 := by
  have hno : x.ll = [] → ∀ l ∈ x.ll, l.length ≤ 64 := fun e l hl => by rw [e] at hl; cases hl
  unfold entT at h
  by_cases k2 : kind = 2
  · rw [if_pos k2] at h
    obtain ⟨p, k, _, h2⟩ := then_inv h
    injection h2 with e _; subst e; exact hno rfl
  · rw [if_neg k2] at h
    by_cases k3 : kind = 3
    · rw [if_pos k3] at h
      obtain ⟨p, k, _, h2⟩ := then_inv h
      obtain ⟨t, l, _, h4⟩ := then_inv h2
      injection h4 with e _; subst e; exact hno rfl
    · rw [if_neg k3] at h
      by_cases k5 : kind = 5
      · rw [if_pos k5] at h
        obtain ⟨p, k, _, h2⟩ := then_inv h
        obtain ⟨t, l, _, h4⟩ := then_inv h2
        injection h4 with e _; subst e; exact hno rfl
      · rw [if_neg k5] at h
        by_cases k46 : kind = 4 ∨ kind = 6
        · rw [if_pos k46] at h
          obtain ⟨p, k, _, h2⟩ := then_inv h
          obtain ⟨t, l, _, h4⟩ := then_inv h2
          injection h4 with e _; subst e; exact hno rfl
        · rw [if_neg k46] at h
          by_cases k7 : kind = 7
          · rw [if_pos k7] at h
            obtain ⟨p, k, _, h2⟩ := then_inv h
            by_cases hb : k < L.length ∧ (tg L k).kind = 6
            · rw [if_pos hb] at h2
              obtain ⟨l, m, h3, h4⟩ := then_inv h2
              injection h4 with e _
              subst e
              exact list_in _ _ _ _ _ _ (Nat.le_refl _) (fun _ h => by cases h) h3
            · rw [if_neg hb] at h2
              obtain ⟨u, m, _, h4⟩ := then_inv h2
              by_cases hv : 65535 < u.1.getLast?.getD 0 + p.2.v - p.1.v
              · rw [if_pos hv] at h4; cases h4
              · rw [if_neg hv] at h4; injection h4 with e _; subst e; exact hno rfl
          · rw [if_neg k7] at h
            obtain ⟨p, k, _, h2⟩ := then_inv h
            obtain ⟨u, l, _, h4⟩ := then_inv h2
            injection h4 with e _; subst e; exact hno rfl
theorem sec_in {Pp : En → Prop} {kind n : Int} (hP : ∀ kind i x j, entT L en kind i = .ok x j → Pp x) : ∀ (k : Nat) (acc : List En) (i j : Nat) (x : List En), L.length - i ≤ k → (∀ y ∈ acc, Pp y) → secT L en kind n acc i = .ok x j → (x.length : Int) = n ∧ ∀ y ∈ x, Pp y := by
  intro k
  induction k with
  | zero =>
    intro acc i j x hk ha h
    cases hb : atW L i (endL kind) with
    | true => simp [atW, atB] at hb; omega
    | false =>
      rw [secT_step hb] at h
      obtain ⟨u, l, h1, _⟩ := then_inv h
      have := ent_ok h1
      omega
  | succ k ih =>
    intro acc i j x hk ha h
    cases hb : atW L i (endL kind) with
    | true =>
      rw [secT_end hb] at h
      by_cases hn : (acc.length : Int) = n
      · rw [if_pos hn] at h; injection h with e _; subst e; exact ⟨hn, ha⟩
      · rw [if_neg hn] at h; cases h
    | false =>
      rw [secT_step hb] at h
      obtain ⟨u, l, h1, h2⟩ := then_inv h
      have h3 := ent_ok h1
      refine ih _ _ _ _ (by omega) ?_ h2
      intro y hy
      rcases List.mem_append.1 hy with hy | hy
      · exact ha y hy
      · rw [List.mem_singleton.1 hy]; exact hP _ _ _ _ h1
theorem word_in {Pp : En → Prop} (hP : ∀ kind i x j, entT L en kind i = .ok x j → Pp x) {i j : Nat} {x : List Im} (h : wordT L en i = .ok x j) : ∀ y ∈ x, ∀ z ∈ y.ents, Pp z := by
  by_cases h1 : (tg L i).s = [100, 101, 102]
  · rw [wordT_def h1] at h
    injection h with e1 e2
    subst e1
    unfold defT
    split
    · intro y hy
      rw [List.mem_singleton.1 hy]
      intro z hz; cases hz
    · intro y hy; cases hy
  · by_cases h2 : (tg L i).s = [117, 115, 101, 99, 109, 97, 112]
    · rw [wordT_use h2] at h
      unfold useT at h
      by_cases hk : (backT L i 1).kind = 2
      · rw [if_pos hk] at h
        injection h with e1 e2
        subst e1
        intro y hy
        rw [List.mem_singleton.1 hy]
        intro z hz; cases hz
      · rw [if_neg hk] at h; cases h
    · by_cases h3 : begunT (tg L i).s = 0
      · rw [wordT_none h1 h2 h3] at h; injection h with e1 e2; subst e1; intro y hy; cases hy
      · rw [wordT_sec h1 h2 h3] at h
        unfold secW at h
        by_cases h4 : (backT L i 1).kind = 1
        · rw [if_pos h4] at h
          by_cases h5 : (backT L i 1).n < 0 ∨ 100 < (backT L i 1).n
          · rw [if_pos h5] at h; cases h
          · rw [if_neg h5] at h
            obtain ⟨y, l, h6, h7⟩ := then_inv h
            obtain ⟨q1, q2⟩ := sec_in hP _ _ _ _ _ (Nat.le_refl _) (fun _ h => by cases h) h6
            injection h7 with e1 e2
            subst e1
            intro z hz
            rw [List.mem_singleton.1 hz]
            exact q2
        · rw [if_neg h4] at h; cases h
theorem items_in {Pp : En → Prop} (hP : ∀ kind i x j, entT L en kind i = .ok x j → Pp x) : ∀ (k : Nat) (op : List Int) (acc : List Im) (i j : Nat) (x : List Im), L.length - i ≤ k → (∀ y ∈ acc, ∀ z ∈ y.ents, Pp z) → itemsT L en op acc i = .ok x j → ∀ y ∈ x, ∀ z ∈ y.ents, Pp z := by
  intro k
  induction k with
  | zero =>
    intro op acc i j x hk ha h
    rw [items_end (by omega)] at h
    by_cases ho : op = []
    · rw [if_pos ho] at h; injection h with e _; subst e; exact ha
    · rw [if_neg ho] at h; cases h
  | succ k ih =>
    intro op acc i j x hk ha h
    by_cases hi : i < L.length
    · by_cases hw : (tg L i).kind = 3 ∧ op = []
      · obtain ⟨hw, rfl⟩ := hw
        rw [items_word hi hw] at h
        obtain ⟨y, l, h1, h2⟩ := then_inv h
        have h3 := (word_ok h1).1
        refine ih _ _ _ _ _ (by omega) ?_ h2
        intro z hz
        rcases List.mem_append.1 hz with hz | hz
        · exact ha z hz
        · exact word_in hP h1 z hz
      · by_cases h6 : (tg L i).kind = 6 ∨ (tg L i).kind = 8 ∨ (tg L i).kind = 10
        · rw [items_open hi h6] at h
          by_cases h32 : op.length = 32
          · rw [if_pos h32] at h; cases h
          · rw [if_neg h32] at h; exact ih _ _ _ _ _ (by omega) ha h
        · by_cases h7 : (tg L i).kind = 7 ∨ (tg L i).kind = 9 ∨ (tg L i).kind = 11
          · rw [items_close hi h7] at h
            by_cases hh : op.head? = some (tg L i).kind
            · rw [if_pos hh] at h; exact ih _ _ _ _ _ (by omega) ha h
            · rw [if_neg hh] at h; cases h
          · rw [items_skip hi hw h6 h7] at h
            exact ih _ _ _ _ _ (by omega) ha h
    · rw [items_end hi] at h
      by_cases ho : op = []
      · rw [if_pos ho] at h; injection h with e _; subst e; exact ha
      · rw [if_neg ho] at h; cases h
/-- How many there are of all. -/
theorem parse_bnd {j : Nat} {x : List Im} (h : parseT L en = .ok x j) : ∀ y ∈ x, y.ents.length ≤ 1048576 ∧ ∀ z ∈ y.ents, z.u.length ≤ 1048576 ∧ z.ll.length ≤ 4294967296 ∧ ∀ l ∈ z.ll, l.length ≤ 1048576 := by
  intro y hy
  have h1 := parse_sane h y hy
  have h2 := items_in (Pp := fun z => ∀ l ∈ z.ll, l.length ≤ 64) (fun _ _ _ _ h => ent_in h) _ _ _ _ _ _ (Nat.le_refl _) (fun _ h => by cases h) h y hy
  refine ⟨by have := h1.few; omega, fun z hz => ?_⟩
  have h3 := h1.all z hz
  have v1 := sane_v h3.lo
  have v2 := sane_v h3.hi
  refine ⟨?_, ?_, fun l hl => by have := h2 z hz l hl; omega⟩
  · rcases h3.tt with ⟨_, e, _⟩ | ⟨_, _, _, e⟩ | ⟨_, _, _, e, _⟩
    · rw [e]; simp
    · rw [e]; simp
    · omega
  · rcases h3.tt with ⟨_, _, e⟩ | ⟨_, _, e, _⟩ | ⟨_, e, _⟩
    · rw [e]; simp
    · omega
    · rw [e]; simp
end
end Go.Proofs.YthcnjiigkmljnaaGreatDoor
