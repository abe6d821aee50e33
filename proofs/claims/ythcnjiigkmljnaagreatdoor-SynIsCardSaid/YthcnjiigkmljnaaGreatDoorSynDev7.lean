/-
  The program's parser: list.
-/
import Derived.Test.YthcnjiigkmljnaaGreatDoorSynDev6
import Derived.Test.YthcnjiigkmljnaaGreatDoorPart3
namespace Go.Proofs.YthcnjiigkmljnaaGreatDoor
open Go.RowKit

theorem units_top : ∀ (s : List UInt8), ∀ u ∈ units s, u ≤ 65535
  | [], u, h => by simp [units] at h
  | [_], u, h => by simp [units] at h
  | a :: b :: r, u, h => by
    rw [units] at h
    rcases List.mem_cons.1 h with rfl | h
    · have := a.toNat_lt; have := b.toNat_lt; omega
    · exact units_top r u h
theorem lastU_top (s : List UInt8) : lastU (units s) ≤ 65535 := by
  unfold lastU
  cases h : (units s).getLast? with
  | none => simp
  | some u => exact units_top s u (List.mem_of_getLast? h)
section
variable {L : List Tk} {en : Int}
theorem unitT_ok {i j : Nat} {x : List Int × Int} (h : unitT L en i = .ok x j) : j = i + 1 ∧ i < L.length ∧ lastU x.1 ≤ 65535 := by
  unfold unitT at h
  cases ht : takeT L en 4 i with
  | no a e => rw [ht, then_no] at h; cases h
  | ok t k =>
    obtain ⟨h1, h2, h3, _⟩ := takeT_s ht
    rw [ht, then_ok] at h
    cases hu : unitsT t with
    | none => rw [hu] at h; cases h
    | some u =>
      rw [hu] at h
      injection h with e1 e2
      subst e1
      refine ⟨by omega, h1, ?_⟩
      have : u = units t.s := by
        unfold unitsT at hu
        by_cases hc : oddB t.s = false ∧ 1 ≤ (units t.s).length ∧ (units t.s).length ≤ 64
        · rw [if_pos hc] at hu; exact (Option.some.inj hu).symm
        · rw [if_neg hc] at hu; cases hu
      rw [this]
      exact lastU_top t.s
theorem unitm0 (i : Nat) : unitmT L en 0 i = (unitT L en i).then fun u k => .ok u.1 k := by
  unfold unitmT
  cases h : unitT L en i with
  | no a e => rfl
  | ok x j =>
    rw [then_ok, then_ok, if_neg]
    have := (unitT_ok h).2.2
    omega
theorem unitm_ok {more : Int} {i j : Nat} {x : List Int} (h : unitmT L en more i = .ok x j) : j = i + 1 ∧ i < L.length := by
  unfold unitmT at h
  cases hu : unitT L en i with
  | no a e => rw [hu, then_no] at h; cases h
  | ok y k =>
    obtain ⟨h1, h2, _⟩ := unitT_ok hu
    rw [hu, then_ok] at h
    by_cases hq : 65535 - more < lastU y.1
    · rw [if_pos hq] at h; cases h
    · rw [if_neg hq] at h; injection h with _ e2; exact ⟨by omega, h2⟩
theorem listT_end {n : Int} {acc : List (List Int)} {i : Nat} (h : atB L i 7 = true) : listT L en n acc i = if (acc.length : Int) = n then .ok acc (i + 1) else .no (tg L i).at_ 6 := by
  simp [atB] at h
  rw [listT, dif_pos h.1, if_pos h.2]
theorem listT_step {n : Int} {acc : List (List Int)} {i : Nat} (h : atB L i 7 = false) : listT L en n acc i = (unitmT L en 0 i).then fun u j => listT L en n (acc ++ [u]) j := by
  rw [listT, unitm0]
  by_cases hi : i < L.length
  · rw [dif_pos hi]
    have hk : ¬ (tg L i).kind = 7 := by simpa [atB, hi] using h
    rw [if_neg hk]
    cases hu : unitT L en i with
    | no a e => rfl
    | ok x j => rw [then_ok, then_ok, then_ok, (unitT_ok hu).1]
  · rw [dif_neg hi]
    have ht : takeT L en 4 i = .no en 2 := by unfold takeT; rw [if_neg hi]
    have hu : unitT L en i = .no en 2 := by unfold unitT; rw [ht, then_no]
    rw [hu]
    rfl
/-- A row of units, with what opens it. -/
def listOT (L : List Tk) (en n : Int) (i : Nat) : Rs (List (List Int)) := (takeT L en 6 i).then fun _ j => listT L en n [] j
/-- Where the loop of list is: an error, or what is left. -/
def Lr (L : List Tk) (en n : Int) (i : Nat) (a e : Int) (out : List (List Int)) (ir : Nat) (ar er : Int) : Prop :=
  (er ≠ 0 → ∀ x, Oc (listOT L en n i) (fun _ => True) i a e x ir ar er) ∧ (er = 0 → e = 0 ∧ ar = a ∧ listOT L en n i = listT L en n out ir)
theorem Lr.start {n : Int} {i i1 : Nat} {a e a1 e1 : Int} {t : Tk} (h : Oc (takeT L en 6 i) (fun x => x = noT) i a e t i1 a1 e1) : Lr L en n i a e [] i1 a1 e1 := by
  rcases h with ⟨h1, h2, h3, h4, _⟩ | ⟨h1, h2, h3, _⟩ | ⟨h1, h2, h3, h4⟩
  · exact ⟨fun _ x => .inl ⟨h1, h2, h3, h4, trivial⟩, fun h => absurd (h4 ▸ h) h1⟩
  · exact ⟨fun _ x => .inr (.inl ⟨h1, by unfold listOT; rw [h2, then_no], h3, trivial⟩), fun h => absurd h h3⟩
  · exact ⟨fun h => absurd h4 h, fun _ => ⟨h1, h3, by unfold listOT; rw [h2, then_ok]⟩⟩
theorem Lr.step {n : Int} {i ir i2 : Nat} {a e ar a2 e2 : Int} {out : List (List Int)} {u : List Int} (h : Lr L en n i a e out ir ar 0) (hat : atB L ir 7 = false) (ho : Oc (unitmT L en 0 ir) (fun _ => True) ir ar 0 u i2 a2 e2) : Lr L en n i a e (out ++ [u]) i2 a2 e2 := by
  obtain ⟨k1, k2, k3⟩ := h.2 rfl
  rw [listT_step hat] at k3
  rcases ho with ⟨h1, _⟩ | ⟨h1, h2, h3, _⟩ | ⟨h1, h2, h3, h4⟩
  · exact absurd rfl h1
  · exact ⟨fun _ x => .inr (.inl ⟨k1, by rw [k3, h2, then_no], h3, trivial⟩), fun h => absurd h h3⟩
  · exact ⟨fun h => absurd h4 h, fun _ => ⟨k1, h3.trans k2, by rw [k3, h2, then_ok]⟩⟩
theorem Lr.done {n : Int} {i ir i2 : Nat} {a e ar er a2 e2 : Int} {out : List (List Int)} {t : Tk} (h : Lr L en n i a e out ir ar er) (hex : er ≠ 0 ∨ atB L ir 7 = true) (ho : Oc (takeT L en 7 ir) (fun x => x = noT) ir ar er t i2 a2 e2) :
    Oc (listOT L en n i) (fun _ => True) i a e out i2 (fA ((out.length : Int) != n) t.at_ a2 e2) (fE ((out.length : Int) != n) 6 e2) := by
  by_cases he : er = 0
  · subst he
    have hat : atB L ir 7 = true := by rcases hex with h | h; exact absurd rfl h; exact h
    obtain ⟨k1, k2, k3⟩ := h.2 rfl
    rw [listT_end hat] at k3
    have hat2 := hat
    simp [atB] at hat2
    have ht : takeT L en 7 ir = .ok (tg L ir) (ir + 1) := by unfold takeT; rw [if_pos hat2.1, if_pos hat2.2]
    rcases ho with ⟨h1, _⟩ | ⟨_, h2, _⟩ | ⟨_, h2, h3, h4⟩
    · exact absurd rfl h1
    · rw [ht] at h2; cases h2
    · rw [ht] at h2
      injection h2 with e1 e2'
      subst e1 e2' h4
      by_cases hn : (out.length : Int) = n
      · have : ((out.length : Int) != n) = false := by simp [hn]
        rw [this, fA_no, fE_no]
        exact .inr (.inr ⟨k1, by rw [k3, if_pos hn], h3.trans k2, rfl⟩)
      · have : ((out.length : Int) != n) = true := by simp [hn]
        rw [this, fA_yes, fE_yes]
        exact .inr (.inl ⟨k1, by rw [k3, if_neg hn], by decide, trivial⟩)
  · rcases ho with ⟨_, h2, h3, h4, _⟩ | ⟨h1, _⟩ | ⟨h1, _⟩
    · subst h2 h3 h4
      rw [fA_err he, fE_err he]
      exact h.1 he out
    · exact absurd h1 he
    · exact absurd h1 he
end
theorem infoL : (Tryz.prog.info? 48).map (fun i => (i.zero, i.size, i.bytes)) = some (some (.slice none 0 0), 1, 24) := by kernel_rfl
end Go.Proofs.YthcnjiigkmljnaaGreatDoor
