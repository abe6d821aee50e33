/-
  The program's parser: words of sections; ahead, atWord, entryOf.
-/
import Derived.Test.YthcnjiigkmljnaaGreatDoorPart3
import Derived.Test.YthcnjiigkmljnaaGreatDoorSynDev8
namespace Go.Proofs.YthcnjiigkmljnaaGreatDoor
open Go.RowKit

/-- The program's table of the sections' names. -/
def Sec (w : World) : Prop := ∀ k : Nat, k < 9 → w.cell? ⟨0, k, none⟩ = some (.string (str (wordL (k : Int))))
theorem Sec.pos {w : World} (h : Sec w) : 0 < w.heap.size := World.block_lt_of_cell? w _ (h 0 (by omega))
theorem Sec.below' {w w' : World} (h : Sec w) (hb : Below w.heap.size w w') : Sec w' := fun i hi => (hb.cell (p := ⟨0, i, none⟩) h.pos).trans (h i hi)
theorem Sec.bel {w w' : World} {S : Nat} (h : Sec w) (hS : 0 < S) (hb : Below S w w') : Sec w' := fun i hi => (hb.cell (p := ⟨0, i, none⟩) hS).trans (h i hi)
theorem Sec.fr {w w' : World} {P : Nat} (h : Sec w) (hf : Fr w w' P) (hP : 0 < P) : Sec w' := fun i hi => (hf.cell ⟨0, i, none⟩ h.pos (by show 0 ≠ P; omega)).trans (h i hi)

set_option maxRecDepth 100000 in
set_option maxHeartbeats 1000000 in
theorem qBegin_any (kind : Int) (w : World) (hs : Sec w) : Calls Tryz.prog 11 #[.int .i64 kind] w fun r w' => r = .returned (.string (str (beginL kind))) ∧ Below w.heap.size w w' := by
  unfold beginL
  by_cases h : kind < 2 ∨ 8 < kind
  · rw [if_pos h]
    have hcs : decide (kind < 2) = true ∨ (decide (kind < 2) = false ∧ decide ((8 : Int) < kind) = true) := by simp; omega
    clear hs
    rcases hcs with d1 | ⟨d1, d2⟩
    all_goals
      go_enter Tryz.func11, Tryz.ntmps11
      go_wp2
      go_ret
      exact ⟨rfl, Below.refl _ _⟩
  · rw [if_neg h]
    obtain ⟨k, hk⟩ : ∃ k : Nat, kind = (k : Int) := ⟨kind.toNat, by omega⟩
    subst hk
    have d1 : decide ((k : Int) < 2) = false := by simp; omega
    have d2 : decide ((8 : Int) < (k : Int)) = false := by simp; omega
    have hap : ByteArray.mk #[98, 101, 103, 105, 110] ++ str (wordL (k : Int)) = str ([98, 101, 103, 105, 110] ++ wordL (k : Int)) := str_append [98, 101, 103, 105, 110] (wordL (k : Int))
    have hwl := wordL_le (k : Int)
    have hk9 : k < 9 := by omega
    have hc := hs k hk9
    generalize [98, 101, 103, 105, 110] ++ wordL (k : Int) = q at *
    generalize wordL (k : Int) = wd at *
    clear hs h
    go_enter Tryz.func11, Tryz.ntmps11
    go_wp2
    go_ret
    exact ⟨rfl, Below.refl _ _⟩

set_option maxRecDepth 100000 in
set_option maxHeartbeats 1000000 in
theorem qbegun_any (s : List UInt8) (w : World) (hs : Sec w) : Calls Tryz.prog 50 #[.string (str s)] w fun r w' => r = .returned (.tuple #[.int .i64 (begunT s), .bool (begunT s != 0)]) ∧ Below w.heap.size w w' := by
  rw [begunT_eq]
  go_enter Tryz.func50, Tryz.ntmps50
  go_wp2
  go_loopw [4] (fun i wr => ∃ k : Nat, 2 ≤ k ∧ k ≤ 9 ∧ i = .int .i64 (k : Int) ∧ Hid (bgF s k = bgF s 2) ∧ Below w.heap.size w wr) (fun i _ => 10 - (intOf i).toNat)
  case atStart => exact ⟨2, by omega, by omega, rfl, Lib.hid rfl, Below.refl _ _⟩
  case round =>
    obtain ⟨k, hk2, hk9, rfl, HB, hbel⟩ := hrel
    by_cases hk : k ≤ 8
    · have t0 : decide ((k : Int) ≤ 8) = true := by simp; omega
      have hc := (hs.below' hbel) k (by omega)
      have hap : ByteArray.mk #[98, 101, 103, 105, 110] ++ str (wordL (k : Int)) = str (beginL (k : Int)) := by
        unfold beginL
        rw [if_neg (by omega)]
        exact str_append [98, 101, 103, 105, 110] (wordL (k : Int))
      have hwl := wordL_le (k : Int)
      by_cases hs : s = beginL (k : Int)
      · have HV : Hid (bgF s 2 = (k : Int)) := Lib.hid (by rw [← HB.out]; exact bgF_yes hk hs)
        rw [← hs] at hap
        generalize wordL (k : Int) = wd at *
        clear hs
        go_wp2
        go_ret2
        rw [HV.out]
        have : ((k : Int) != 0) = true := by rw [bne_iff_ne]; omega
        rw [this]
        exact ⟨rfl, hbel⟩
      · have HB2 : Hid (bgF s (k + 1) = bgF s 2) := Lib.hid (by rw [← HB.out]; exact (bgF_no hk hs).symm)
        have t1 : (s == beginL (k : Int)) = false := by rw [beq_eq_false_iff_ne]; exact hs
        generalize beginL (k : Int) = q at *
        generalize wordL (k : Int) = wd at *
        clear hs
        go_wp2
        go_roundw
        case rel => exact ⟨k + 1, by omega, by omega, by go_num, HB2, hbel⟩
        case measure => simp [intOf]; omega
    · have t0 : decide ((k : Int) ≤ 8) = false := by simp; omega
      have HV : Hid (bgF s 2 = 0) := Lib.hid (by rw [← HB.out]; exact bgF_end (by omega))
      go_wp2
      go_ret2
      rw [HV.out]
      exact ⟨rfl, hbel⟩

section
variable {w : World} {P : Nat} {A : Option Addr} {c : Nat} {L : List Tk} {i : Nat} {en a e : Int} {vc vi : Value}
set_option maxRecDepth 100000 in
set_option maxHeartbeats 1000000 in
/-- The token so many ahead of the one that was taken last. -/
theorem qahead_any (h : Qs w P A c L (i + 1) en vc vi a e) (hi : i < L.length) (hL : L.length ≤ 1048576) (n : Nat) (hn : 1 ≤ n) (hn2 : n ≤ 2) :
    Calls Tryz.prog 70 #[.pointer (some ⟨P, 0, none⟩), .int .i64 (n : Int)] w fun r w' => r = .returned (tv (backT L i n)) ∧ Below w.heap.size w w' := by
  have c0 := h.c0
  have c2 := h.c2
  have hlt := h.lt
  unfold backT
  by_cases hb : n ≤ i ∧ i - n < L.length
  · rw [if_pos hb]
    obtain ⟨b, o, hAe, hbP, hcl⟩ := h.tl (by omega)
    obtain ⟨g0, g1, g2, g3⟩ := hcl (i - n) hb.2
    subst hAe
    clear h hcl
    unfold tv
    generalize (tg L (i - n)).kind = q1 at *
    generalize (tg L (i - n)).at_ = q2 at *
    generalize (tg L (i - n)).n = q3 at *
    generalize (tg L (i - n)).s = q4 at *
    have ek : (i : Int) - (n : Int) = ((i - n : Nat) : Int) := by omega
    obtain ⟨hb1, hb2⟩ := hb
    have ec : ((i + 1 : Nat) : Int) = (i : Int) + 1 := by omega
    rw [ec] at c2
    generalize i - n = k at *
    have t0 : decide (((k : Nat) : Int) < 0) = false := by simp
    have hbw : b < w.heap.size := by omega
    have hPw : P ≠ w.heap.size := by omega
    go_enter Tryz.func70, Tryz.ntmps70
    go_wp2
    refine bodyPost_ret (v := _) (by simp [results, Tryz.results70, go_sem]; try rfl) rfl ⟨rfl, (Below.refl _ _).alloc (Nat.le_refl _) _⟩
  · rw [if_neg hb]
    clear h
    have ec : ((i + 1 : Nat) : Int) = (i : Int) + 1 := by omega
    rw [ec] at c2
    have t0 : decide ((i : Int) - (n : Int) < 0) = true := by simp; omega
    clear hb
    go_enter Tryz.func70, Tryz.ntmps70
    go_wp2
    refine bodyPost_ret (v := _) (by simp [results, Tryz.results70, go_sem]; try rfl) rfl ⟨rfl, (Below.refl _ _).alloc (Nat.le_refl _) _⟩
end
end Go.Proofs.YthcnjiigkmljnaaGreatDoor
