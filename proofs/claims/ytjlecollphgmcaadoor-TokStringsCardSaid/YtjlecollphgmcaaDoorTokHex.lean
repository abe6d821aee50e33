/-
  tok.hexAt: a Hex, whose "<" stands at a place; strings.Cut at ">".
-/
import Derived.Test.YtjlecollphgmcaaDoorTokVal
import Derived.Test.YtjlecollphgmcaaDoorLexRune
import Derived.Test.YtjlecollphgmcaaDoorHexUn
import Derived.BigQuiet
import Derived.Deep.QuietTactic
import Derived.Deep.RegionHeld
import Derived.Deep.DrawnRows
namespace Go.Proofs.YtjlecollphgmcaaDoor
open Go.RowKit
attribute [local go_sem ↓] Go.wp_at_zero Go.wp_at_succ

def gx (t : List UInt8) : Int := if gt t < t.length then (gt t : Int) else -1
theorem gt_le : ∀ t : List UInt8, gt t ≤ t.length
  | [] => Nat.le_refl _
  | b :: t => by have := gt_le t; simp only [gt]; split <;> simp; omega
theorem idx_gt : ∀ t : List UInt8, Lib.indexByte t 62 = gx t
  | [] => rfl
  | b :: t => by
    have ih := idx_gt t
    have hle := gt_le t
    unfold gx at ih ⊢
    by_cases hb : b = 62
    · subst hb
      simp [Lib.indexByte, gt]
    · have hb' : (b == 62) = false := by rw [beq_eq_false_iff_ne]; exact hb
      simp only [Lib.indexByte, hb', gt, if_neg hb, List.length_cons, ih]
      by_cases h : gt t < t.length
      · have h2 : gt t + 1 < t.length + 1 := by omega
        have h3 : ((gt t : Int) == -1) = false := by rw [beq_eq_false_iff_ne]; omega
        simp [h, h2, h3]
      · have h2 : ¬ gt t + 1 < t.length + 1 := by omega
        simp [h, h2]
set_option maxRecDepth 100000 in
set_option maxHeartbeats 2000000 in
theorem Index_gt (t : List UInt8) (w : World) :
    Calls Tryd.prog 62 #[.string (str t), .string (ByteArray.mk #[62])] w fun e w' => e = .returned (.int .i64 (gx t)) ∧ w = w' := by
  have hI : ∀ w, Calls Tryd.prog 63 #[.string (str t), .int .u8 62] w fun e w' => e = .returned (.int .i64 (gx t)) ∧ w' = w := fun w => by
    have := liteIndexByte_any (str t) 62 w
    rw [← idx_gt]
    exact this
  have HI := Lib.hid hI
  clear hI
  obtain ⟨q, hq⟩ : ∃ q : List UInt8, q = [62] := ⟨_, rfl⟩
  have eq : ByteArray.mk #[62] = str q := by rw [hq]; rfl
  have hql : q.length = 1 := by rw [hq]; rfl
  have hqg : ∀ h, (str q)[0]'h = 62 := fun h => (get_str q 0 h).trans (by rw [hq]; rfl)
  rw [eq]
  by_cases hs : t = [62]
  · have e : gx t = 0 := by rw [hs]; rfl
    have t1 : (q == t) = true := by rw [hs, hq]; rfl
    rw [e]
    clear HI e hs hq eq
    go_enter Tryd.func62, Tryd.ntmps62
    go_wp2
    go_ret
    exact ⟨rfl, rfl⟩
  · have t1 : (q == t) = false := by rw [beq_eq_false_iff_ne, hq]; exact fun e => hs e.symm
    clear hs hq eq
    go_enter Tryd.func62, Tryd.ntmps62
    go_wp2_with (go_at_call 63; refine (HI.out _).mono ?_; rintro e w' ⟨rfl, rfl⟩)
    go_ret
    exact ⟨rfl, rfl⟩

theorem run_to {P : Program} (l : List UInt8) (k : Nat) (h : k ≤ l.length) (t : TypeId) (ht : P.underlying t = some .string) (wx : World) : (Instr.slice t (.string (str l)) none (some (.int .i64 (k : Int))) none).run P wx = .ok (.string (str (l.take k))) wx := by
  rw [run_slice_string_to_if wx t (str l) .i64 (k : Int) ht]
  simp [str_size, str_extract, h]
set_option maxRecDepth 100000 in
set_option maxHeartbeats 2000000 in
theorem Cut_gt (t : List UInt8) (w : World) (hl : t.length ≤ 1073741824) :
    Calls Tryd.prog 36 #[.string (str t), .string (ByteArray.mk #[62])] w fun e w' => e = .returned (.tuple #[.string (str (if gt t < t.length then t.take (gt t) else t)), .string (str (if gt t < t.length then t.drop (gt t + 1) else [])), .bool (decide (gt t < t.length))]) ∧ Below w.heap.size w w' := by
  have hC : ∀ w, Calls Tryd.prog 52 #[.string (str t), .string (ByteArray.mk #[62])] w fun e w' => e = .returned (.tuple #[.string (str (if gt t < t.length then t.take (gt t) else t)), .string (str (if gt t < t.length then t.drop (gt t + 1) else [])), .bool (decide (gt t < t.length))]) ∧ Below w.heap.size w w' := by
    intro w
    have hI : ∀ w, Calls Tryd.prog 62 #[.string (str t), .string (ByteArray.mk #[62])] w fun e w' => e = .returned (.int .i64 (gx t)) ∧ w = w' := fun w => Index_gt t w
    by_cases h : gt t < t.length
    · have e : gx t = (gt t : Int) := if_pos h
      rw [e] at hI
      rw [if_pos h, if_pos h, decide_eq_true h]
      have s1 := run_to (P := Tryd.prog) t (gt t) (by omega) 9 Tryd.underlying9
      have s2 := run_from (P := Tryd.prog) t (gt t + 1) (by omega) 9 Tryd.underlying9
      have hcast : ((gt t + 1 : Nat) : Int) = (gt t : Int) + 1 := by omega
      rw [hcast] at s2
      clear e
      generalize gt t = g at *
      generalize t.take g = a at *
      generalize t.drop (g + 1) = b at *
      have HI := Lib.hid hI
      have hwr : IntKind.i64.wrap ((g : Int) + 1) = (g : Int) + 1 := IntWalk.i64_in _ (by omega)
      clear hI hcast
      go_enter Tryd.func52, Tryd.ntmps52
      go_wp2_with (go_at_call 62; refine (HI.out _).mono ?_; rintro e w' ⟨rfl, rfl⟩)
      go_region_held (fun _ => True) (trivial) (fail)
      all_goals
        go_wp2
        go_ret3
        exact ⟨rfl, by first | exact Below.refl _ _ | exact below_drewN (Below.refl _ _) _ | exact (below_drewN (Below.refl _ _) _).drew | exact below_drewN (below_drewN (Below.refl _ _) _) _⟩
    · have e : gx t = -1 := if_neg h
      rw [e] at hI
      rw [if_neg h, if_neg h, decide_eq_false h]
      have HI := Lib.hid hI
      clear hI e
      go_enter Tryd.func52, Tryd.ntmps52
      go_wp2_with (go_at_call 62; refine (HI.out _).mono ?_; rintro e w' ⟨rfl, rfl⟩)
      go_ret3
      exact ⟨rfl, Below.refl _ _⟩
  generalize (if gt t < t.length then t.take (gt t) else t) = a at *
  generalize (if gt t < t.length then t.drop (gt t + 1) else []) = b at *
  generalize decide (gt t < t.length) = c at *
  have HC := Lib.hid hC
  clear hC
  go_enter Tryd.func36, Tryd.ntmps36
  go_wp2_with (go_at_call 52; refine (HC.out _).mono ?_; rintro e w2 ⟨rfl, hb2⟩)
  go_ret3
  exact ⟨rfl, hb2⟩

set_option maxRecDepth 100000 in
set_option maxHeartbeats 2000000 in
theorem hexAt_any (l : List UInt8) (p : Nat) (w : World) (ht : Tab w) (hp : p < l.length) (hl : l.length ≤ 1048576) :
    Calls Tryd.prog 21 #[.string (str l), .int .i64 (p : Int)] w fun e w' => e = .returned (rv p (tkHex (l.drop (p + 1)))) ∧ Below w.heap.size w w' := by
  have hsl := run_from (P := Tryd.prog) l (p + 1) (by omega) 9 Tryd.underlying9
  have hcast : ((p + 1 : Nat) : Int) = (p : Int) + 1 := by omega
  rw [hcast] at hsl
  have hta := ht.below' ((Below.refl _ _).alloc (Nat.le_refl _) tok0)
  unfold tok0 at hta
  have hlen : (l.drop (p + 1)).length = l.length - (p + 1) := List.length_drop
  have hgl := gt_le (l.drop (p + 1))
  have hC : ∀ w, Calls Tryd.prog 36 #[.string (str (l.drop (p + 1))), .string (ByteArray.mk #[62])] w _ := fun w => Cut_gt (l.drop (p + 1)) w (by omega)
  unfold tkHex
  generalize l.drop (p + 1) = d at *
  by_cases hg : gt d < d.length
  · simp only [if_pos hg, decide_eq_true hg] at hC
    rw [if_pos hg]
    have htl : (d.take (gt d)).length = gt d := by simp; omega
    have hU : ∀ w, Tab w → Calls Tryd.prog 37 #[.string (str (d.take (gt d)))] w (RetBytes w (unB (d.take (gt d))) (unN (d.take (gt d))) (unE (d.take (gt d)))) := fun w ht => UnHex_any _ w ht (by omega)
    have hbad := bad_le (d.take (gt d))
    have hun : unN (d.take (gt d)) = (bad (d.take (gt d)) : Int) := rfl
    have hE : unE (d.take (gt d)) = 0 ∨ unE (d.take (gt d)) = 1 := by unfold unE; split <;> simp
    rw [hun] at hU
    generalize d.take (gt d) = a at *
    generalize d.drop (gt d + 1) = b at *
    generalize gt d = g at *
    generalize unB a = ub at *
    generalize bad a = bn at *
    have HC := Lib.hid hC
    clear hC hun
    rcases hE with h0 | h1
    · rw [h0] at hU ⊢
      have e1 : (p : Int) + ((g + 2 : Nat) : Int) = (p : Int) + 2 + (g : Int) := by omega
      rw [if_pos rfl, rv_ok, e1]
      clear e1
      have HU := Lib.hid hU
      clear hU h0
      go_enter Tryd.func21, Tryd.ntmps21
      go_wp2_with (first | (go_at_call 36; refine (HC.out _).mono ?_; rintro e w2 ⟨rfl, hb2⟩; have ht2 := hta.below' hb2) | (go_at_call 37; refine (HU.out _ ht2).mono ?_; rintro e w3 ⟨A, c, rfl, hc, hsl3, hb3⟩; obtain ⟨⟨c0, c1, c2, c3⟩, ⟨z0, z1, z2, z3⟩, hlt, hB⟩ := res_of (hb2.trans (hb3.mono hb2.size)); have hcv := conv8 hsl3 c; clear hb2 hb3 hsl3))
      refine bodyPost_ret (v := _) (by simp [results, Tryd.results21, go_sem, c0, c1, c2, c3]; try rfl) rfl ⟨rfl, below_4 hB (Nat.le_refl _) _ _ _ _⟩
    · rw [h1] at hU ⊢
      have e1 : (p : Int) + ((1 + bn : Nat) : Int) = (p : Int) + 1 + (bn : Int) := by omega
      rw [if_neg (by decide), rv_no _ _ _ (by decide), e1]
      clear e1
      have HU := Lib.hid hU
      clear hU h1
      go_enter Tryd.func21, Tryd.ntmps21
      go_wp2_with (first | (go_at_call 36; refine (HC.out _).mono ?_; rintro e w2 ⟨rfl, hb2⟩; have ht2 := hta.below' hb2) | (go_at_call 37; refine (HU.out _ ht2).mono ?_; rintro e w3 ⟨A, c, rfl, hc, hsl3, hb3⟩; obtain ⟨⟨c0, c1, c2, c3⟩, ⟨z0, z1, z2, z3⟩, hlt, hB⟩ := res_of (hb2.trans (hb3.mono hb2.size)); clear hb2 hb3 hsl3))
      refine bodyPost_ret (v := _) (by simp [results, Tryd.results21, go_sem, c0, c1, c2, c3]; try rfl) rfl ⟨rfl, below_4 hB (Nat.le_refl _) _ _ _ _⟩
  · simp only [if_neg hg, decide_eq_false hg] at hC
    rw [if_neg hg, rv_no _ _ _ (by decide)]
    have hpl : (p : Int) + ((1 + d.length : Nat) : Int) = (l.length : Int) := by omega
    rw [hpl]
    have HC := Lib.hid hC
    clear hC hg hgl hpl hlen
    go_enter Tryd.func21, Tryd.ntmps21
    go_wp2_with (go_at_call 36; refine (HC.out _).mono ?_; rintro e w2 ⟨rfl, hb2⟩; obtain ⟨⟨c0, c1, c2, c3⟩, ⟨z0, z1, z2, z3⟩, hlt, hB⟩ := res_of hb2; clear hb2)
    refine bodyPost_ret (v := _) (by simp [results, Tryd.results21, go_sem, c0, c1, c2, c3]; try rfl) rfl ⟨rfl, below_4 hB (Nat.le_refl _) _ _ _ _⟩
end Go.Proofs.YtjlecollphgmcaaDoor
