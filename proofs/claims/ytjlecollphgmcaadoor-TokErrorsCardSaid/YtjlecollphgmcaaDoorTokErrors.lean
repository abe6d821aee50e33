/-
  The walk of the statement TokErrors: what stands behind an error does not matter.
-/
import Derived.Test.YtjlecollphgmcaaDoorTokAwake
import Derived.Test.YtjlecollphgmcaaDoorStrGet
namespace Go.Proofs.YtjlecollphgmcaaDoor
open Go.RowKit

set_option maxHeartbeats 1000000 in
theorem tokErrors_long (l m : List UInt8) (w : World) (hT : Tb w) (hm : l.length ≤ maxLen) (hm' : m.length ≤ maxLen) (h : 300 < l.length ∨ 300 < m.length) :
    Calls Tryd.prog 7 #[.string (str l), .string (str m)] w fun e w' => e = .returned (.bool true) ∧ Below w.heap.size w w' := by
  unfold maxLen at hm hm'
  by_cases h1 : 300 < l.length
  · have d1 : decide ((300 : Int) < (l.length : Int)) = true := by simp; omega
    go_enter Tryd.func7, Tryd.ntmps7
    go_wp2_with fail
    refine (awake_any _ hT).mono ?_
    rintro e w1 ⟨rfl, hb1⟩
    go_wp2
    go_ret
    exact ⟨rfl, hb1⟩
  · have d1 : decide ((300 : Int) < (l.length : Int)) = false := by simp; omega
    have d2 : decide ((300 : Int) < (m.length : Int)) = true := by simp; omega
    go_enter Tryd.func7, Tryd.ntmps7
    go_wp2_with fail
    refine (awake_any _ hT).mono ?_
    rintro e w1 ⟨rfl, hb1⟩
    go_wp2
    go_ret
    exact ⟨rfl, hb1⟩

set_option maxRecDepth 100000 in
set_option maxHeartbeats 4000000 in
theorem tokErrors_any (l m : List UInt8) (w : World) (hT : Tb w) (hm : l.length ≤ maxLen) (hm' : m.length ≤ maxLen) :
    Calls Tryd.prog 7 #[.string (str l), .string (str m)] w fun e w' => e = .returned (.bool true) ∧ Below w.heap.size w w' := by
  by_cases hlong : 300 < l.length ∨ 300 < m.length
  · exact tokErrors_long l m w hT hm hm' hlong
  have d1 : decide ((300 : Int) < (l.length : Int)) = false := by simp; omega
  have d2 : decide ((300 : Int) < (m.length : Int)) = false := by simp; omega
  have hl : l.length ≤ 300 := by omega
  have hml : m.length ≤ 300 := by omega
  have hAll : ∀ w, Tb w → Calls Tryd.prog 9 #[.string (str l)] w fun e w' => RetTk w (all 0 l) e w' := fun w hT => All_any l w hT.tab hT.mks (by omega)
  clear hm hm' hlong
  by_cases he : (all 0 l).e = 0 ∨ (all 0 l).e = 2
  · have HA := Lib.hid hAll
    have hE : ((all 0 l).e == 0) = true ∨ (((all 0 l).e == 0) = false ∧ ((all 0 l).e == 2) = true) := by
      rcases he with h | h
      · left; rw [h]; decide
      · right; rw [h]; decide
    clear hAll he
    unfold RetTk at HA
    generalize (all 0 l).e = E at *
    generalize (all 0 l).k = K at *
    generalize (all 0 l).l = L at *
    rcases hE with h0 | ⟨h0, h2⟩
    all_goals
      go_enter Tryd.func7, Tryd.ntmps7
      go_wp2_with fail
      refine (awake_any _ hT).mono ?_
      rintro e w1 ⟨rfl, hb1⟩
      have hT1 := hT.below' hb1
      go_wp2_with fail
      refine (HA.out _ hT1).mono ?_
      rintro e w2 ⟨A, c, rfl, hc, hst, hb2⟩
      go_wp2
      go_ret
      exact ⟨by simp, hb1.trans (hb2.mono hb1.size)⟩
  · have he0 : (all 0 l).e ≠ 0 := fun h => he (.inl h)
    have he2 : (all 0 l).e ≠ 2 := fun h => he (.inr h)
    have hk := all_k _ 0 l (Nat.le_refl _)
    obtain ⟨x1, x2⟩ := all_err_ext m _ 0 l (Nat.le_refl _) he0 he2
    have hcut := all_err_cut _ 0 l (Nat.le_refl _) he0 he2
    rw [Nat.sub_zero] at hcut
    have hK := hk.le
    rw [Nat.zero_add] at hK
    have hB : ∀ w, Tb w → Calls Tryd.prog 9 #[.string (str (l ++ 10 :: m))] w fun e w' => RetTk w (all 0 (l ++ 10 :: m)) e w' := fun w hT => All_any _ w hT.tab hT.mks (by simp; omega)
    have hC : ∀ w, Tb w → Calls Tryd.prog 9 #[.string (str (l.take (all 0 l).k))] w fun e w' => RetTk w (all 0 (l.take (all 0 l).k)) e w' := fun w hT => All_any _ w hT.tab hT.mks (by simp; omega)
    unfold RetTk at hAll hB hC
    rw [x1, x2] at hB
    have hcutB : ((all 0 (l.take (all 0 l).k)).e == 0) = true ∨ (((all 0 (l.take (all 0 l).k)).e == 0) = false ∧ ((all 0 (l.take (all 0 l).k)).e == 2) = true) := by
      rcases hcut with h | h
      · left; rw [h]; decide
      · right; rw [h]; decide
    have t0 : ((all 0 l).e == 0) = false := by rw [beq_eq_false_iff_ne]; exact he0
    have t2 : ((all 0 l).e == 2) = false := by rw [beq_eq_false_iff_ne]; exact he2
    have ap1 : str l ++ ByteArray.mk #[10] = str (l ++ [10]) := str_append l [10]
    have ap2 : str (l ++ [10]) ++ str m = str (l ++ 10 :: m) := by rw [str_append]; simp
    have hln : (l ++ [10]).length = l.length + 1 := by simp
    have hln2 : (l ++ 10 :: m).length ≤ 601 := by simp; omega
    have hln3 : (l ++ [10]).length ≤ 301 := by omega
    clear x1 x2 hcut hk he he0 he2 hln
    have hsl : ∀ wx, (Instr.slice 9 (.string (str l)) none (some (.int .i64 ((all 0 l).k : Int))) none).run Tryd.prog wx = .ok (.string (str (l.take (all 0 l).k))) wx := fun wx => run_to l _ hK 9 Tryd.underlying9 wx
    generalize (all 0 (l.take (all 0 l).k)).e = G at *
    generalize (all 0 (l.take (all 0 l).k)).k = K3 at *
    generalize (all 0 (l.take (all 0 l).k)).l = L3 at *
    generalize (all 0 (l ++ 10 :: m)).l = L2 at *
    generalize (all 0 l).e = E at *
    generalize (all 0 l).k = K at *
    generalize (all 0 l).l = L at *
    generalize l ++ 10 :: m = lm at *
    generalize l ++ [10] = l1 at *
    generalize l.take K = lt at *
    have k0 : decide ((K : Int) < 0) = false := by simp
    have k1 : decide (l.length < K) = false := by simp; omega
    have HA := Lib.hid hAll
    have HB := Lib.hid hB
    have HC := Lib.hid hC
    clear hAll hB hC
    rcases hcutB with h0 | ⟨h0, h2⟩
    all_goals
      go_enter Tryd.func7, Tryd.ntmps7
      go_wp2_with fail
      refine (awake_any _ hT).mono ?_
      rintro e w1 ⟨rfl, hb1⟩
      have hT1 := hT.below' hb1
      go_wp2_with fail
      refine (HA.out _ hT1).mono ?_
      rintro e w2 ⟨A, c, rfl, hc, _, hb2⟩
      have hT2 := hT1.below' hb2
      have hb2' := hb1.trans (hb2.mono hb1.size)
      clear hb1 hb2
      go_wp2_with fail
      refine (HB.out _ hT2).mono ?_
      rintro e w3 ⟨A3, c3, rfl, hc3, _, hb3⟩
      have hT3 := hT2.below' hb3
      have hb3' := hb2'.trans (hb3.mono hb2'.size)
      clear hb3 hb2'
      go_wp2_with fail
      refine (HC.out _ hT3).mono ?_
      rintro e w4 ⟨A4, c4, rfl, hc4, _, hb4⟩
      go_wp2
      go_ret
      exact ⟨by simp, hb3'.trans (hb4.mono hb3'.size)⟩
end Go.Proofs.YtjlecollphgmcaaDoor
