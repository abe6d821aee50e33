/-
  The walk of the statement UtfPairs.
-/
import Derived.Test.YtclehobammhjmaaUtfAwake
import Derived.Deep.QuietTactic
import Derived.BigQuiet
namespace Go.Proofs.Ytclehobammhjmaa
open Go.RowKit

theorem dec16_no {a b : Int} (h : hiB a = false ∨ loB b = false) : dec16 [a, b] = [one16 a, one16 b] := by
  rcases h with h | h
  · rw [dec16_lone h, dec16_one]
  · rw [dec16_apart h, dec16_one]

set_option maxRecDepth 100000 in
set_option maxHeartbeats 2000000 in
theorem pairs_lo_good (a b q : Int) (w : World) (hl : dec16 [a, b] = [a, q]) (ha : one16 a = a) (hb : one16 b = q) (hg : goodB a = true) (h1 : a < 55296) :
    Calls Try.prog 6 #[.int .i64 a, .int .i64 b] w fun e w' => e = .returned (.bool true) ∧ Below w.heap.size w w' := by
  have hD := Dec16_two a b
  rw [hl] at hD
  have hDa := Dec16_one a
  rw [ha] at hDa
  have hDb := Dec16_one b
  rw [hb] at hDb
  have hG : ∀ w, Calls Try.prog 10 #[.int .i64 a] w fun e w' => e = .returned (.bool true) ∧ w' = w := fun w => by rw [← hg]; exact (Good_any _ w).mono fun _ _ h => ⟨h.1, h.2.symm⟩
  have HD := Lib.hid hD
  have HDa := Lib.hid hDa
  have HDb := Lib.hid hDb
  have HG := Lib.hid hG
  clear hD hDa hDb hG hl ha hb hg
  have d1 : decide (a ≤ 65535) = true := by simp; omega
  go_enter Try.func6, Try.ntmps6
  go_wp2_with fail
  refine (awake_any _).mono ?_
  rintro e w1 ⟨rfl, hb1⟩
  go_wp2_with fail
  refine (HD.out _).mono ?_
  rintro e w2 ⟨A2, c2, rfl, hs2, hb2⟩
  have hb2' := hb1.trans (hb2.mono hb1.size)
  go_wp2_with fail
  refine (HDa.out _).mono ?_
  rintro e w3 ⟨A3, c3, rfl, hs3, hb3⟩
  have hb3' := hb2'.trans (hb3.mono hb2'.size)
  go_wp2_with fail
  refine (HDb.out _).mono ?_
  rintro e w4 ⟨A4, c4, rfl, hs4, hb4⟩
  have hb4' := hb3'.trans (hb4.mono hb3'.size)
  obtain ⟨b2, o2, rfl, _, k2⟩ := (hs2.over hb3).over hb4 (by simp)
  obtain ⟨b3, o3, rfl, _, k3⟩ := hs3.over hb4 (by simp)
  obtain ⟨b4, o4, rfl, _, k4⟩ := hs4 (by simp)
  have c20 : w4.cell? ⟨b2, o2, none⟩ = some (.int .i64 a) := k2 0 (by simp)
  have c21 : w4.cell? ⟨b2, o2 + 1, none⟩ = some (.int .i64 q) := k2 1 (by simp)
  have c30 : w4.cell? ⟨b3, o3, none⟩ = some (.int .i64 a) := k3 0 (by simp)
  have c40 : w4.cell? ⟨b4, o4, none⟩ = some (.int .i64 q) := k4 0 (by simp)
  clear k2 k3 k4
  go_wp2_with fail
  go_quiet ((go_at_call 10; exact Calls.quiet_of_same (HG.out _)))
  go_wp2
  go_ret
  exact ⟨rfl, below_drewN hb4' _⟩

set_option maxRecDepth 100000 in
set_option maxHeartbeats 2000000 in
theorem pairs_lo_bad (a b q : Int) (w : World) (hl : dec16 [a, b] = [65533, q]) (ha : one16 a = 65533) (hb : one16 b = q) (hg : goodB a = false) (h1 : a < 55296) :
    Calls Try.prog 6 #[.int .i64 a, .int .i64 b] w fun e w' => e = .returned (.bool true) ∧ Below w.heap.size w w' := by
  have hD := Dec16_two a b
  rw [hl] at hD
  have hDa := Dec16_one a
  rw [ha] at hDa
  have hDb := Dec16_one b
  rw [hb] at hDb
  have hG : ∀ w, Calls Try.prog 10 #[.int .i64 a] w fun e w' => e = .returned (.bool false) ∧ w' = w := fun w => by rw [← hg]; exact (Good_any _ w).mono fun _ _ h => ⟨h.1, h.2.symm⟩
  have HD := Lib.hid hD
  have HDa := Lib.hid hDa
  have HDb := Lib.hid hDb
  have HG := Lib.hid hG
  clear hD hDa hDb hG hl ha hb hg
  go_enter Try.func6, Try.ntmps6
  go_wp2_with fail
  refine (awake_any _).mono ?_
  rintro e w1 ⟨rfl, hb1⟩
  go_wp2_with fail
  refine (HD.out _).mono ?_
  rintro e w2 ⟨A2, c2, rfl, hs2, hb2⟩
  have hb2' := hb1.trans (hb2.mono hb1.size)
  go_wp2_with fail
  refine (HDa.out _).mono ?_
  rintro e w3 ⟨A3, c3, rfl, hs3, hb3⟩
  have hb3' := hb2'.trans (hb3.mono hb2'.size)
  go_wp2_with fail
  refine (HDb.out _).mono ?_
  rintro e w4 ⟨A4, c4, rfl, hs4, hb4⟩
  have hb4' := hb3'.trans (hb4.mono hb3'.size)
  obtain ⟨b2, o2, rfl, _, k2⟩ := (hs2.over hb3).over hb4 (by simp)
  obtain ⟨b3, o3, rfl, _, k3⟩ := hs3.over hb4 (by simp)
  obtain ⟨b4, o4, rfl, _, k4⟩ := hs4 (by simp)
  have c20 : w4.cell? ⟨b2, o2, none⟩ = some (.int .i64 65533) := k2 0 (by simp)
  have c21 : w4.cell? ⟨b2, o2 + 1, none⟩ = some (.int .i64 q) := k2 1 (by simp)
  have c30 : w4.cell? ⟨b3, o3, none⟩ = some (.int .i64 65533) := k3 0 (by simp)
  have c40 : w4.cell? ⟨b4, o4, none⟩ = some (.int .i64 q) := k4 0 (by simp)
  clear k2 k3 k4
  go_wp2_with fail
  go_quiet ((go_at_call 10; exact Calls.quiet_of_same (HG.out _)))
  go_wp2
  go_ret
  exact ⟨rfl, below_drewN hb4' _⟩

set_option maxRecDepth 100000 in
set_option maxHeartbeats 2000000 in
theorem pairs_up_good (a b q : Int) (w : World) (hl : dec16 [a, b] = [a, q]) (ha : one16 a = a) (hb : one16 b = q) (hg : goodB a = true) (h1 : 56320 ≤ a) (h4 : a ≤ 65535) :
    Calls Try.prog 6 #[.int .i64 a, .int .i64 b] w fun e w' => e = .returned (.bool true) ∧ Below w.heap.size w w' := by
  have hD := Dec16_two a b
  rw [hl] at hD
  have hDa := Dec16_one a
  rw [ha] at hDa
  have hDb := Dec16_one b
  rw [hb] at hDb
  have hG : ∀ w, Calls Try.prog 10 #[.int .i64 a] w fun e w' => e = .returned (.bool true) ∧ w' = w := fun w => by rw [← hg]; exact (Good_any _ w).mono fun _ _ h => ⟨h.1, h.2.symm⟩
  have HD := Lib.hid hD
  have HDa := Lib.hid hDa
  have HDb := Lib.hid hDb
  have HG := Lib.hid hG
  clear hD hDa hDb hG hl ha hb hg
  have h2 : ¬ a < 56320 := by omega
  have h3 : 55296 ≤ a := by omega
  go_enter Try.func6, Try.ntmps6
  go_wp2_with fail
  refine (awake_any _).mono ?_
  rintro e w1 ⟨rfl, hb1⟩
  go_wp2_with fail
  refine (HD.out _).mono ?_
  rintro e w2 ⟨A2, c2, rfl, hs2, hb2⟩
  have hb2' := hb1.trans (hb2.mono hb1.size)
  go_wp2_with fail
  refine (HDa.out _).mono ?_
  rintro e w3 ⟨A3, c3, rfl, hs3, hb3⟩
  have hb3' := hb2'.trans (hb3.mono hb2'.size)
  go_wp2_with fail
  refine (HDb.out _).mono ?_
  rintro e w4 ⟨A4, c4, rfl, hs4, hb4⟩
  have hb4' := hb3'.trans (hb4.mono hb3'.size)
  obtain ⟨b2, o2, rfl, _, k2⟩ := (hs2.over hb3).over hb4 (by simp)
  obtain ⟨b3, o3, rfl, _, k3⟩ := hs3.over hb4 (by simp)
  obtain ⟨b4, o4, rfl, _, k4⟩ := hs4 (by simp)
  have c20 : w4.cell? ⟨b2, o2, none⟩ = some (.int .i64 a) := k2 0 (by simp)
  have c21 : w4.cell? ⟨b2, o2 + 1, none⟩ = some (.int .i64 q) := k2 1 (by simp)
  have c30 : w4.cell? ⟨b3, o3, none⟩ = some (.int .i64 a) := k3 0 (by simp)
  have c40 : w4.cell? ⟨b4, o4, none⟩ = some (.int .i64 q) := k4 0 (by simp)
  clear k2 k3 k4
  go_wp2_with fail
  go_quiet ((go_at_call 10; exact Calls.quiet_of_same (HG.out _)))
  go_wp2
  go_ret
  exact ⟨rfl, below_drewN hb4' _⟩

set_option maxRecDepth 100000 in
set_option maxHeartbeats 2000000 in
theorem pairs_up_far (a b q : Int) (w : World) (hl : dec16 [a, b] = [65533, q]) (ha : one16 a = 65533) (hb : one16 b = q) (hg : goodB a = true) (h4 : 65535 < a) :
    Calls Try.prog 6 #[.int .i64 a, .int .i64 b] w fun e w' => e = .returned (.bool true) ∧ Below w.heap.size w w' := by
  have hD := Dec16_two a b
  rw [hl] at hD
  have hDa := Dec16_one a
  rw [ha] at hDa
  have hDb := Dec16_one b
  rw [hb] at hDb
  have hG : ∀ w, Calls Try.prog 10 #[.int .i64 a] w fun e w' => e = .returned (.bool true) ∧ w' = w := fun w => by rw [← hg]; exact (Good_any _ w).mono fun _ _ h => ⟨h.1, h.2.symm⟩
  have HD := Lib.hid hD
  have HDa := Lib.hid hDa
  have HDb := Lib.hid hDb
  have HG := Lib.hid hG
  clear hD hDa hDb hG hl ha hb hg
  have h2 : ¬ a < 56320 := by omega
  have h3 : 55296 ≤ a := by omega
  have h5 : decide (a ≤ 65535) = false := by simp; omega
  go_enter Try.func6, Try.ntmps6
  go_wp2_with fail
  refine (awake_any _).mono ?_
  rintro e w1 ⟨rfl, hb1⟩
  go_wp2_with fail
  refine (HD.out _).mono ?_
  rintro e w2 ⟨A2, c2, rfl, hs2, hb2⟩
  have hb2' := hb1.trans (hb2.mono hb1.size)
  go_wp2_with fail
  refine (HDa.out _).mono ?_
  rintro e w3 ⟨A3, c3, rfl, hs3, hb3⟩
  have hb3' := hb2'.trans (hb3.mono hb2'.size)
  go_wp2_with fail
  refine (HDb.out _).mono ?_
  rintro e w4 ⟨A4, c4, rfl, hs4, hb4⟩
  have hb4' := hb3'.trans (hb4.mono hb3'.size)
  obtain ⟨b2, o2, rfl, _, k2⟩ := (hs2.over hb3).over hb4 (by simp)
  obtain ⟨b3, o3, rfl, _, k3⟩ := hs3.over hb4 (by simp)
  obtain ⟨b4, o4, rfl, _, k4⟩ := hs4 (by simp)
  have c20 : w4.cell? ⟨b2, o2, none⟩ = some (.int .i64 65533) := k2 0 (by simp)
  have c21 : w4.cell? ⟨b2, o2 + 1, none⟩ = some (.int .i64 q) := k2 1 (by simp)
  have c30 : w4.cell? ⟨b3, o3, none⟩ = some (.int .i64 65533) := k3 0 (by simp)
  have c40 : w4.cell? ⟨b4, o4, none⟩ = some (.int .i64 q) := k4 0 (by simp)
  clear k2 k3 k4
  go_wp2_with fail
  go_quiet ((go_at_call 10; exact Calls.quiet_of_same (HG.out _)))
  go_wp2
  go_ret
  exact ⟨rfl, below_drewN hb4' _⟩

set_option maxRecDepth 100000 in
set_option maxHeartbeats 2000000 in
theorem pairs_up_bad (a b q : Int) (w : World) (hl : dec16 [a, b] = [65533, q]) (ha : one16 a = 65533) (hb : one16 b = q) (hg : goodB a = false) (h1 : 56320 ≤ a) :
    Calls Try.prog 6 #[.int .i64 a, .int .i64 b] w fun e w' => e = .returned (.bool true) ∧ Below w.heap.size w w' := by
  have hD := Dec16_two a b
  rw [hl] at hD
  have hDa := Dec16_one a
  rw [ha] at hDa
  have hDb := Dec16_one b
  rw [hb] at hDb
  have hG : ∀ w, Calls Try.prog 10 #[.int .i64 a] w fun e w' => e = .returned (.bool false) ∧ w' = w := fun w => by rw [← hg]; exact (Good_any _ w).mono fun _ _ h => ⟨h.1, h.2.symm⟩
  have HD := Lib.hid hD
  have HDa := Lib.hid hDa
  have HDb := Lib.hid hDb
  have HG := Lib.hid hG
  clear hD hDa hDb hG hl ha hb hg
  have h2 : ¬ a < 56320 := by omega
  have h3 : 55296 ≤ a := by omega
  go_enter Try.func6, Try.ntmps6
  go_wp2_with fail
  refine (awake_any _).mono ?_
  rintro e w1 ⟨rfl, hb1⟩
  go_wp2_with fail
  refine (HD.out _).mono ?_
  rintro e w2 ⟨A2, c2, rfl, hs2, hb2⟩
  have hb2' := hb1.trans (hb2.mono hb1.size)
  go_wp2_with fail
  refine (HDa.out _).mono ?_
  rintro e w3 ⟨A3, c3, rfl, hs3, hb3⟩
  have hb3' := hb2'.trans (hb3.mono hb2'.size)
  go_wp2_with fail
  refine (HDb.out _).mono ?_
  rintro e w4 ⟨A4, c4, rfl, hs4, hb4⟩
  have hb4' := hb3'.trans (hb4.mono hb3'.size)
  obtain ⟨b2, o2, rfl, _, k2⟩ := (hs2.over hb3).over hb4 (by simp)
  obtain ⟨b3, o3, rfl, _, k3⟩ := hs3.over hb4 (by simp)
  obtain ⟨b4, o4, rfl, _, k4⟩ := hs4 (by simp)
  have c20 : w4.cell? ⟨b2, o2, none⟩ = some (.int .i64 65533) := k2 0 (by simp)
  have c21 : w4.cell? ⟨b2, o2 + 1, none⟩ = some (.int .i64 q) := k2 1 (by simp)
  have c30 : w4.cell? ⟨b3, o3, none⟩ = some (.int .i64 65533) := k3 0 (by simp)
  have c40 : w4.cell? ⟨b4, o4, none⟩ = some (.int .i64 q) := k4 0 (by simp)
  clear k2 k3 k4
  go_wp2_with fail
  go_quiet ((go_at_call 10; exact Calls.quiet_of_same (HG.out _)))
  go_wp2
  go_ret
  exact ⟨rfl, below_drewN hb4' _⟩

set_option maxRecDepth 100000 in
set_option maxHeartbeats 2000000 in
theorem pairs_hi_lo (a b q : Int) (w : World) (hl : dec16 [a, b] = [65533, q]) (ha : one16 a = 65533) (hb : one16 b = q) (hg : goodB a = false) (h1 : 55296 ≤ a) (h2 : a < 56320) (h3 : b < 56320) :
    Calls Try.prog 6 #[.int .i64 a, .int .i64 b] w fun e w' => e = .returned (.bool true) ∧ Below w.heap.size w w' := by
  have hD := Dec16_two a b
  rw [hl] at hD
  have hDa := Dec16_one a
  rw [ha] at hDa
  have hDb := Dec16_one b
  rw [hb] at hDb
  have hG : ∀ w, Calls Try.prog 10 #[.int .i64 a] w fun e w' => e = .returned (.bool false) ∧ w' = w := fun w => by rw [← hg]; exact (Good_any _ w).mono fun _ _ h => ⟨h.1, h.2.symm⟩
  have HD := Lib.hid hD
  have HDa := Lib.hid hDa
  have HDb := Lib.hid hDb
  have HG := Lib.hid hG
  clear hD hDa hDb hG hl ha hb hg
  go_enter Try.func6, Try.ntmps6
  go_wp2_with fail
  refine (awake_any _).mono ?_
  rintro e w1 ⟨rfl, hb1⟩
  go_wp2_with fail
  refine (HD.out _).mono ?_
  rintro e w2 ⟨A2, c2, rfl, hs2, hb2⟩
  have hb2' := hb1.trans (hb2.mono hb1.size)
  go_wp2_with fail
  refine (HDa.out _).mono ?_
  rintro e w3 ⟨A3, c3, rfl, hs3, hb3⟩
  have hb3' := hb2'.trans (hb3.mono hb2'.size)
  go_wp2_with fail
  refine (HDb.out _).mono ?_
  rintro e w4 ⟨A4, c4, rfl, hs4, hb4⟩
  have hb4' := hb3'.trans (hb4.mono hb3'.size)
  obtain ⟨b2, o2, rfl, _, k2⟩ := (hs2.over hb3).over hb4 (by simp)
  obtain ⟨b3, o3, rfl, _, k3⟩ := hs3.over hb4 (by simp)
  obtain ⟨b4, o4, rfl, _, k4⟩ := hs4 (by simp)
  have c20 : w4.cell? ⟨b2, o2, none⟩ = some (.int .i64 65533) := k2 0 (by simp)
  have c21 : w4.cell? ⟨b2, o2 + 1, none⟩ = some (.int .i64 q) := k2 1 (by simp)
  have c30 : w4.cell? ⟨b3, o3, none⟩ = some (.int .i64 65533) := k3 0 (by simp)
  have c40 : w4.cell? ⟨b4, o4, none⟩ = some (.int .i64 q) := k4 0 (by simp)
  clear k2 k3 k4
  go_wp2_with fail
  go_quiet ((go_at_call 10; exact Calls.quiet_of_same (HG.out _)))
  go_wp2
  go_ret
  exact ⟨rfl, below_drewN hb4' _⟩

set_option maxRecDepth 100000 in
set_option maxHeartbeats 2000000 in
theorem pairs_hi_up (a b q : Int) (w : World) (hl : dec16 [a, b] = [65533, q]) (ha : one16 a = 65533) (hb : one16 b = q) (hg : goodB a = false) (h1 : 55296 ≤ a) (h2 : a < 56320) (h3 : 57344 ≤ b) :
    Calls Try.prog 6 #[.int .i64 a, .int .i64 b] w fun e w' => e = .returned (.bool true) ∧ Below w.heap.size w w' := by
  have hD := Dec16_two a b
  rw [hl] at hD
  have hDa := Dec16_one a
  rw [ha] at hDa
  have hDb := Dec16_one b
  rw [hb] at hDb
  have hG : ∀ w, Calls Try.prog 10 #[.int .i64 a] w fun e w' => e = .returned (.bool false) ∧ w' = w := fun w => by rw [← hg]; exact (Good_any _ w).mono fun _ _ h => ⟨h.1, h.2.symm⟩
  have HD := Lib.hid hD
  have HDa := Lib.hid hDa
  have HDb := Lib.hid hDb
  have HG := Lib.hid hG
  clear hD hDa hDb hG hl ha hb hg
  have h4 : 56320 ≤ b := by omega
  have h5 : decide (b < 57344) = false := by simp; omega
  go_enter Try.func6, Try.ntmps6
  go_wp2_with fail
  refine (awake_any _).mono ?_
  rintro e w1 ⟨rfl, hb1⟩
  go_wp2_with fail
  refine (HD.out _).mono ?_
  rintro e w2 ⟨A2, c2, rfl, hs2, hb2⟩
  have hb2' := hb1.trans (hb2.mono hb1.size)
  go_wp2_with fail
  refine (HDa.out _).mono ?_
  rintro e w3 ⟨A3, c3, rfl, hs3, hb3⟩
  have hb3' := hb2'.trans (hb3.mono hb2'.size)
  go_wp2_with fail
  refine (HDb.out _).mono ?_
  rintro e w4 ⟨A4, c4, rfl, hs4, hb4⟩
  have hb4' := hb3'.trans (hb4.mono hb3'.size)
  obtain ⟨b2, o2, rfl, _, k2⟩ := (hs2.over hb3).over hb4 (by simp)
  obtain ⟨b3, o3, rfl, _, k3⟩ := hs3.over hb4 (by simp)
  obtain ⟨b4, o4, rfl, _, k4⟩ := hs4 (by simp)
  have c20 : w4.cell? ⟨b2, o2, none⟩ = some (.int .i64 65533) := k2 0 (by simp)
  have c21 : w4.cell? ⟨b2, o2 + 1, none⟩ = some (.int .i64 q) := k2 1 (by simp)
  have c30 : w4.cell? ⟨b3, o3, none⟩ = some (.int .i64 65533) := k3 0 (by simp)
  have c40 : w4.cell? ⟨b4, o4, none⟩ = some (.int .i64 q) := k4 0 (by simp)
  clear k2 k3 k4
  go_wp2_with fail
  go_quiet ((go_at_call 10; exact Calls.quiet_of_same (HG.out _)))
  go_wp2
  go_ret
  exact ⟨rfl, below_drewN hb4' _⟩

set_option maxRecDepth 100000 in
set_option maxHeartbeats 2000000 in
theorem pairs_yes (a b : Int) (w : World) (h1 : 55296 ≤ a) (h2 : a < 56320) (h3 : 56320 ≤ b) (h4 : b < 57344) :
    Calls Try.prog 6 #[.int .i64 a, .int .i64 b] w fun e w' => e = .returned (.bool true) ∧ Below w.heap.size w w' := by
  have hh : hiB a = true := (hiB_iff a).2 ⟨h1, h2⟩
  have hl : loB b = true := (loB_iff b).2 ⟨h3, h4⟩
  have hD := Dec16_two a b
  rw [dec16_pair hh hl] at hD
  have hv := two16_bounds hh hl
  have hE : ∀ A c w, Si w w.heap.size A [two16 a b] → Calls Try.prog 15 #[.slice A 1 c] w (RetSi w [a, b]) := fun A c w hs => by
    have := Enc16_any A c [two16 a b] w hs (by simp)
    rwa [enc16_two hh hl] at this
  have hnil : dec16 [] = [] := rfl
  rw [hnil] at hD
  generalize two16 a b = v at *
  have v0 : 65535 < v := by omega
  have HD := Lib.hid hD
  have HE := Lib.hid hE
  have HDa := Lib.hid (Dec16_one a)
  have HDb := Lib.hid (Dec16_one b)
  clear hD hE hh hl hnil hv
  generalize one16 a = x at *
  generalize one16 b = y at *
  go_enter Try.func6, Try.ntmps6
  go_wp2_with fail
  refine (awake_any _).mono ?_
  rintro e w1 ⟨rfl, hb1⟩
  go_wp2_with fail
  refine (HD.out _).mono ?_
  rintro e w2 ⟨A2, c2, rfl, hs2, hb2⟩
  have hb2' := hb1.trans (hb2.mono hb1.size)
  go_wp2_with fail
  refine (HDa.out _).mono ?_
  rintro e w3 ⟨A3, c3, rfl, hs3, hb3⟩
  have hb3' := hb2'.trans (hb3.mono hb2'.size)
  go_wp2_with fail
  refine (HDb.out _).mono ?_
  rintro e w4 ⟨A4, c4, rfl, hs4, hb4⟩
  have hb4' := hb3'.trans (hb4.mono hb3'.size)
  have hs2' := (hs2.over hb3).over hb4
  go_wp2_with fail
  refine (HE.out _ _ _ hs2').mono ?_
  rintro e w5 ⟨A5, c5, rfl, hc5, hs5, hb5⟩
  have hb5' := hb4'.trans (hb5.mono hb4'.size)
  obtain ⟨b2, o2, rfl, _, k2⟩ := hs2'.over hb5 (by simp)
  obtain ⟨b5, o5, rfl, _, k5⟩ := hs5 (by simp)
  have c20 : w5.cell? ⟨b2, o2, none⟩ = some (.int .i64 v) := k2 0 (by simp)
  have c50 : w5.cell? ⟨b5, o5, none⟩ = some (.int .i64 a) := k5 0 (by simp)
  have c51 : w5.cell? ⟨b5, o5 + 1, none⟩ = some (.int .i64 b) := k5 1 (by simp)
  clear k2 k5
  go_wp2
  go_ret
  exact ⟨rfl, hb5'⟩

theorem pairs_walk (a b : Int) (w : World) :
    Calls Try.prog 6 #[.int .i64 a, .int .i64 b] w fun e w' => e = .returned (.bool true) ∧ Below w.heap.size w w' := by
  have lone : ∀ h : hiB a = false ∨ loB b = false, ∀ P, one16 a = P → dec16 [a, b] = [P, one16 b] := fun h P hP => by rw [dec16_no h, hP]
  by_cases c1 : a < 55296
  · have hh : hiB a = false := by rw [hiB_not]; omega
    cases hg : goodB a with
    | true =>
      have hP : one16 a = a := one16_yes (by have := (goodB_iff a).1 hg; rw [unitB_iff]; omega) hg
      exact pairs_lo_good a b _ w (lone (.inl hh) a hP) hP rfl hg c1
    | false => exact pairs_lo_bad a b _ w (lone (.inl hh) _ (one16_no2 hg)) (one16_no2 hg) rfl hg c1
  by_cases c2 : 56320 ≤ a
  · have hh : hiB a = false := by rw [hiB_not]; omega
    cases hg : goodB a with
    | true =>
      by_cases c3 : a ≤ 65535
      · have hP : one16 a = a := one16_yes (by have := (goodB_iff a).1 hg; rw [unitB_iff]; omega) hg
        exact pairs_up_good a b _ w (lone (.inl hh) a hP) hP rfl hg c2 c3
      · exact pairs_up_far a b _ w (lone (.inl hh) _ (one16_big c3)) (one16_big c3) rfl hg (by omega)
    | false => exact pairs_up_bad a b _ w (lone (.inl hh) _ (one16_no2 hg)) (one16_no2 hg) rfl hg c2
  have hh : hiB a = true := (hiB_iff a).2 ⟨by omega, by omega⟩
  obtain ⟨_, hg, hP⟩ := high_unit hh
  by_cases c3 : b < 56320
  · exact pairs_hi_lo a b _ w (lone (.inr (by rw [loB_not]; omega)) _ hP) hP rfl hg (by omega) (by omega) c3
  by_cases c4 : 57344 ≤ b
  · exact pairs_hi_up a b _ w (lone (.inr (by rw [loB_not]; omega)) _ hP) hP rfl hg (by omega) (by omega) c4
  · exact pairs_yes a b w (by omega) (by omega) (by omega) (by omega)
end Go.Proofs.Ytclehobammhjmaa
