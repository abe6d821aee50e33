/-
  The walk of the statement UtfSizes.
-/
import Derived.Test.YtclehobammhjmaaUtfAwake
import Derived.Test.YtclehobammhjmaaRefTake
namespace Go.Proofs.Ytclehobammhjmaa
open Go.RowKit

theorem b8_nat {n : Int} (h0 : 0 ≤ n) (h1 : n < 256) : (b8 n).toNat = n.toNat := by have := b8_toNat h0 h1; omega
theorem shape1 {r : Int} (hg : goodB r = true) (h : r < 128) : ∃ a, form r = [a] ∧ a.toNat < 128 := by
  have hb := (goodB_iff r).1 hg
  refine ⟨b8 r, ?_, by rw [b8_nat (by omega) (by omega)]; omega⟩
  unfold form formV
  rw [sc_yes hg, if_pos h]
theorem shape2 {r : Int} (hg : goodB r = true) (h0 : 128 ≤ r) (h : r < 2048) : ∃ a b, form r = [a, b] ∧ 194 ≤ a.toNat ∧ a.toNat < 224 := by
  refine ⟨b8 (192 + r / 64), b8 (128 + r % 64), ?_, by rw [b8_nat (by omega) (by omega)]; omega⟩
  unfold form formV
  rw [sc_yes hg, if_neg (by omega), if_pos h]
theorem shape3 {r : Int} (hg : goodB r = true) (h0 : 2048 ≤ r) (h : r < 65536) : ∃ a b c, form r = [a, b, c] ∧ 224 ≤ a.toNat ∧ a.toNat < 240 := by
  refine ⟨b8 (224 + r / 4096), b8 (128 + r / 64 % 64), b8 (128 + r % 64), ?_, by rw [b8_nat (by omega) (by omega)]; omega⟩
  unfold form formV
  rw [sc_yes hg, if_neg (by omega), if_neg (by omega), if_pos h]
theorem shape4 {r : Int} (hg : goodB r = true) (h : 65536 ≤ r) : ∃ a b c d, form r = [a, b, c, d] ∧ 240 ≤ a.toNat ∧ a.toNat < 245 := by
  have hb := (goodB_iff r).1 hg
  refine ⟨b8 (240 + r / 262144), b8 (128 + r / 4096 % 64), b8 (128 + r / 64 % 64), b8 (128 + r % 64), ?_, by rw [b8_nat (by omega) (by omega)]; omega⟩
  unfold form formV
  rw [sc_yes hg, if_neg (by omega), if_neg (by omega), if_neg (by omega)]
/-- What stands behind a form's first byte: as many values as bytes. -/
theorem tail_len {r : Int} {a : UInt8} {t : List UInt8} (hf : form r = a :: t) : (runes t).length = t.length := by
  apply runes_tail
  have := form_tail (sc r)
  unfold form at hf
  rw [hf] at this
  exact this
theorem Runes_len (t : List UInt8) (n : Nat) (w : World) (h : (runes t).length = n) (hl : t.length ≤ 65536) : Calls Try.prog 23 #[.string (str t)] w fun e w' => ∃ A c, e = .returned (.slice A n c) ∧ Below w.heap.size w w' :=
  (Runes_any t w hl).mono fun _ _ ⟨A, c, he, _, _, hb⟩ => ⟨A, c, by rw [← h]; exact he, hb⟩
theorem enc16_low {r : Int} (hg : goodB r = true) (h : r < 65536) : enc16 [r] = [r] := by
  simp only [enc16, List.flatMap_cons, List.flatMap_nil, List.append_nil]
  rw [encU_low (sc_yes hg).symm h]
theorem enc16_bad {r : Int} (hg : goodB r = false) : enc16 [r] = [65533] := by
  simp only [enc16, List.flatMap_cons, List.flatMap_nil, List.append_nil]
  rw [encU_low (sc_no hg).symm (by decide)]
theorem enc16_high {r : Int} (hg : goodB r = true) (h : ¬ r < 65536) : enc16 [r] = [55296 + (r - 65536) / 1024, 56320 + (r - 65536) % 1024] := by
  simp only [enc16, List.flatMap_cons, List.flatMap_nil, List.append_nil]
  rw [encU_high (sc_yes hg).symm h]
theorem form_bad {r : Int} (hg : goodB r = false) : form r = [239, 191, 189] := by
  unfold form
  rw [sc_no hg]
  exact form_repl

set_option maxRecDepth 100000 in
set_option maxHeartbeats 2000000 in
theorem sizes_no (r : Int) (w : World) (hg : goodB r = false) :
    Calls Try.prog 8 #[.int .i64 r] w fun e w' => e = .returned (.bool true) ∧ Below w.heap.size w w' := by
  have hE := Enc16_one r
  have hT := Text_one r
  rw [enc16_bad hg] at hE
  rw [form_bad hg] at hT
  have HE := Lib.hid hE
  have HT := Lib.hid hT
  clear hE hT
  go_enter Try.func8, Try.ntmps8
  go_wp2_with fail
  refine (awake_any _).mono ?_
  rintro e w1 ⟨rfl, hb1⟩
  go_wp2_with fail
  refine (HT.out _).mono ?_
  rintro e w2 ⟨rfl, hb2⟩
  have hb2' := hb1.trans (hb2.mono hb1.size)
  go_wp2_with fail
  refine (HE.out _).mono ?_
  rintro e w3 ⟨A, c, rfl, hs3, hb3⟩
  have hb3' := hb2'.trans (hb3.mono hb2'.size)
  obtain ⟨b, o, rfl, hbl, hc⟩ := hs3 (by simp)
  have c0 : w3.cell? ⟨b, o, none⟩ = some (.int .i64 65533) := hc 0 (by simp)
  clear hc
  go_wp2_with fail
  refine (Good_any _ _).mono ?_
  rintro e w3' ⟨rfl, rfl⟩
  go_wp2
  go_ret
  exact ⟨rfl, hb3'⟩

set_option maxRecDepth 100000 in
set_option maxHeartbeats 2000000 in
theorem sizes_1 (r : Int) (w : World) (hg : goodB r = true) (h0 : 0 ≤ r) (h1 : r < 128) :
    Calls Try.prog 8 #[.int .i64 r] w fun e w' => e = .returned (.bool true) ∧ Below w.heap.size w w' := by
  obtain ⟨a, hf, hlo⟩ := shape1 hg h1
  have hE := Enc16_one r
  have hT := Text_one r
  rw [enc16_low hg (by omega)] at hE
  rw [hf] at hT
  have hR := fun w => Runes_len [] 0 w (tail_len hf) (by simp)
  have HE := Lib.hid hE
  have HT := Lib.hid hT
  have HR := Lib.hid hR
  have hgs : ∀ h, (str [a])[0]'h = a := fun h => get_str [a] 0 h
  clear hE hT hR hf
  go_enter Try.func8, Try.ntmps8
  go_wp2_with fail
  refine (awake_any _).mono ?_
  rintro e w1 ⟨rfl, hb1⟩
  go_wp2_with fail
  refine (HT.out _).mono ?_
  rintro e w2 ⟨rfl, hb2⟩
  have hb2' := hb1.trans (hb2.mono hb1.size)
  go_wp2_with fail
  refine (HE.out _).mono ?_
  rintro e w3 ⟨A, c, rfl, hs3, hb3⟩
  have hb3' := hb2'.trans (hb3.mono hb2'.size)
  go_wp2_with fail
  refine (Good_any _ _).mono ?_
  rintro e w3' ⟨rfl, rfl⟩
  go_wp2_with fail
  refine (HR.out _).mono ?_
  rintro e w4 ⟨A4, c4, rfl, hb4⟩
  have hb4' := hb3'.trans (hb4.mono hb3'.size)
  go_wp2
  go_ret
  exact ⟨rfl, hb4'⟩

set_option maxRecDepth 100000 in
set_option maxHeartbeats 2000000 in
theorem sizes_2 (r : Int) (w : World) (hg : goodB r = true) (h0 : 128 ≤ r) (h1 : r < 2048) :
    Calls Try.prog 8 #[.int .i64 r] w fun e w' => e = .returned (.bool true) ∧ Below w.heap.size w w' := by
  obtain ⟨a, b, hf, hlo, hhi⟩ := shape2 hg h0 h1
  have hE := Enc16_one r
  have hT := Text_one r
  rw [enc16_low hg (by omega)] at hE
  rw [hf] at hT
  have hR := fun w => Runes_len [b] 1 w (tail_len hf) (by simp)
  have HE := Lib.hid hE
  have HT := Lib.hid hT
  have HR := Lib.hid hR
  have hgs : ∀ h, (str [a, b])[0]'h = a := fun h => get_str [a, b] 0 h
  clear hE hT hR hf
  go_enter Try.func8, Try.ntmps8
  go_wp2_with fail
  refine (awake_any _).mono ?_
  rintro e w1 ⟨rfl, hb1⟩
  go_wp2_with fail
  refine (HT.out _).mono ?_
  rintro e w2 ⟨rfl, hb2⟩
  have hb2' := hb1.trans (hb2.mono hb1.size)
  go_wp2_with fail
  refine (HE.out _).mono ?_
  rintro e w3 ⟨A, c, rfl, hs3, hb3⟩
  have hb3' := hb2'.trans (hb3.mono hb2'.size)
  go_wp2_with fail
  refine (Good_any _ _).mono ?_
  rintro e w3' ⟨rfl, rfl⟩
  go_wp2_with fail
  refine (HR.out _).mono ?_
  rintro e w4 ⟨A4, c4, rfl, hb4⟩
  have hb4' := hb3'.trans (hb4.mono hb3'.size)
  go_wp2
  go_ret
  exact ⟨rfl, hb4'⟩

set_option maxRecDepth 100000 in
set_option maxHeartbeats 2000000 in
theorem sizes_3 (r : Int) (w : World) (hg : goodB r = true) (h0 : 2048 ≤ r) (h1 : r < 65536) :
    Calls Try.prog 8 #[.int .i64 r] w fun e w' => e = .returned (.bool true) ∧ Below w.heap.size w w' := by
  obtain ⟨a, b, c, hf, hlo, hhi⟩ := shape3 hg h0 h1
  have hE := Enc16_one r
  have hT := Text_one r
  rw [enc16_low hg (by omega)] at hE
  rw [hf] at hT
  have hR := fun w => Runes_len [b, c] 2 w (tail_len hf) (by simp)
  have HE := Lib.hid hE
  have HT := Lib.hid hT
  have HR := Lib.hid hR
  have hgs : ∀ h, (str [a, b, c])[0]'h = a := fun h => get_str [a, b, c] 0 h
  clear hE hT hR hf
  go_enter Try.func8, Try.ntmps8
  go_wp2_with fail
  refine (awake_any _).mono ?_
  rintro e w1 ⟨rfl, hb1⟩
  go_wp2_with fail
  refine (HT.out _).mono ?_
  rintro e w2 ⟨rfl, hb2⟩
  have hb2' := hb1.trans (hb2.mono hb1.size)
  go_wp2_with fail
  refine (HE.out _).mono ?_
  rintro e w3 ⟨A, c, rfl, hs3, hb3⟩
  have hb3' := hb2'.trans (hb3.mono hb2'.size)
  go_wp2_with fail
  refine (Good_any _ _).mono ?_
  rintro e w3' ⟨rfl, rfl⟩
  go_wp2_with fail
  refine (HR.out _).mono ?_
  rintro e w4 ⟨A4, c4, rfl, hb4⟩
  have hb4' := hb3'.trans (hb4.mono hb3'.size)
  go_wp2
  go_ret
  exact ⟨rfl, hb4'⟩

set_option maxRecDepth 100000 in
set_option maxHeartbeats 2000000 in
theorem sizes_4 (r : Int) (w : World) (hg : goodB r = true) (h0 : 65536 ≤ r) (h1 : r ≤ 1114111) :
    Calls Try.prog 8 #[.int .i64 r] w fun e w' => e = .returned (.bool true) ∧ Below w.heap.size w w' := by
  obtain ⟨a, b, c, d, hf, hlo, hhi⟩ := shape4 hg h0
  have hE := Enc16_one r
  have hT := Text_one r
  rw [enc16_high hg (by omega)] at hE
  rw [hf] at hT
  have hR := fun w => Runes_len [b, c, d] 3 w (tail_len hf) (by simp)
  have HE := Lib.hid hE
  have HT := Lib.hid hT
  have HR := Lib.hid hR
  have hgs : ∀ h, (str [a, b, c, d])[0]'h = a := fun h => get_str [a, b, c, d] 0 h
  clear hE hT hR hf
  have d1 : decide (r < 65536) = false := by simp; omega
  go_enter Try.func8, Try.ntmps8
  go_wp2_with fail
  refine (awake_any _).mono ?_
  rintro e w1 ⟨rfl, hb1⟩
  go_wp2_with fail
  refine (HT.out _).mono ?_
  rintro e w2 ⟨rfl, hb2⟩
  have hb2' := hb1.trans (hb2.mono hb1.size)
  go_wp2_with fail
  refine (HE.out _).mono ?_
  rintro e w3 ⟨A, c, rfl, hs3, hb3⟩
  have hb3' := hb2'.trans (hb3.mono hb2'.size)
  go_wp2_with fail
  refine (Good_any _ _).mono ?_
  rintro e w3' ⟨rfl, rfl⟩
  go_wp2_with fail
  refine (HR.out _).mono ?_
  rintro e w4 ⟨A4, c4, rfl, hb4⟩
  have hb4' := hb3'.trans (hb4.mono hb3'.size)
  go_wp2
  go_ret
  exact ⟨rfl, hb4'⟩

theorem sizes_walk (r : Int) (w : World) :
    Calls Try.prog 8 #[.int .i64 r] w fun e w' => e = .returned (.bool true) ∧ Below w.heap.size w w' := by
  cases hg : goodB r with
  | false => exact sizes_no r w hg
  | true =>
    have hb := (goodB_iff r).1 hg
    by_cases c1 : r < 128
    · exact sizes_1 r w hg hb.1 c1
    by_cases c2 : r < 2048
    · exact sizes_2 r w hg (by omega) c2
    by_cases c3 : r < 65536
    · exact sizes_3 r w hg (by omega) c3
    · exact sizes_4 r w hg (by omega) hb.2.1
end Go.Proofs.Ytclehobammhjmaa
