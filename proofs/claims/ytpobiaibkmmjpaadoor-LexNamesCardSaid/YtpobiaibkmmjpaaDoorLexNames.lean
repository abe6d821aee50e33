/-
  The walk of the statement LexNames: what is written of a name is one word, and is that name again.
-/
import Derived.Test.YtpobiaibkmmjpaaDoorLexAwake
namespace Go.Proofs.YtpobiaibkmmjpaaDoor
open Go.RowKit

theorem word_written (l : List UInt8) : wdL (wrL l ++ [32, 120]) 0 = wrL l ∧ wdN (wrL l ++ [32, 120]) 0 = (wrL l).length := by
  have hp : pl (wrL l ++ [32, 120]).length 0 = 0 := by simp [pl]
  have hw : wn (wrL l ++ [32, 120]) = (wrL l).length := wn_all (wrL l) [120] 32 (fun b hb => by
    have := sn_wrL l b hb
    simp only [sn, Bool.and_eq_true] at this
    exact this.2) (by decide)
  unfold wdL wdN
  rw [hp, List.drop_zero, hw]
  exact ⟨by simp, by omega⟩

set_option maxHeartbeats 1000000 in
theorem lexNames_long (l : List UInt8) (w : World) (ht : Tab w) (hm : l.length ≤ maxLen) (h : 500 < l.length) :
    Calls Tryd.prog 4 #[.string (str l)] w fun e w' => e = .returned (.bool true) ∧ Below w.heap.size w w' := by
  unfold maxLen at hm
  have d1 : decide ((500 : Int) < (l.length : Int)) = true := by simp; omega
  go_enter Tryd.func4, Tryd.ntmps4
  go_wp2_with fail
  refine (awake_any _ ht).mono ?_
  rintro e w1 ⟨rfl, hb1⟩
  go_wp2
  go_ret
  exact ⟨rfl, hb1⟩

set_option maxHeartbeats 2000000 in
theorem lexNames_short (l : List UInt8) (w : World) (ht : Tab w) (h : l.length ≤ 500) :
    Calls Tryd.prog 4 #[.string (str l)] w fun e w' => e = .returned (.bool true) ∧ Below w.heap.size w w' := by
  have d1 : decide ((500 : Int) < (l.length : Int)) = false := by simp; omega
  have hlen := wrL_length l
  obtain ⟨e1, e2⟩ := word_written l
  have hsn := sn_wrL l
  have hnm := name_wrL l
  have k1 : ∀ w, Tab w → Calls Tryd.prog 21 #[.string (str l)] w fun e w' => e = .returned (.string (str (wrL l))) ∧ Below w.heap.size w w' := fun w ht => Write_any l w ht (by omega)
  have k2 : ∀ w, Tab w → Calls Tryd.prog 11 #[.string (str (wrL l ++ [32, 120])), .int .i64 0] w fun e w' => e = .returned (.tuple #[.string (str (wrL l)), .int .i64 ((wrL l).length : Int)]) ∧ w = w' := fun w ht => by
    have := Word_any (wrL l ++ [32, 120]) 0 w ht (by simp; omega)
    rwa [e1, e2] at this
  have k3 : ∀ w, Tab w → Calls Tryd.prog 19 #[.string (str (wrL l))] w fun e w' => e = .returned (.string (str l)) ∧ Below w.heap.size w w' := fun w ht => by
    have := Name_any (wrL l) w ht (by omega)
    rwa [hnm] at this
  clear e1 e2 hnm
  generalize wrL l = t at *
  have hap : str t ++ ByteArray.mk #[32, 120] = str (t ++ [32, 120]) := str_append t [32, 120]
  generalize t ++ [32, 120] = tx at *
  have K1 := Lib.hid k1
  have K2 := Lib.hid k2
  have K3 := Lib.hid k3
  have HSN := Lib.hid hsn
  have s1 : decide ((l.length : Int) ≤ (t.length : Int)) = true := by simp; omega
  have s2 : decide ((t.length : Int) ≤ 3 * (l.length : Int)) = true := by simp; omega
  obtain ⟨hlen1, hlen2⟩ := hlen
  clear k1 k2 k3 hsn
  go_enter Tryd.func4, Tryd.ntmps4
  go_wp2_with fail
  refine (awake_any _ ht).mono ?_
  rintro e w1 ⟨rfl, hb1⟩
  have ht1 := ht.below' hb1
  go_wp2_with fail
  refine (K1.out _ ht1).mono ?_
  rintro e w2 ⟨rfl, hb2⟩
  have ht2 := ht1.below' hb2
  have hb2' := hb1.trans (hb2.mono hb1.size)
  go_wp2_with fail
  refine (K2.out _ ht2).mono ?_
  rintro e w2' ⟨rfl, rfl⟩
  go_wp2_with fail
  go_loop [7] (fun i => ∃ k : Nat, k ≤ t.length ∧ i = .int .i64 k) (fun i => t.length - (intOf i).toNat)
  case atStart => exact ⟨0, Nat.zero_le _, rfl⟩
  case round =>
    obtain ⟨k, hk, rfl⟩ := hrel
    by_cases hlt : k < t.length
    · obtain ⟨x, hx⟩ : ∃ x, x = t[k]?.getD 0 := ⟨_, rfl⟩
      have hgs : ∀ h, (str t)[k]'h = x := fun h => (get_str t k h).trans hx.symm
      have hx1 := x.toNat_lt
      have hs := HSN.out x (by rw [hx, List.getElem?_eq_getElem hlt]; exact List.getElem_mem _)
      simp only [sn, Bool.and_eq_true, decide_eq_true_eq, rg] at hs
      obtain ⟨⟨h1, h2⟩, h3⟩ := hs
      have t1 : decide ((x.toNat : Int) < 33) = false := by simp; omega
      have t2 : decide ((126 : Int) < (x.toNat : Int)) = false := by simp; omega
      have t3 : (cb x != 0) = false := by unfold bne; rw [h3]; rfl
      have hC : ∀ w, Tab w → Calls Tryd.prog 15 #[.int .i64 (x.toNat : Int)] w fun e w' => e = .returned (.int .i64 (cb x)) ∧ w = w' := fun w ht => Class_any _ w ht
      have HC := Lib.hid hC
      clear hC hx h3
      generalize cb x = cx at *
      go_wp2_with (go_at_call 15; refine (HC.out _ ht2).mono ?_; rintro e w' ⟨rfl, rfl⟩)
      go_round
      case rel => exact ⟨k + 1, by omega, by go_num⟩
      case measure => simp [intOf]; omega
    · go_wp2_with (go_at_call 19; refine (K3.out _ ht2).mono ?_; rintro e w3 ⟨rfl, hb3⟩)
      go_ret
      exact ⟨rfl, hb2'.trans (hb3.mono hb2'.size)⟩

theorem lexNames_walk (l : List UInt8) (w : World) (ht : Tab w) (hm : l.length ≤ maxLen) :
    Calls Tryd.prog 4 #[.string (str l)] w fun e w' => e = .returned (.bool true) ∧ Below w.heap.size w w' := by
  by_cases h : 500 < l.length
  · exact lexNames_long l w ht hm h
  · exact lexNames_short l w ht (by omega)
end Go.Proofs.YtpobiaibkmmjpaaDoor
