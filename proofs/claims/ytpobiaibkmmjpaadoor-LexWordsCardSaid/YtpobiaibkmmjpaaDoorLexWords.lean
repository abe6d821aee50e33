/-
  The walk of the statement LexWords: words and what splits them are the text.
-/
import Derived.Test.YtpobiaibkmmjpaaDoorLexAwake
namespace Go.Proofs.YtpobiaibkmmjpaaDoor
open Go.RowKit

set_option maxHeartbeats 1000000 in
theorem lexWords_long (a : Int) (l : List UInt8) (w : World) (ht : Tab w) (hm : l.length ≤ maxLen) (h : 500 < l.length) :
    Calls Tryd.prog 7 #[.string (str l), .int .i64 a] w fun e w' => e = .returned (.bool true) ∧ Below w.heap.size w w' := by
  unfold maxLen at hm
  have d1 : decide ((500 : Int) < (l.length : Int)) = true := by simp; omega
  go_enter Tryd.func7, Tryd.ntmps7
  go_wp2_with fail
  refine (awake_any _ ht).mono ?_
  rintro e w1 ⟨rfl, hb1⟩
  go_wp2
  go_ret
  exact ⟨rfl, hb1⟩

/-- What the statement asks of a word W, from p to K. -/
theorem word_in (l : List UInt8) (p : Nat) (hp : p ≤ l.length) (j : Nat) (hj : j < wn (l.drop p)) : wdL l ((p + j : Nat) : Int) = ((l.drop p).take (wn (l.drop p))).drop j ∧ wdN l ((p + j : Nat) : Int) = p + wn (l.drop p) := by
  have hle := wn_le (l.drop p)
  rw [List.length_drop] at hle
  have hpl : pl l.length ((p + j : Nat) : Int) = p + j := pl_of _ _ (by omega)
  have hwd := wn_drop (l.drop p) j (by omega)
  rw [List.drop_drop] at hwd
  unfold wdL wdN
  rw [hpl]
  constructor
  · rw [List.drop_take, List.drop_drop]
    congr 1
    omega
  · omega

set_option maxHeartbeats 1000000 in
theorem lexWords_short (a : Int) (l : List UInt8) (w : World) (ht : Tab w) (h : l.length ≤ 500) :
    Calls Tryd.prog 7 #[.string (str l), .int .i64 a] w fun e w' => e = .returned (.bool true) ∧ Below w.heap.size w w' := by
  have d1 : decide ((500 : Int) < (l.length : Int)) = false := by simp; omega
  have hp := pl_le l.length a
  have k1 : ∀ w, Tab w → Calls Tryd.prog 11 #[.string (str l), .int .i64 a] w fun e w' => e = .returned (.tuple #[.string (str (wdL l a)), .int .i64 (wdN l a : Nat)]) ∧ w = w' := fun w ht => Word_any l a w ht (by omega)
  have hL : wdL l a = (l.drop (pl l.length a)).take (wn (l.drop (pl l.length a))) := rfl
  have hN : wdN l a = pl l.length a + wn (l.drop (pl l.length a)) := rfl
  obtain ⟨m, hm⟩ : ∃ m : Int, m = if (l.length : Int) < a then (l.length : Int) else a := ⟨_, rfl⟩
  have hmn : ∀ ts t wx, (Builtin.min_ ts t #[.int .i64 a, .int .i64 (l.length : Int)]).run Tryd.prog wx = .ok (.int .i64 m) wx := fun ts t wx => by rw [run_min_int2, ← hm]
  have hmx : ∀ ts t wx, (Builtin.max_ ts t #[.int .i64 0, .int .i64 m]).run Tryd.prog wx = .ok (.int .i64 (pl l.length a : Nat)) wx := fun ts t wx => by
    rw [run_max_int2]
    congr 2
    rw [hm]
    unfold pl
    repeat' split
    all_goals omega
  clear hm
  obtain ⟨p, hpe⟩ : ∃ p, p = pl l.length a := ⟨_, rfl⟩
  rw [← hpe] at hp hL hN hmx
  have hle := wn_le (l.drop p)
  rw [List.length_drop] at hle
  have k2 : ∀ (j : Nat), j < wn (l.drop p) → ∀ w, Tab w → Calls Tryd.prog 11 #[.string (str l), .int .i64 ((p : Int) + (j : Int))] w fun e w' => e = .returned (.tuple #[.string (str ((wdL l a).drop j)), .int .i64 (wdN l a : Nat)]) ∧ w = w' := fun j hj w ht => by
    have := Word_any l ((p + j : Nat) : Int) w ht (by omega)
    rw [(word_in l p hp j hj).1, (word_in l p hp j hj).2] at this
    rw [hL, hN, show (p : Int) + (j : Int) = ((p + j : Nat) : Int) by omega]
    exact this
  have hWl : (wdL l a).length = wn (l.drop p) := by rw [hL, List.length_take, List.length_drop]; omega
  have hreg : ∀ j, j < wn (l.drop p) → rg ((wdL l a)[j]?.getD 0) = true := fun j hj => by
    rw [hL, List.getElem?_take, if_pos hj]
    exact wn_in (l.drop p) j hj
  have hstop : wdN l a < l.length → rg (l[wdN l a]?.getD 0) = false := fun hlt => by
    have := wn_stop (l.drop p) (by rw [List.length_drop]; omega)
    rw [List.getElem?_drop, ← hN] at this
    exact this
  have hsl := fun wx => run_mid (P := Tryd.prog) l p (wdN l a) (by omega) (by omega) 9 Tryd.underlying9 wx
  rw [show (l.drop p).take (wdN l a - p) = wdL l a by rw [hL]; congr 1; omega] at hsl
  generalize wdL l a = W at *
  generalize wdN l a = N at *
  generalize wn (l.drop p) = n at *
  have K1 := Lib.hid k1
  have K2 := Lib.hid k2
  have HR := Lib.hid hreg
  have HS := Lib.hid hstop
  have q1 : (p : Int) + (W.length : Int) = (N : Int) := by omega
  have hWb : W.length ≤ 500 := by omega
  have q2 : decide (l.length < N) = false := by simp; omega
  have hNl : N ≤ l.length := by omega
  have hpN : p ≤ N := by omega
  have HN := Lib.hid hN
  have HWl := Lib.hid hWl
  clear k1 k2 hreg hstop hL hN hpe hWl
  have hend : (decide (N < l.length) = false) ∨ (N < l.length ∧ decide (N < l.length) = true) := by
    by_cases hh : N < l.length
    · exact .inr ⟨hh, by simp; omega⟩
    · exact .inl (by simp; omega)
  obtain ⟨y, hy⟩ : ∃ y, y = l[N]?.getD 0 := ⟨_, rfl⟩
  have hgy : ∀ h, (str l)[N]'h = y := fun h => (get_str l N h).trans hy.symm
  have hyC : ∀ w, Tab w → Calls Tryd.prog 15 #[.int .i64 (y.toNat : Int)] w fun e w' => e = .returned (.int .i64 (cb y)) ∧ w = w' := fun w ht => Class_any _ w ht
  have hy0 : N < l.length → (cb y == 0) = false := fun hh => by have := HS.out hh; rw [← hy] at this; exact this
  have hy1 := y.toNat_lt
  generalize cb y = cy at *
  have HYC := Lib.hid hyC
  have HY0 := Lib.hid hy0
  clear hyC hy0 hy hle
  rcases hend with r1 | ⟨r0, r1⟩
  · go_enter Tryd.func7, Tryd.ntmps7
    go_wp2_with fail
    refine (awake_any _ ht).mono ?_
    rintro e w1 ⟨rfl, hb1⟩
    have ht1 := ht.below' hb1
    go_wp2_with fail
    refine (K1.out _ ht1).mono ?_
    rintro e w1' ⟨rfl, rfl⟩
    go_wp2_with fail
    go_loop [9] (fun i => ∃ j : Nat, j ≤ W.length ∧ i = .int .i64 j) (fun i => W.length - (intOf i).toNat)
    case atStart => exact ⟨0, Nat.zero_le _, rfl⟩
    case round =>
      obtain ⟨j, hj, rfl⟩ := hrel
      by_cases hlt : j < W.length
      · have hjn : j < n := by have := HWl.out; omega
        obtain ⟨x, hx⟩ : ∃ x, x = W[j]?.getD 0 := ⟨_, rfl⟩
        have hgs : ∀ h, (str W)[j]'h = x := fun h => (get_str W j h).trans hx.symm
        have hx1 := x.toNat_lt
        have hr := HR.out j hjn
        rw [← hx] at hr
        have t1 : (cb x != 0) = false := by unfold bne; unfold rg at hr; rw [hr]; rfl
        have hC : ∀ w, Tab w → Calls Tryd.prog 15 #[.int .i64 (x.toNat : Int)] w fun e w' => e = .returned (.int .i64 (cb x)) ∧ w = w' := fun w ht => Class_any _ w ht
        have HC := Lib.hid hC
        have hW2 := K2.out j hjn
        have HW2 := Lib.hid hW2
        have hsj := run_from (P := Tryd.prog) W j (by omega) 9 Tryd.underlying9
        have hpj : (p : Int) + (j : Int) ≤ 9223372036854775807 := by omega
        clear hx hr hC hW2 r1
        generalize cb x = cx at *
        generalize W.drop j = Wj at *
        go_wp2_with fail
        refine (HC.out _ ht1).mono ?_
        rintro e w' ⟨rfl, rfl⟩
        go_wp2_with fail
        refine (HW2.out _ ht1).mono ?_
        rintro e w' ⟨rfl, rfl⟩
        go_wp2
        go_round
        case rel => first | trivial | exact ⟨j + 1, by omega, by go_num⟩
        case measure => simp [intOf]; omega
      · go_wp2
        go_ret
        exact ⟨rfl, hb1⟩
  · have r2 := HY0.out r0
    go_enter Tryd.func7, Tryd.ntmps7
    go_wp2_with fail
    refine (awake_any _ ht).mono ?_
    rintro e w1 ⟨rfl, hb1⟩
    have ht1 := ht.below' hb1
    go_wp2_with fail
    refine (K1.out _ ht1).mono ?_
    rintro e w1' ⟨rfl, rfl⟩
    go_wp2_with fail
    refine (HYC.out _ ht1).mono ?_
    rintro e w1' ⟨rfl, rfl⟩
    go_wp2_with fail
    go_loop [9] (fun i => ∃ j : Nat, j ≤ W.length ∧ i = .int .i64 j) (fun i => W.length - (intOf i).toNat)
    case atStart => exact ⟨0, Nat.zero_le _, rfl⟩
    case round =>
      obtain ⟨j, hj, rfl⟩ := hrel
      by_cases hlt : j < W.length
      · have hjn : j < n := by have := HWl.out; omega
        obtain ⟨x, hx⟩ : ∃ x, x = W[j]?.getD 0 := ⟨_, rfl⟩
        have hgs : ∀ h, (str W)[j]'h = x := fun h => (get_str W j h).trans hx.symm
        have hx1 := x.toNat_lt
        have hr := HR.out j hjn
        rw [← hx] at hr
        have t1 : (cb x != 0) = false := by unfold bne; unfold rg at hr; rw [hr]; rfl
        have hC : ∀ w, Tab w → Calls Tryd.prog 15 #[.int .i64 (x.toNat : Int)] w fun e w' => e = .returned (.int .i64 (cb x)) ∧ w = w' := fun w ht => Class_any _ w ht
        have HC := Lib.hid hC
        have hW2 := K2.out j hjn
        have HW2 := Lib.hid hW2
        have hsj := run_from (P := Tryd.prog) W j (by omega) 9 Tryd.underlying9
        have hpj : (p : Int) + (j : Int) ≤ 9223372036854775807 := by omega
        clear hx hr hC hW2 r1
        generalize cb x = cx at *
        generalize W.drop j = Wj at *
        go_wp2_with fail
        refine (HC.out _ ht1).mono ?_
        rintro e w' ⟨rfl, rfl⟩
        go_wp2_with fail
        refine (HW2.out _ ht1).mono ?_
        rintro e w' ⟨rfl, rfl⟩
        go_wp2
        go_round
        case rel => first | trivial | exact ⟨j + 1, by omega, by go_num⟩
        case measure => simp [intOf]; omega
      · go_wp2
        go_ret
        exact ⟨rfl, hb1⟩

theorem lexWords_walk (a : Int) (l : List UInt8) (w : World) (ht : Tab w) (hm : l.length ≤ maxLen) :
    Calls Tryd.prog 7 #[.string (str l), .int .i64 a] w fun e w' => e = .returned (.bool true) ∧ Below w.heap.size w w' := by
  by_cases h : 500 < l.length
  · exact lexWords_long a l w ht hm h
  · exact lexWords_short a l w ht (by omega)
end Go.Proofs.YtpobiaibkmmjpaaDoor
