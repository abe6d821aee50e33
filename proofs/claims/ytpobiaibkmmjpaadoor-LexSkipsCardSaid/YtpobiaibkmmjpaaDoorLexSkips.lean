/-
  The walk of the statement LexSkips: behind what is skipped there is something, or the end.
-/
import Derived.Test.YtpobiaibkmmjpaaDoorLexAwake
import Derived.Test.YtpobiaibkmmjpaaDoorRefSkip
namespace Go.Proofs.YtpobiaibkmmjpaaDoor
open Go.RowKit

set_option maxHeartbeats 1000000 in
theorem lexSkips_long (a : Int) (l t : List UInt8) (w : World) (ht : Tab w) (hm : l.length ≤ maxLen) (hm' : t.length ≤ maxLen) (h : 500 < l.length ∨ 300 < t.length) :
    Calls Tryd.prog 5 #[.string (str l), .int .i64 a, .string (str t)] w fun e w' => e = .returned (.bool true) ∧ Below w.heap.size w w' := by
  unfold maxLen at hm hm'
  by_cases h1 : 500 < l.length
  · have d1 : decide ((500 : Int) < (l.length : Int)) = true := by simp; omega
    go_enter Tryd.func5, Tryd.ntmps5
    go_wp2_with fail
    refine (awake_any _ ht).mono ?_
    rintro e w1 ⟨rfl, hb1⟩
    go_wp2
    go_ret
    exact ⟨rfl, hb1⟩
  · have d1 : decide ((500 : Int) < (l.length : Int)) = false := by simp; omega
    have d2 : decide ((300 : Int) < (t.length : Int)) = true := by simp; omega
    go_enter Tryd.func5, Tryd.ntmps5
    go_wp2_with fail
    refine (awake_any _ ht).mono ?_
    rintro e w1 ⟨rfl, hb1⟩
    go_wp2
    go_ret
    exact ⟨rfl, hb1⟩

/-- A note without ends of lines. -/
def nt (t : List UInt8) : List UInt8 := t.filter fun b => !nl b
theorem nt_take_y {t : List UInt8} {k : Nat} {x : UInt8} (h : k < t.length) (hx : x = t[k]?.getD 0) (hn : nl x = false) : nt (t.take (k + 1)) = nt (t.take k) ++ [x] := by
  rw [take_at h hx]; simp [nt, hn]
theorem nt_take_n {t : List UInt8} {k : Nat} {x : UInt8} (h : k < t.length) (hx : x = t[k]?.getD 0) (hn : nl x = true) : nt (t.take (k + 1)) = nt (t.take k) := by
  rw [take_at h hx]; simp [nt, hn]
theorem nt_length (t : List UInt8) : (nt t).length ≤ t.length := List.length_filter_le _ _
theorem nt_nl (t : List UInt8) : ∀ b ∈ nt t, nl b = false := fun b hb => by
  have := (List.mem_filter.1 hb).2
  simpa using this
theorem skN_zero (l : List UInt8) : skN l 0 = sk false l := by
  have hp : pl l.length 0 = 0 := by simp [pl]
  unfold skN
  rw [hp, List.drop_zero, Nat.zero_add]
theorem skN_again (l : List UInt8) (a : Int) : skN l ((skN l a : Nat) : Int) = skN l a := by
  have hle := skN_le l a
  have hp : pl l.length ((skN l a : Nat) : Int) = skN l a := pl_of _ _ hle
  have h0 : sk false (l.drop (skN l a)) = 0 := by
    have := sk_end (l.drop (pl l.length a)) false
    rw [List.drop_drop] at this
    exact this
  show pl l.length ((skN l a : Nat) : Int) + sk false (l.drop (pl l.length ((skN l a : Nat) : Int))) = skN l a
  rw [hp, h0]
  rfl
theorem skN_there {l : List UInt8} {a : Int} (h : skN l a < l.length) : (l[skN l a]?.getD 0) ≠ 37 ∧ wh (l[skN l a]?.getD 0) = false := by
  have h0 : sk false (l.drop (skN l a)) = 0 := by
    have := sk_end (l.drop (pl l.length a)) false
    rw [List.drop_drop] at this
    exact this
  rw [drop_at h rfl] at h0
  exact sk_zero h0
theorem skN_ge {l : List UInt8} {a : Int} (h0 : 0 ≤ a) (h1 : a ≤ (l.length : Int)) : a ≤ ((skN l a : Nat) : Int) := by
  have : ((pl l.length a : Nat) : Int) = a := by unfold pl; omega
  unfold skN
  omega
theorem nl_bool (x : UInt8) : (((x.toNat : Int) != 10) = true ∧ ((x.toNat : Int) != 13) = true ∧ nl x = false) ∨ (((x.toNat : Int) != 10) = true ∧ ((x.toNat : Int) != 13) = false ∧ nl x = true) ∨ (((x.toNat : Int) != 10) = false ∧ nl x = true) := by
  have h := nl_int x
  cases h1 : (x.toNat : Int) != 10 with
  | true =>
    cases h2 : (x.toNat : Int) != 13 with
    | true => rw [h1, h2] at h; exact .inl ⟨rfl, rfl, by simpa using h.symm⟩
    | false => rw [h1, h2] at h; exact .inr (.inl ⟨rfl, rfl, by simpa using h.symm⟩)
  | false => rw [h1] at h; exact .inr (.inr ⟨rfl, by simpa using h.symm⟩)

set_option maxRecDepth 100000 in
set_option maxHeartbeats 8000000 in
theorem lexSkips_short (a : Int) (l t : List UInt8) (w : World) (ht : Tab w) (h1 : l.length ≤ 500) (h2 : t.length ≤ 300) :
    Calls Tryd.prog 5 #[.string (str l), .int .i64 a, .string (str t)] w fun e w' => e = .returned (.bool true) ∧ Below w.heap.size w w' := by
  have d1 : decide ((500 : Int) < (l.length : Int)) = false := by simp; omega
  have d2 : decide ((300 : Int) < (t.length : Int)) = false := by simp; omega
  have k1 : ∀ w, Tab w → Calls Tryd.prog 17 #[.string (str l), .int .i64 a] w fun e w' => e = .returned (.int .i64 (skN l a : Nat)) ∧ Below w.heap.size w w' := fun w ht => Skip_any l a w ht (by omega)
  have k2 : ∀ w, Tab w → Calls Tryd.prog 17 #[.string (str l), .int .i64 ((skN l a : Nat) : Int)] w fun e w' => e = .returned (.int .i64 (skN l a : Nat)) ∧ Below w.heap.size w w' := fun w ht => by
    have := Skip_any l ((skN l a : Nat) : Int) w ht (by omega)
    rwa [skN_again] at this
  obtain ⟨f, hf⟩ : ∃ f, f = [32, 37] ++ nt t ++ [10] := ⟨_, rfl⟩
  have hfl : f.length ≤ t.length + 3 := by rw [hf]; have := nt_length t; simp; omega
  have k3 : ∀ w, Tab w → Calls Tryd.prog 17 #[.string (str (f ++ l)), .int .i64 0] w fun e w' => e = .returned (.int .i64 ((f.length : Int) + ((sk false l : Nat) : Int))) ∧ Below w.heap.size w w' := fun w ht => by
    have := Skip_any (f ++ l) 0 w ht (by simp; omega)
    rw [skN_zero, hf, sk_text _ _ (nt_nl t), ← hf] at this
    rw [show (f.length : Int) + ((sk false l : Nat) : Int) = ((f.length + sk false l : Nat) : Int) by omega]
    exact this
  have k4 : ∀ w, Tab w → Calls Tryd.prog 17 #[.string (str l), .int .i64 0] w fun e w' => e = .returned (.int .i64 ((sk false l : Nat) : Int)) ∧ Below w.heap.size w w' := fun w ht => by
    have := Skip_any l 0 w ht (by omega)
    rwa [skN_zero] at this
  have hsl := sk_le l false
  have hNl := skN_le l a
  have hge : 0 ≤ a → a ≤ (l.length : Int) → a ≤ ((skN l a : Nat) : Int) := skN_ge
  have hth : skN l a < l.length → (l[skN l a]?.getD 0) ≠ 37 ∧ wh (l[skN l a]?.getD 0) = false := skN_there
  generalize skN l a = N at *
  generalize sk false l = m at *
  obtain ⟨y, hy⟩ : ∃ y, y = l[N]?.getD 0 := ⟨_, rfl⟩
  rw [← hy] at hth
  have hgy : ∀ h, (str l)[N]'h = y := fun h => (get_str l N h).trans hy.symm
  have hyC : ∀ w, Tab w → Calls Tryd.prog 15 #[.int .i64 (y.toNat : Int)] w fun e w' => e = .returned (.int .i64 (cb y)) ∧ w = w' := fun w ht => Class_any _ w ht
  have hy1 := y.toNat_lt
  have hend : (decide (N < l.length) = false) ∨ (decide (N < l.length) = true ∧ N < l.length ∧ (cb y == 1) = false ∧ ((y.toNat : Int) == 37) = false) := by
    by_cases hh : N < l.length
    · obtain ⟨q1, q2⟩ := hth hh
      exact .inr ⟨by simp; omega, hh, by rw [cb_one, q2], ne37.2 q1⟩
    · exact .inl (by simp; omega)
  have hat : (decide (0 ≤ a) = false) ∨ (decide (0 ≤ a) = true ∧ decide (a ≤ (l.length : Int)) = false) ∨ (decide (0 ≤ a) = true ∧ decide (a ≤ (l.length : Int)) = true ∧ decide ((N : Int) < a) = false) := by
    by_cases q1 : 0 ≤ a
    · by_cases q2 : a ≤ (l.length : Int)
      · have := hge q1 q2
        exact .inr (.inr ⟨by simpa using q1, by simpa using q2, by simp; omega⟩)
      · exact .inr (.inl ⟨by simpa using q1, by simp; omega⟩)
    · exact .inl (by simpa using q1)
  generalize cb y = cy at *
  have c1 : decide (l.length < N) = false := by simp; omega
  have c0 : decide ((N : Int) < 0) = false := by simp
  have hap6 : str f ++ str l = str (f ++ l) := str_append f l
  have hfl2 : f.length + l.length ≤ 9223372036854775807 := by omega
  generalize f ++ l = fl at *
  have hap5 : str ([32, 37] ++ nt t) ++ ByteArray.mk #[10] = str f := by rw [hf]; exact str_append ([32, 37] ++ nt t) [10]
  have hntl := nt_length t
  have K1 := Lib.hid k1
  have K2 := Lib.hid k2
  have K3 := Lib.hid k3
  have K4 := Lib.hid k4
  have HYC := Lib.hid hyC
  have HAP5 := Lib.hid hap5
  clear k1 k2 k3 k4 hyC hge hth hf hy hap5
  go_enter Tryd.func5, Tryd.ntmps5
  go_wp2_with fail
  refine (awake_any _ ht).mono ?_
  rintro e w1 ⟨rfl, hb1⟩
  have ht1 := ht.below' hb1
  go_wp2_with fail
  refine (K1.out _ ht1).mono ?_
  rintro e w2 ⟨rfl, hb2⟩
  have ht2 := ht1.below' hb2
  have hb2' := hb1.trans (hb2.mono hb1.size)
  go_wp2_with fail
  refine (K2.out _ ht2).mono ?_
  rintro e w3 ⟨rfl, hb3⟩
  have ht3 := ht2.below' hb3
  have hb3' := hb2'.trans (hb3.mono hb2'.size)
  rcases hat with a1 | ⟨a1, a2⟩ | ⟨a1, a2, a3⟩
  all_goals
    rcases hend with r1 | ⟨r1, r0, r2, r3⟩
    all_goals
      first
      | (go_wp2_with fail
         refine (HYC.out _ ht3).mono ?_
         rintro e w' ⟨rfl, rfl⟩
         go_wp2_with fail)
      | go_wp2_with fail
      go_loop [9, 10] (fun s i => ∃ k : Nat, k ≤ t.length ∧ i = .int .i64 k ∧ s = .string (str ([32, 37] ++ nt (t.take k)))) (fun _ i => t.length - (intOf i).toNat)
      case atStart => exact ⟨0, Nat.zero_le _, rfl, rfl⟩
      case round =>
        obtain ⟨k, hk, rfl, rfl⟩ := hrel
        by_cases hlt : k < t.length
        · have hlt' : decide (k < t.length) = true := by simp; omega
          obtain ⟨x, hx⟩ : ∃ x, x = t[k]?.getD 0 := ⟨_, rfl⟩
          have hgs : ∀ h, (str t)[k]'h = x := fun h => (get_str t k h).trans hx.symm
          have hx1 := x.toNat_lt
          have hkl := nt_length (t.take k)
          have hkl2 : (t.take k).length ≤ k := List.length_take_le _ _
          obtain ⟨o, ho⟩ : ∃ o, o = [32, 37] ++ nt (t.take k) := ⟨_, rfl⟩
          have hol : o.length ≤ k + 2 := by rw [ho]; simp; omega
          have hsl1 : ∀ wx, (Instr.slice 9 (.string (str t)) (some (.int .i64 (k : Int))) (some (.int .i64 ((k : Int) + 1))) none).run Tryd.prog wx = .ok (.string (str [x])) wx := fun wx => by
            have := run_mid (P := Tryd.prog) t k (k + 1) (by omega) (by omega) 9 Tryd.underlying9 wx
            rw [drop_at hlt hx, show k + 1 - k = 1 by omega] at this
            exact this
          have hap : str o ++ str [x] = str (o ++ [x]) := str_append o [x]
          have hos : o.length + 1 ≤ 9223372036854775807 := by omega
          have hny : nl x = false → o ++ [x] = [32, 37] ++ nt (t.take (k + 1)) := fun h => by rw [nt_take_y hlt hx h, ho, List.append_assoc]
          have hnn : nl x = true → o = [32, 37] ++ nt (t.take (k + 1)) := fun h => by rw [nt_take_n hlt hx h, ho]
          rw [← ho]
          have HNY := Lib.hid hny
          have HNN := Lib.hid hnn
          clear hx ho hny hnn hkl hkl2
          rcases nl_bool x with ⟨n1, n2, n3⟩ | ⟨n1, n2, n3⟩ | ⟨n1, n3⟩
          · have e := HNY.out n3
            generalize o ++ [x] = o2 at *
            have E := Lib.hid e
            clear e
            go_wp2_with fail
            go_round
            case rel => exact ⟨k + 1, by omega, by go_num, by rw [E.out]⟩
            case measure => simp [intOf]; omega
          · have E := Lib.hid (HNN.out n3)
            go_wp2_with fail
            go_round
            case rel => exact ⟨k + 1, by omega, by go_num, by rw [← E.out]⟩
            case measure => simp [intOf]; omega
          · have E := Lib.hid (HNN.out n3)
            go_wp2_with fail
            go_round
            case rel => exact ⟨k + 1, by omega, by go_num, by rw [← E.out]⟩
            case measure => simp [intOf]; omega
        · have hkt : t.take k = t := List.take_of_length_le (by omega)
          rw [hkt]
          have hap5 := HAP5.out
          have hfl3 : ([32, 37] ++ nt t).length ≤ 302 := by simp; omega
          generalize [32, 37] ++ nt t = o at *
          have hlt' : decide (k < t.length) = false := by simp; omega
          have hms : (f.length : Int) + (m : Int) ≤ 9223372036854775807 := by omega
          go_wp2_with fail
          refine (K3.out _ ht3).mono ?_
          rintro e w4 ⟨rfl, hb4⟩
          have ht4 := ht3.below' hb4
          have hb4' := hb3'.trans (hb4.mono hb3'.size)
          go_wp2_with fail
          refine (K4.out _ ht4).mono ?_
          rintro e w5 ⟨rfl, hb5⟩
          have hb5' := hb4'.trans (hb5.mono hb4'.size)
          go_wp2
          go_ret
          exact ⟨rfl, hb5'⟩

theorem lexSkips_walk (a : Int) (l t : List UInt8) (w : World) (ht : Tab w) (hm : l.length ≤ maxLen) (hm' : t.length ≤ maxLen) :
    Calls Tryd.prog 5 #[.string (str l), .int .i64 a, .string (str t)] w fun e w' => e = .returned (.bool true) ∧ Below w.heap.size w w' := by
  by_cases h : 500 < l.length ∨ 300 < t.length
  · exact lexSkips_long a l t w ht hm hm' h
  · exact lexSkips_short a l t w ht (by omega) (by omega)
end Go.Proofs.YtpobiaibkmmjpaaDoor
