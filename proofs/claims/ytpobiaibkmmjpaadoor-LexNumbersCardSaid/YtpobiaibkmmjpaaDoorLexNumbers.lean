/-
  The walk of the statement LexNumbers: a number is a sign and digits.
-/
import Derived.Test.YtpobiaibkmmjpaaDoorLexAwake
import Derived.Test.YtpobiaibkmmjpaaDoorRefInt
namespace Go.Proofs.YtpobiaibkmmjpaaDoor
open Go.RowKit

set_option maxHeartbeats 1000000 in
theorem lexNumbers_long (z : Int) (l : List UInt8) (w : World) (ht : Tab w) (hm : l.length ≤ maxLen) (h : 200 < l.length) :
    Calls Tryd.prog 6 #[.string (str l), .int .i64 z] w fun e w' => e = .returned (.bool true) ∧ Below w.heap.size w w' := by
  unfold maxLen at hm
  have d1 : decide ((200 : Int) < (l.length : Int)) = true := by simp; omega
  go_enter Tryd.func6, Tryd.ntmps6
  go_wp2_with fail
  refine (awake_any _ ht).mono ?_
  rintro e w1 ⟨rfl, hb1⟩
  go_wp2
  go_ret
  exact ⟨rfl, hb1⟩

set_option maxHeartbeats 1000000 in
theorem lexNumbers_bad (z : Int) (l : List UInt8) (w : World) (ht : Tab w) (h : l.length ≤ 200) (hn : inN l = 0) (he : inE l = 3 ∨ inE l = 4) :
    Calls Tryd.prog 6 #[.string (str l), .int .i64 z] w fun e w' => e = .returned (.bool true) ∧ Below w.heap.size w w' := by
  have d1 : decide ((200 : Int) < (l.length : Int)) = false := by simp; omega
  rcases he with he | he
  · have k1 : ∀ w, Calls Tryd.prog 13 #[.string (str l)] w fun e w' => e = .returned (.tuple #[.int .i64 0, .int .i64 3]) ∧ Below w.heap.size w w' := fun w => by
      have := Int_any l w (by omega)
      rwa [hn, he] at this
    have K1 := Lib.hid k1
    clear k1 hn he
    go_enter Tryd.func6, Tryd.ntmps6
    go_wp2_with fail
    refine (awake_any _ ht).mono ?_
    rintro e w1 ⟨rfl, hb1⟩
    go_wp2_with fail
    refine (K1.out _).mono ?_
    rintro e w2 ⟨rfl, hb2⟩
    go_wp2
    go_ret
    exact ⟨rfl, hb1.trans (hb2.mono hb1.size)⟩
  · have k1 : ∀ w, Calls Tryd.prog 13 #[.string (str l)] w fun e w' => e = .returned (.tuple #[.int .i64 0, .int .i64 4]) ∧ Below w.heap.size w w' := fun w => by
      have := Int_any l w (by omega)
      rwa [hn, he] at this
    have K1 := Lib.hid k1
    clear k1 hn he
    go_enter Tryd.func6, Tryd.ntmps6
    go_wp2_with fail
    refine (awake_any _ ht).mono ?_
    rintro e w1 ⟨rfl, hb1⟩
    go_wp2_with fail
    refine (K1.out _).mono ?_
    rintro e w2 ⟨rfl, hb2⟩
    go_wp2
    go_ret
    exact ⟨rfl, hb1.trans (hb2.mono hb1.size)⟩

/-- The sign and the body of a text that is a number, and what the statement's other texts are. -/
theorem num_parts {l : List UInt8} (h : okD (bd l) = true) (hr : inR (iv l) = true) (m : Nat) : ∃ (sg D : List UInt8) (V : Nat) (n : Int) (g : Int),
    okD D = true ∧ l = sg ++ D ∧ inN l = n ∧ inE l = 0 ∧ (n = (V : Int) ∨ n = -(V : Int)) ∧ -2147483648 ≤ n ∧ n ≤ 2147483647 ∧ V ≤ 2147483648 ∧
    inN (sg ++ List.replicate m 48 ++ D) = n ∧ inE (sg ++ List.replicate m 48 ++ D) = 0 ∧ inE (43 :: l) = g ∧ inN (45 :: D) = -(V : Int) ∧ inE (45 :: D) = 0 ∧
    ((sg = [] ∧ g = 0 ∧ 0 < l.length ∧ (l[0]?.getD 0) ≠ 43 ∧ (l[0]?.getD 0) ≠ 45) ∨ (g = 3 ∧ 0 < l.length ∧ ((sg = [43] ∧ (l[0]?.getD 0) = 43) ∨ (sg = [45] ∧ (l[0]?.getD 0) = 45)))) := by
  have hin := in_ok h hr
  rw [inR_true] at hr
  cases l with
  | nil => simp [bd, okD] at h
  | cons b t =>
    by_cases h45 : b = 45
    · subst h45
      have hb : bd (45 :: t) = t := by simp [bd]
      rw [hb] at h
      have hi : iv (45 :: t) = -(val t : Int) := by simp [iv, sgn, hb, ng]
      rw [hi] at hr hin
      have hv : val t ≤ 2147483648 := by omega
      have hz := in_minus (okD_zeros h m) (by rw [val_zeros]; exact hv)
      rw [val_zeros] at hz
      have hmn := in_minus h hv
      exact ⟨[45], t, val t, -(val t : Int), 3, h, rfl, hin.1, hin.2, .inr rfl, by omega, by omega, hv, hz.1, hz.2, in_twice (.inl rfl), hmn.1, hmn.2, .inr ⟨rfl, by simp, .inr ⟨rfl, rfl⟩⟩⟩
    · by_cases h43 : b = 43
      · subst h43
        have hb : bd (43 :: t) = t := by simp [bd]
        rw [hb] at h
        have hi : iv (43 :: t) = (val t : Int) := by simp [iv, sgn, hb, ng]
        rw [hi] at hr hin
        have hv : val t ≤ 2147483647 := by omega
        have hz := in_plus (okD_zeros h m) (by rw [val_zeros]; exact hv)
        rw [val_zeros] at hz
        have hmn := in_minus h (by omega)
        exact ⟨[43], t, val t, (val t : Int), 3, h, rfl, hin.1, hin.2, .inl rfl, by omega, by omega, by omega, hz.1, hz.2, in_twice (.inr rfl), hmn.1, hmn.2, .inr ⟨rfl, by simp, .inl ⟨rfl, rfl⟩⟩⟩
      · have hb : bd (b :: t) = b :: t := by simp [bd, h45, h43]
        rw [hb] at h
        have hi : iv (b :: t) = (val (b :: t) : Int) := by simp [iv, sgn, hb, ng, h45]
        rw [hi] at hr hin
        have hv : val (b :: t) ≤ 2147483647 := by omega
        have hz := (in_digits (okD_zeros h m)).1 (by rw [val_zeros]; exact hv)
        rw [val_zeros] at hz
        have hmn := in_minus h (by omega)
        have hpl := in_plus h hv
        exact ⟨[], b :: t, val (b :: t), (val (b :: t) : Int), 0, h, rfl, hin.1, hin.2, .inl rfl, by omega, by omega, by omega, hz.1, hz.2, hpl.2, hmn.1, hmn.2, .inl ⟨rfl, rfl, by simp, by simpa using h43, by simpa using h45⟩⟩

set_option maxRecDepth 100000 in
set_option maxHeartbeats 4000000 in
theorem lexNumbers_good (z : Int) (l : List UInt8) (w : World) (ht : Tab w) (h : l.length ≤ 200) (hok : okD (bd l) = true) (hr : inR (iv l) = true) :
    Calls Tryd.prog 6 #[.string (str l), .int .i64 z] w fun e w' => e = .returned (.bool true) ∧ Below w.heap.size w w' := by
  have d1 : decide ((200 : Int) < (l.length : Int)) = false := by simp; omega
  obtain ⟨m, hm⟩ : ∃ m : Nat, bits .and .i64 z 15 = (m : Int) := ⟨(z % 16).toNat, by rw [i64_mask4]; omega⟩
  have hm1 : m < 16 := by have := i64_mask4 z; omega
  obtain ⟨sg, D, V, n, g, hD, hl, e1, e2, hnV, hn0, hn1, hV, e3, e4, e5, e6, e7, hcase⟩ := num_parts hok hr m
  have hDl : D.length ≤ 200 := by have := congrArg List.length hl; simp at this; omega
  have hsl' : sg.length ≤ 1 := by rcases hcase with ⟨rfl, _⟩ | ⟨_, _, ⟨rfl, _⟩ | ⟨rfl, _⟩⟩ <;> simp
  have k1 : ∀ w, Calls Tryd.prog 13 #[.string (str l)] w fun e w' => e = .returned (.tuple #[.int .i64 n, .int .i64 0]) ∧ Below w.heap.size w w' := fun w => by
    have := Int_any l w (by omega)
    rwa [e1, e2] at this
  have k2 : ∀ w, Calls Tryd.prog 13 #[.string (str (sg ++ List.replicate m 48 ++ D))] w fun e w' => e = .returned (.tuple #[.int .i64 n, .int .i64 0]) ∧ Below w.heap.size w w' := fun w => by
    have := Int_any (sg ++ List.replicate m 48 ++ D) w (by simp; omega)
    rwa [e3, e4] at this
  have k3 : ∀ w, Calls Tryd.prog 13 #[.string (str (43 :: l))] w fun e w' => e = .returned (.tuple #[.int .i64 (inN (43 :: l)), .int .i64 g]) ∧ Below w.heap.size w w' := fun w => by
    have := Int_any (43 :: l) w (by simp; omega)
    rwa [e5] at this
  have k4 : ∀ w, Calls Tryd.prog 13 #[.string (str (45 :: D))] w fun e w' => e = .returned (.tuple #[.int .i64 (-(V : Int)), .int .i64 0]) ∧ Below w.heap.size w w' := fun w => by
    have := Int_any (45 :: D) w (by simp; omega)
    rwa [e6, e7] at this
  obtain ⟨kk, hkk⟩ : ∃ kk : Int, kk = -(V : Int) := ⟨_, rfl⟩
  rw [← hkk] at k4
  have hk0 : kk ≤ 0 := by omega
  have hkb : -2147483648 ≤ kk := by omega
  have hks : (kk == n) = true ∨ ((kk == n) = false ∧ (kk == -n) = true) := by
    by_cases hh : kk = n
    · exact .inl (by simpa using hh)
    · exact .inr ⟨by simpa using hh, by rcases hnV with h1 | h1; (· simp; omega); (· exact absurd (hkk.trans h1.symm) hh)⟩
  have r0 : decide (kk ≤ 0) = true := by simpa using hk0
  have r1 : decide (-2147483648 ≤ n) = true := by simpa using hn0
  have r2 : decide (n ≤ 2147483647) = true := by simpa using hn1
  clear hkk
  generalize inN (43 :: l) = pn at *
  have hap3 : ByteArray.mk #[43] ++ str l = str (43 :: l) := str_append [43] l
  have hap4 : ByteArray.mk #[45] ++ str D = str (45 :: D) := str_append [45] D
  generalize 43 :: l = l3 at *
  generalize 45 :: D = l4 at *
  have hap1 : ∀ q : List UInt8, str sg ++ str q = str (sg ++ q) := fun q => str_append sg q
  obtain ⟨rz, hrz⟩ : ∃ rz, rz = List.replicate m (48 : UInt8) := ⟨_, rfl⟩
  have hrzl : rz.length = m := by rw [hrz]; simp
  obtain ⟨l5, hl5⟩ : ∃ l5, l5 = sg ++ rz := ⟨_, rfl⟩
  have ha5 : str sg ++ str rz = str l5 := by rw [hl5]; exact str_append sg rz
  obtain ⟨l6, hl6⟩ : ∃ l6, l6 = l5 ++ D := ⟨_, rfl⟩
  have ha6 : str l5 ++ str D = str l6 := by rw [hl6]; exact str_append l5 D
  rw [← hrz, ← hl5, ← hl6] at k2
  have hl5l : l5.length ≤ 16 := by rw [hl5, List.length_append]; omega
  have K1 := Lib.hid k1
  have K2 := Lib.hid k2
  have K3 := Lib.hid k3
  have K4 := Lib.hid k4
  have HRZ := Lib.hid hrz
  have HNV := Lib.hid hnV
  have HL := Lib.hid hl
  clear k1 k2 k3 k4 hap1 hrz hnV hl e1 e2 e3 e4 e5 e6 e7 hok hr hl5 hl6
  obtain ⟨b, hb⟩ : ∃ b, b = l[0]?.getD 0 := ⟨_, rfl⟩
  have hgb : ∀ h, (str l)[0]'h = b := fun h => (get_str l 0 h).trans hb.symm
  have hb1 := b.toNat_lt
  rw [← hb] at hcase
  clear hb
  go_enter Tryd.func6, Tryd.ntmps6
  go_wp2_with fail
  refine (awake_any _ ht).mono ?_
  rintro e w1 ⟨rfl, hb1⟩
  go_wp2_with fail
  refine (K1.out _).mono ?_
  rintro e w2 ⟨rfl, hb2⟩
  have hb2' := hb1.trans (hb2.mono hb1.size)
  go_wp2_with fail
  go_loop [8, 9] (fun s i => ∃ k : Nat, k ≤ m ∧ i = .int .i64 k ∧ s = .string (str (List.replicate k 48))) (fun _ i => m - (intOf i).toNat)
  case atStart => exact ⟨0, Nat.zero_le _, rfl, rfl⟩
  case round =>
    obtain ⟨k, hk, rfl, rfl⟩ := hrel
    by_cases hlt : k < m
    · have hlt' : decide (k < m) = true := by simp; omega
      obtain ⟨o, ho⟩ : ∃ o, o = List.replicate k (48 : UInt8) := ⟨_, rfl⟩
      obtain ⟨o2, ho2⟩ : ∃ o2, o2 = List.replicate (k + 1) (48 : UInt8) := ⟨_, rfl⟩
      have hap : str o ++ ByteArray.mk #[48] = str o2 := by rw [ho, ho2, List.replicate_succ']; exact str_append _ [48]
      have hol : o.length = k := by rw [ho]; simp
      rw [← ho]
      have HO2 := Lib.hid ho2
      clear ho ho2
      go_wp2
      go_round
      case rel => exact ⟨k + 1, by omega, by go_num, by rw [HO2.out]⟩
      case measure => simp [intOf]; omega
    · obtain rfl : k = m := by omega
      rw [← HRZ.out]
      have hlt' : decide (k < k) = false := by simp
      clear HRZ
      rcases hcase with ⟨rfl, rfl, h0, h43, h45⟩ | ⟨rfl, h0, hs⟩
      · obtain rfl : l = D := HL.out
        have t1 : decide ((0 : Int) < (l.length : Int)) = true := by simp; omega
        have h0l : (0 : Int) < (l.length : Int) := by omega
        have t2 : ((b.toNat : Int) == 43) = false := by have : ((b.toNat : Int) == 43) = (b == 43) := byte_eq b 43; rw [this]; simpa using h43
        have t3 : ((b.toNat : Int) == 45) = false := by have : ((b.toNat : Int) == 45) = (b == 45) := byte_eq b 45; rw [this]; simpa using h45
        have ha5' : ByteArray.mk #[] ++ str rz = str l5 := ha5
        clear h43 h45 h0
        rcases hks with s1 | ⟨s1, s2⟩
        all_goals
          go_wp2_with fail
          refine (K2.out _).mono ?_
          rintro e w3 ⟨rfl, hb3⟩
          have hb3' := hb2'.trans (hb3.mono hb2'.size)
          go_wp2_with fail
          refine (K3.out _).mono ?_
          rintro e w4 ⟨rfl, hb4⟩
          have hb4' := hb3'.trans (hb4.mono hb3'.size)
          go_wp2_with fail
          refine (K4.out _).mono ?_
          rintro e w5 ⟨rfl, hb5⟩
          have hb5' := hb4'.trans (hb5.mono hb4'.size)
          go_wp2
          go_ret
          exact ⟨rfl, hb5'⟩
      · have t1 : decide ((0 : Int) < (l.length : Int)) = true := by simp; omega
        have h0l : (0 : Int) < (l.length : Int) := by omega
        have h1l : (1 : Int) ≤ (l.length : Int) := by omega
        have hse : sg.isEmpty = false := by rcases hs with ⟨rfl, _⟩ | ⟨rfl, _⟩ <;> rfl
        have hsl1 : sg.length = 1 := by rcases hs with ⟨rfl, _⟩ | ⟨rfl, _⟩ <;> rfl
        have hto : ∀ wx, (Instr.slice 9 (.string (str l)) none (some (.int .i64 1)) none).run Tryd.prog wx = .ok (.string (str sg)) wx := fun wx => by
          rw [run_slice_string_to_if wx 9 (str l) .i64 1 Tryd.underlying9]
          have e : str (l.take 1) = str sg := by
            rw [HL.out]
            exact str_inj (by simp [← hsl1])
          rw [← e]
          simp [str_size, str_extract, h1l]
        have hfrom : ∀ wx, (Instr.slice 9 (.string (str l)) (some (.int .i64 1)) none none).run Tryd.prog wx = .ok (.string (str D)) wx := fun wx => by
          have := run_from (P := Tryd.prog) l 1 (by omega) 9 Tryd.underlying9 wx
          rw [HL.out, List.drop_left' hsl1, ← HL.out] at this
          exact this
        have hs' : ((b.toNat : Int) == 43) = true ∨ (((b.toNat : Int) == 43) = false ∧ ((b.toNat : Int) == 45) = true) := by
          rcases hs with ⟨_, rfl⟩ | ⟨_, rfl⟩
          · exact .inl (by decide)
          · exact .inr (by decide)
        clear hs h0 hsl1
        rcases hs' with t2 | ⟨t2, t3⟩
        · rcases hks with s1 | ⟨s1, s2⟩
          all_goals
            go_wp2_with fail
            refine (K2.out _).mono ?_
            rintro e w3 ⟨rfl, hb3⟩
            have hb3' := hb2'.trans (hb3.mono hb2'.size)
            go_wp2_with fail
            refine (K3.out _).mono ?_
            rintro e w4 ⟨rfl, hb4⟩
            have hb4' := hb3'.trans (hb4.mono hb3'.size)
            go_wp2_with fail
            refine (K4.out _).mono ?_
            rintro e w5 ⟨rfl, hb5⟩
            have hb5' := hb4'.trans (hb5.mono hb4'.size)
            go_wp2
            go_ret
            exact ⟨rfl, hb5'⟩
        · rcases hks with s1 | ⟨s1, s2⟩
          all_goals
            go_wp2_with fail
            refine (K2.out _).mono ?_
            rintro e w3 ⟨rfl, hb3⟩
            have hb3' := hb2'.trans (hb3.mono hb2'.size)
            go_wp2_with fail
            refine (K3.out _).mono ?_
            rintro e w4 ⟨rfl, hb4⟩
            have hb4' := hb3'.trans (hb4.mono hb3'.size)
            go_wp2_with fail
            refine (K4.out _).mono ?_
            rintro e w5 ⟨rfl, hb5⟩
            have hb5' := hb4'.trans (hb5.mono hb4'.size)
            go_wp2
            go_ret
            exact ⟨rfl, hb5'⟩

theorem lexNumbers_walk (z : Int) (l : List UInt8) (w : World) (ht : Tab w) (hm : l.length ≤ maxLen) :
    Calls Tryd.prog 6 #[.string (str l), .int .i64 z] w fun e w' => e = .returned (.bool true) ∧ Below w.heap.size w w' := by
  by_cases h : 200 < l.length
  · exact lexNumbers_long z l w ht hm h
  · rcases in_cases l with ⟨h1, h2⟩ | ⟨h1, h2⟩ | ⟨h1, h2, _, _⟩
    · exact lexNumbers_bad z l w ht (by omega) h1 (.inl h2)
    · exact lexNumbers_bad z l w ht (by omega) h1 (.inr h2)
    · exact lexNumbers_good z l w ht (by omega) h1 h2
end Go.Proofs.YtpobiaibkmmjpaaDoor
