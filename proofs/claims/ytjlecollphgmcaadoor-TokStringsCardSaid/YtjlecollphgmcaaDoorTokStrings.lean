/-
  The walk of the statement TokStrings: a string is its bytes.
-/
import Derived.Test.YtjlecollphgmcaaDoorTokBack
import Derived.Test.YtjlecollphgmcaaDoorStrGet
import Derived.Test.YtjlecollphgmcaaDoorBits
import Derived.BigQuiet
import Derived.Deep.QuietTactic
namespace Go.Proofs.YtjlecollphgmcaaDoor
open Go.RowKit

theorem i64_mask6 (n : Int) : bits .and .i64 n 63 = n % 64 := by
  have h127 : (BitVec.ofInt 64 63).toNat = 2 ^ 6 - 1 := by decide
  have key : (BitVec.ofInt 64 n &&& BitVec.ofInt 64 63).toNat = (n % ((2 ^ 64 : Nat) : Int)).toNat % 2 ^ 6 := by
    rw [BitVec.toNat_and, BitVec.toNat_ofInt, h127, Nat.and_two_pow_sub_one_eq_mod]
  show IntKind.i64.wrap ((BitVec.ofInt 64 n &&& BitVec.ofInt 64 63).toNat : Nat) = n % 64
  rw [key, IntKind.wrap_i64]
  omega

/-- A block that holds a token. -/
def Tc (w : World) (b : Nat) (t : Tk) : Prop := (w.cell? ⟨b, 0, none⟩ = some (.int .i64 t.kind) ∧ w.cell? ⟨b, 1, none⟩ = some (.int .i64 t.at_) ∧ w.cell? ⟨b, 2, none⟩ = some (.int .i64 t.n) ∧ w.cell? ⟨b, 3, none⟩ = some (.string (str t.s))) ∧ b < w.heap.size
theorem Tc.new (w : World) (t : Tk) (ty : TypeId) : Tc (w.alloc (.cells #[.int .i64 t.kind, .int .i64 t.at_, .int .i64 t.n, .string (str t.s)] ty)) w.heap.size t := ⟨⟨by simp, by simp, by simp, by simp⟩, by simp⟩
theorem Tc.over {w w' : World} {b : Nat} {t : Tk} (h : Tc w b t) (hb : Below w.heap.size w w') : Tc w' b t := by
  obtain ⟨⟨h0, h1, h2, h3⟩, hl⟩ := h
  exact ⟨⟨(hb.cell (p := ⟨b, 0, none⟩) hl).trans h0, (hb.cell (p := ⟨b, 1, none⟩) hl).trans h1, (hb.cell (p := ⟨b, 2, none⟩) hl).trans h2, (hb.cell (p := ⟨b, 3, none⟩) hl).trans h3⟩, Nat.lt_of_lt_of_le hl hb.size⟩
theorem Tc.more {w : World} {b : Nat} {t : Tk} (h : Tc w b t) (o : Obj) : Tc (w.alloc o) b t := h.over ((Below.refl _ _).alloc (Nat.le_refl _) _)

/-- What is read of a token that was shown. -/
theorem Next_shown (t : Tk) (hg : Gd t.kind t.n t.s) (hl : (sh t).length ≤ 65536) (w : World) (hT : Tb w) :
    Calls Tryd.prog 13 #[.string (str (sh t)), .int .i64 0] w fun e w' => e = .returned (.tuple #[.agg #[.int .i64 t.kind, .int .i64 0, .int .i64 t.n, .string (str t.s)], .int .i64 ((sh t).length : Int), .int .i64 0]) ∧ Below w.heap.size w w' := by
  obtain ⟨h1, h2, h3⟩ := sh_read t hg [] rfl
  rw [List.append_nil] at h1 h2
  have h := Next_any (sh t) 0 w hT.tab hT.mks hl
  have e : skN (sh t) 0 = 0 := by
    have := skN_of (l := sh t) (q := 0) (Nat.zero_le _)
    rw [List.drop_zero, h2] at this
    exact this
  rw [e] at h
  unfold nxv at h
  rw [if_neg (by omega), List.drop_zero, h1, rv_ok] at h
  simpa using h
/-- What is read of brackets. -/
theorem nest_tk {k : Nat} (h : 1 ≤ k) : tk (List.replicate k 40 ++ List.replicate k 41) = tkStr (List.replicate (k - 1) 40 ++ List.replicate k 41) := by
  obtain ⟨j, rfl⟩ : ∃ j, k = j + 1 := ⟨k - 1, by omega⟩
  rw [List.replicate_succ, List.cons_append, tk_str]
  rfl
theorem nest_sk (k : Nat) : sk false (List.replicate k 40 ++ List.replicate k 41) = 0 := by
  cases k with
  | zero => rfl
  | succ j => rw [List.replicate_succ, List.cons_append]; exact sk_no _ (by decide) (by decide)
theorem Next_nest (k : Nat) (hk : k < 64) (w : World) (hT : Tb w) : Calls Tryd.prog 13 #[.string (str (List.replicate k 40 ++ List.replicate k 41)), .int .i64 0] w fun e w' => e = .returned (nxv (List.replicate k 40 ++ List.replicate k 41) 0) ∧ Below w.heap.size w w' := by
  have h := Next_any (List.replicate k 40 ++ List.replicate k 41) 0 w hT.tab hT.mks (by simp; omega)
  have e : skN (List.replicate k 40 ++ List.replicate k 41) 0 = 0 := by
    have := skN_of (l := List.replicate k 40 ++ List.replicate k 41) (q := 0) (Nat.zero_le _)
    rw [List.drop_zero, nest_sk] at this
    exact this
  rw [e] at h
  exact h
theorem nest_zero : nxv (List.replicate 0 40 ++ List.replicate 0 41) 0 = .tuple #[.agg #[.int .i64 0, .int .i64 0, .int .i64 0, .string ⟨#[]⟩], .int .i64 0, .int .i64 0] := rfl
theorem nest_some {k : Nat} (h : 1 ≤ k) (h2 : k ≤ 32) : nxv (List.replicate k 40 ++ List.replicate k 41) 0 = .tuple #[.agg #[.int .i64 5, .int .i64 0, .int .i64 0, .string (str (List.replicate (k - 1) 40 ++ List.replicate (k - 1) 41))], .int .i64 ((2 * k : Nat) : Int), .int .i64 0] := by
  unfold nxv
  rw [if_neg (by simp; omega), List.drop_zero, nest_tk h]
  have hn := (strT_nest (k - 1) 1 (by omega) (by omega)).1 (by omega)
  rw [show k - 1 + 1 = k by omega] at hn
  unfold tkStr
  rw [hn, if_pos rfl, rv_ok]
  simp only
  rw [show ((0 : Nat) : Int) + ((1 + (2 * (k - 1) + 1) : Nat) : Int) = ((2 * k : Nat) : Int) by omega]
  rfl
theorem nest_deep {k : Nat} (h2 : 32 < k) : ∃ n : Nat, n ≤ 200 ∧ (k < 64 → nxv (List.replicate k 40 ++ List.replicate k 41) 0 = .tuple #[.agg #[.int .i64 0, .int .i64 0, .int .i64 0, .string ⟨#[]⟩], .int .i64 (n : Int), .int .i64 5]) := by
  by_cases hk : k < 64
  · have hn := (strT_nest (k - 1) 1 (by omega) (by omega)).2 (by omega)
    rw [show k - 1 + 1 = k by omega] at hn
    have hkk := strT_k _ 1 (List.replicate (k - 1) 40 ++ List.replicate k 41) (Nat.le_refl _)
    rcases hkk with ⟨e, _⟩ | ⟨_, k1, k2⟩
    · rw [hn] at e; cases e
    · refine ⟨1 + (strT 1 (List.replicate (k - 1) 40 ++ List.replicate k 41)).k, ?_, fun _ => ?_⟩
      · have : sz (strT 1 (List.replicate (k - 1) 40 ++ List.replicate k 41)) = (strT 1 (List.replicate (k - 1) 40 ++ List.replicate k 41)).k + 1 := by simp [sz, hn]
        rw [this] at k2
        simp at k2
        omega
      · unfold nxv
        rw [if_neg (by simp; omega), List.drop_zero, nest_tk (by omega)]
        unfold tkStr
        rw [if_neg (by rw [hn]; decide), hn, rv_no _ _ _ (by decide)]
        simp
  · exact ⟨0, by omega, fun h => absurd h hk⟩
theorem rep_snoc (k : Nat) (x : UInt8) : str (List.replicate k x) ++ ByteArray.mk #[x] = str (List.replicate (k + 1) x) := by
  have h := str_append (List.replicate k x) [x]
  rw [← List.replicate_succ'] at h
  exact h

set_option maxHeartbeats 1000000 in
theorem tokStrings_long (deep : Int) (A : Option Addr) (l : List UInt8) (c : Nat) (w : World) (hT : Tb w) (hm : l.length ≤ maxLen) (h : 200 < l.length) :
    Calls Tryd.prog 5 #[.slice A l.length c, .int .i64 deep] w fun e w' => e = .returned (.bool true) ∧ Below w.heap.size w w' := by
  unfold maxLen at hm
  have d1 : decide ((200 : Int) < (l.length : Int)) = true := by simp; omega
  go_enter Tryd.func5, Tryd.ntmps5
  go_wp2_with fail
  refine (awake_any _ hT).mono ?_
  rintro e w1 ⟨rfl, hb1⟩
  go_wp2
  go_ret
  exact ⟨rfl, hb1⟩

set_option maxRecDepth 100000 in
set_option maxHeartbeats 4000000 in
theorem tokStrings_any (deep : Int) (A : Option Addr) (l : List UInt8) (c : Nat) (w : World) (hT : Tb w) (hm : l.length ≤ maxLen) (hA : Sl w w.heap.size A l) :
    Calls Tryd.prog 5 #[.slice A l.length c, .int .i64 deep] w fun e w' => e = .returned (.bool true) ∧ Below w.heap.size w w' := by
  by_cases hlong : 200 < l.length
  · exact tokStrings_long deep A l c w hT hm hlong
  have d1 : decide ((200 : Int) < (l.length : Int)) = false := by simp; omega
  have hl : l.length ≤ 200 := by omega
  have m1 := i64_mask6 deep
  clear hlong hm
  obtain ⟨k, hk, hmk⟩ : ∃ k : Nat, k < 64 ∧ deep % 64 = (k : Int) := ⟨(deep % 64).toNat, by omega, by omega⟩
  rw [hmk] at m1
  clear hmk
  have g5 : Gd 5 0 l := .inr (.inr (.inr (.inr (.inl ⟨rfl, rfl⟩))))
  have g4 : Gd 4 0 l := .inr (.inr (.inr (.inl ⟨rfl, rfl⟩)))
  have n5 := sh_len ⟨5, 0, 0, l⟩ (k := 201) g5 (by omega) (fun _ => by show l.length ≤ 201; omega) (fun _ => .inl (by show l.length + 1 ≤ 201; omega))
  have n4 := sh_len ⟨4, 0, 0, l⟩ (k := 201) g4 (by omega) (fun _ => by show l.length ≤ 201; omega) (fun _ => .inl (by show l.length + 1 ≤ 201; omega))
  have hS5 : ∀ w, Tb w → Calls Tryd.prog 14 #[.agg #[.int .i64 5, .int .i64 0, .int .i64 0, .string (str l)]] w fun e w' => e = .returned (.string (str (sh ⟨5, 0, 0, l⟩))) ∧ Below w.heap.size w w' := fun w hT => Show_any ⟨5, 0, 0, l⟩ w hT (gd_kd g5) (gd_sw g5 (by show l.length ≤ 65536; omega))
  have hS4 : ∀ w, Tb w → Calls Tryd.prog 14 #[.agg #[.int .i64 4, .int .i64 0, .int .i64 0, .string (str l)]] w fun e w' => e = .returned (.string (str (sh ⟨4, 0, 0, l⟩))) ∧ Below w.heap.size w w' := fun w hT => Show_any ⟨4, 0, 0, l⟩ w hT (gd_kd g4) (gd_sw g4 (by show l.length ≤ 65536; omega))
  have hN5 : ∀ w, Tb w → Calls Tryd.prog 13 #[.string (str (sh ⟨5, 0, 0, l⟩)), .int .i64 0] w fun e w' => e = .returned (.tuple #[.agg #[.int .i64 5, .int .i64 0, .int .i64 0, .string (str l)], .int .i64 ((sh ⟨5, 0, 0, l⟩).length : Int), .int .i64 0]) ∧ Below w.heap.size w w' := fun w hT => Next_shown ⟨5, 0, 0, l⟩ g5 (by omega) w hT
  have hN4 : ∀ w, Tb w → Calls Tryd.prog 13 #[.string (str (sh ⟨4, 0, 0, l⟩)), .int .i64 0] w fun e w' => e = .returned (.tuple #[.agg #[.int .i64 4, .int .i64 0, .int .i64 0, .string (str l)], .int .i64 ((sh ⟨4, 0, 0, l⟩).length : Int), .int .i64 0]) ∧ Below w.heap.size w w' := fun w hT => Next_shown ⟨4, 0, 0, l⟩ g4 (by omega) w hT
  generalize sh ⟨5, 0, 0, l⟩ = s5 at *
  generalize sh ⟨4, 0, 0, l⟩ = s4 at *
  have hN3 : ∀ w, Tb w → Calls Tryd.prog 13 #[.string (str (List.replicate k 40 ++ List.replicate k 41)), .int .i64 0] w fun e w' => e = .returned (nxv (List.replicate k 40 ++ List.replicate k 41) 0) ∧ Below w.heap.size w w' := fun w hT => Next_nest k hk w hT
  have HS5 := Lib.hid hS5
  have HS4 := Lib.hid hS4
  have HN5 := Lib.hid hN5
  have HN4 := Lib.hid hN4
  clear hS5 hS4 hN5 hN4 g5 g4
  have HN3 := Lib.hid hN3
  clear hN3
  go_enter Tryd.func5, Tryd.ntmps5
  go_wp2_with fail
  refine (awake_any _ hT).mono ?_
  rintro e w1 ⟨rfl, hb1⟩
  have hT1 := hT.below' hb1
  have hA1 := hA.over hb1
  have hcv1 := conv8 hA1 c
  have ba1 := (Below.refl w1.heap.size w1).alloc (Nat.le_refl _) (.cells #[.int .i64 5, .int .i64 0, .int .i64 0, .string (str l)] 31)
  have hT1a := hT1.below' ba1
  have t6 : Tc (w1.alloc (.cells #[.int .i64 5, .int .i64 0, .int .i64 0, .string (str l)] 31)) w1.heap.size ⟨5, 0, 0, l⟩ := Tc.new w1 ⟨5, 0, 0, l⟩ _
  go_wp2_with fail
  clear hcv1
  refine (HS5.out _ hT1a).mono ?_
  rintro e w2 ⟨rfl, hb2⟩
  have hT2 := hT1a.below' hb2
  have t6b := t6.over hb2
  have hA2 := (hA1.over ba1).over hb2
  have bw2 := (hb1.trans (ba1.mono hb1.size)).trans (hb2.mono (by have := hb1.size; simp; omega))
  clear hb1 hb2 ba1 t6 hT1 hT1a hA1
  go_wp2_with fail
  refine (HN5.out _ hT2).mono ?_
  rintro e w3 ⟨rfl, hb3⟩
  have hT3 := hT2.below' hb3
  have ba3 := (Below.refl w3.heap.size w3).alloc (Nat.le_refl _) (.cells #[.int .i64 5, .int .i64 0, .int .i64 0, .string (str l)] 31)
  have t6c := (t6b.over hb3).over ba3
  have t8 : Tc (w3.alloc (.cells #[.int .i64 5, .int .i64 0, .int .i64 0, .string (str l)] 31)) w3.heap.size ⟨5, 0, 0, l⟩ := Tc.new w3 ⟨5, 0, 0, l⟩ _
  have hA3 := (hA2.over hb3).over ba3
  have bw3 := (bw2.trans (hb3.mono bw2.size)).trans (ba3.mono (Nat.le_trans bw2.size hb3.size))
  have hT3a := hT3.below' ba3
  have hcv3 := conv8 hA3 c
  have ba4 := (Below.refl (w3.alloc (.cells #[.int .i64 5, .int .i64 0, .int .i64 0, .string (str l)] 31)).heap.size (w3.alloc (.cells #[.int .i64 5, .int .i64 0, .int .i64 0, .string (str l)] 31))).alloc (Nat.le_refl _) (.cells #[.int .i64 4, .int .i64 0, .int .i64 0, .string (str l)] 31)
  have t11 : Tc ((w3.alloc (.cells #[.int .i64 5, .int .i64 0, .int .i64 0, .string (str l)] 31)).alloc (.cells #[.int .i64 4, .int .i64 0, .int .i64 0, .string (str l)] 31)) (w3.alloc (.cells #[.int .i64 5, .int .i64 0, .int .i64 0, .string (str l)] 31)).heap.size ⟨4, 0, 0, l⟩ := Tc.new _ ⟨4, 0, 0, l⟩ _
  have esz : (w3.alloc (.cells #[.int .i64 5, .int .i64 0, .int .i64 0, .string (str l)] 31)).heap.size = w3.heap.size + 1 := by simp
  rw [esz] at t11
  have t6d := t6c.over ba4
  have t8d := t8.over ba4
  have hT4 := hT3a.below' ba4
  have bw4 := bw3.trans (ba4.mono bw3.size)
  clear hb3 ba3 t6b t6c t8 hT2 hT3 hA2 hT3a ba4 esz bw2 bw3
  go_wp2_with fail
  clear hcv3
  refine (HS4.out _ hT4).mono ?_
  rintro e w5 ⟨rfl, hb5⟩
  have hT5 := hT4.below' hb5
  have t6e := t6d.over hb5
  have t8e := t8d.over hb5
  have t11e := t11.over hb5
  have bw5 := bw4.trans (hb5.mono bw4.size)
  clear hb5 t6d t8d t11 hT4 bw4
  go_wp2_with fail
  refine (HN4.out _ hT5).mono ?_
  rintro e w6 ⟨rfl, hb6⟩
  have hT6 := hT5.below' hb6
  have t6f := (t6e.over hb6).more (.cells #[.int .i64 4, .int .i64 0, .int .i64 0, .string (str l)] 31)
  have t8f := (t8e.over hb6).more (.cells #[.int .i64 4, .int .i64 0, .int .i64 0, .string (str l)] 31)
  have t11f := (t11e.over hb6).more (.cells #[.int .i64 4, .int .i64 0, .int .i64 0, .string (str l)] 31)
  have t12 : Tc (w6.alloc (.cells #[.int .i64 4, .int .i64 0, .int .i64 0, .string (str l)] 31)) w6.heap.size ⟨4, 0, 0, l⟩ := Tc.new w6 ⟨4, 0, 0, l⟩ _
  have ba6 := (Below.refl w6.heap.size w6).alloc (Nat.le_refl _) (.cells #[.int .i64 4, .int .i64 0, .int .i64 0, .string (str l)] 31)
  have bw6 := (bw5.trans (hb6.mono bw5.size)).trans (ba6.mono (Nat.le_trans bw5.size hb6.size))
  have hT7 := hT6.below' ba6
  clear hb6 ba6 t6e t8e t11e hT5 hT6 bw5
  go_wp2
  generalize w6.alloc (.cells #[.int .i64 4, .int .i64 0, .int .i64 0, .string (str l)] 31) = w7 at *
  go_loopw [16, 17, 18] (fun a b i wr => ∃ j : Nat, j ≤ k ∧ a = .string (str (List.replicate j 40)) ∧ b = .string (str (List.replicate j 41)) ∧ i = .int .i64 (j : Int) ∧ wr = w7) (fun _ _ i _ => k - (intOf i).toNat)
  case atStart => exact ⟨0, Nat.zero_le _, rfl, rfl, rfl, rfl⟩
  case round =>
    obtain ⟨j, hj, rfl, rfl, rfl, rfl⟩ := hrel
    by_cases hlt : j < k
    · have r1 := rep_snoc j 40
      have r2 := rep_snoc j 41
      have e1 : decide ((j : Int) < (k : Int)) = true := by simp; omega
      have e1' : decide (j < k) = true := by simp; omega
      go_wp2
      go_roundw
      case rel => exact ⟨j + 1, by omega, rfl, rfl, by go_num, trivial⟩
      case measure => simp [intOf]; omega
    · have hjk : j = k := by omega
      subst hjk
      have e1 : decide ((j : Int) < (j : Int)) = false := by simp
      have hN := HN3.out _ hT7
      by_cases h0 : j = 0
      · have hv : nxv (List.replicate j 40 ++ List.replicate j 41) 0 = nxv (List.replicate 0 40 ++ List.replicate 0 41) 0 := by rw [h0]
        rw [hv, nest_zero] at hN
        have b0 : ((j : Int) == 0) = true := by rw [beq_iff_eq]; omega
        have n1 : (List.replicate j (40 : UInt8)).length ≤ 64 := by simp; omega
        have n2 : (List.replicate j (41 : UInt8)).length ≤ 64 := by simp; omega
        clear hv h0 hlt
        generalize List.replicate j (40 : UInt8) = o1 at *
        generalize List.replicate j (41 : UInt8) = o2 at *
        go_wp2_with (go_at_call 13; refine hN.mono ?_; rintro e w8 ⟨rfl, hb8⟩; obtain ⟨⟨x0, x1, x2, x3⟩, x4⟩ := t6f.over hb8; obtain ⟨⟨y0, y1, y2, y3⟩, y4⟩ := t8f.over hb8; obtain ⟨⟨z0, z1, z2, z3⟩, z4⟩ := t11f.over hb8; obtain ⟨⟨v0, v1, v2, v3⟩, v4⟩ := t12.over hb8; have bw8 := bw6.trans (hb8.mono bw6.size))
        go_ret
        exact ⟨rfl, bw8.alloc bw8.size _⟩
      · have b0 : ((j : Int) == 0) = false := by rw [beq_eq_false_iff_ne]; omega
        by_cases h32 : 32 < j
        · obtain ⟨n, hn, hv⟩ := nest_deep h32
          rw [hv hk] at hN
          have n1 : (List.replicate j (40 : UInt8)).length ≤ 64 := by simp; omega
          have n2 : (List.replicate j (41 : UInt8)).length ≤ 64 := by simp; omega
          have b1 : decide ((32 : Int) < (j : Int)) = true := by simp; omega
          clear hv h0 hlt h32
          generalize List.replicate j (40 : UInt8) = o1 at *
          generalize List.replicate j (41 : UInt8) = o2 at *
          go_wp2_with (go_at_call 13; refine hN.mono ?_; rintro e w8 ⟨rfl, hb8⟩; obtain ⟨⟨x0, x1, x2, x3⟩, x4⟩ := t6f.over hb8; obtain ⟨⟨y0, y1, y2, y3⟩, y4⟩ := t8f.over hb8; obtain ⟨⟨z0, z1, z2, z3⟩, z4⟩ := t11f.over hb8; obtain ⟨⟨v0, v1, v2, v3⟩, v4⟩ := t12.over hb8; have bw8 := bw6.trans (hb8.mono bw6.size))
          go_ret
          exact ⟨rfl, bw8.alloc bw8.size _⟩
        · have hv := nest_some (k := j) (by omega) (by omega)
          rw [hv] at hN
          have b1 : decide ((32 : Int) < (j : Int)) = false := by simp; omega
          have sl1 : ∀ wx, (Instr.slice 9 (.string (str (List.replicate j 40))) (some (.int .i64 1)) none none).run Tryd.prog wx = .ok (.string (str (List.replicate (j - 1) 40))) wx := fun wx => by
            have := run_from (P := Tryd.prog) (List.replicate j 40) 1 (by simp; omega) 9 Tryd.underlying9 wx
            rw [List.drop_replicate] at this
            exact this
          have sl2 : ∀ wx, (Instr.slice 9 (.string (str (List.replicate j 41))) (some (.int .i64 1)) none none).run Tryd.prog wx = .ok (.string (str (List.replicate (j - 1) 41))) wx := fun wx => by
            have := run_from (P := Tryd.prog) (List.replicate j 41) 1 (by simp; omega) 9 Tryd.underlying9 wx
            rw [List.drop_replicate] at this
            exact this
          have n1 : (List.replicate j (40 : UInt8)).length ≤ 64 := by simp; omega
          have n2 : (List.replicate j (41 : UInt8)).length ≤ 64 := by simp; omega
          have n3 : (List.replicate (j - 1) (40 : UInt8)).length ≤ 64 := by simp; omega
          have n4' : (List.replicate (j - 1) (41 : UInt8)).length ≤ 64 := by simp; omega
          clear hv h0 hlt h32
          generalize List.replicate j (40 : UInt8) = o1 at *
          generalize List.replicate j (41 : UInt8) = o2 at *
          generalize List.replicate (j - 1) (40 : UInt8) = o3 at *
          generalize List.replicate (j - 1) (41 : UInt8) = o4 at *
          go_wp2_with (go_at_call 13; refine hN.mono ?_; rintro e w8 ⟨rfl, hb8⟩; obtain ⟨⟨x0, x1, x2, x3⟩, x4⟩ := t6f.over hb8; obtain ⟨⟨y0, y1, y2, y3⟩, y4⟩ := t8f.over hb8; obtain ⟨⟨z0, z1, z2, z3⟩, z4⟩ := t11f.over hb8; obtain ⟨⟨v0, v1, v2, v3⟩, v4⟩ := t12.over hb8; have bw8 := bw6.trans (hb8.mono bw6.size))
          go_quiet (fail)
          go_wp2
          go_ret
          exact ⟨rfl, below_drewN (bw8.alloc bw8.size _) _⟩
end Go.Proofs.YtjlecollphgmcaaDoor
