/-
  Whole numbers below 2^32 as floats: which of two is the greater one.
-/
import Derived.Test.YtnojapffmcnbaaaRectLink
namespace Go.Proofs.Ytnojapffmcnbaaa
open Ieee
theorem cut_zero (neg : Bool) (n : Nat) : Toward.even.cut neg n 0 = n := by
  have h1 : min 0 (n.log2 + 2) = 0 := Nat.zero_min _
  have h2 : n % 1 = 0 := Nat.mod_one n
  unfold Toward.cut
  simp only [h1, Nat.shiftLeft_zero, Nat.div_one, h2]
  rfl
theorem dbl : Ieee.double.signWeight = 9223372036854775808 ∧ Ieee.double.binade = 4503599627370496 ∧ Ieee.double.infRung = 9218868437227405312 ∧ Ieee.double.leastPlace = -1074 ∧ Ieee.double.fractionBits = 52 := by decide +kernel
theorem rung0 (L M : Nat) (hL : L ≤ 31) (m2 : M < 9007199254740992) : min ((L + 1022) * 4503599627370496 + M) 9218868437227405312 = (L + 1022) * 4503599627370496 + M := by
  apply Nat.min_eq_left
  omega
theorem rung3 (L M : Nat) (m1 : 4503599627370496 ≤ M) (m2 : M < 9007199254740992) : ((L + 1022) * 4503599627370496 + M) % 4503599627370496 = M - 4503599627370496 := by
  rw [Nat.add_comm, Nat.add_mul_mod_self_right]
  omega
theorem rung2 (L M : Nat) (hL : L ≤ 31) (m2 : M < 9007199254740992) : ((L + 1022) * 4503599627370496 + M) % 9223372036854775808 = (L + 1022) * 4503599627370496 + M := by
  apply Nat.mod_eq_of_lt
  omega
theorem rung1 (L M : Nat) (hL : L ≤ 31) (m2 : M < 9007199254740992) : ((L + 1022) * 4503599627370496 + M) / 9223372036854775808 % 2 = 0 := by
  rw [Nat.div_eq_of_lt (by omega)]
theorem rung4 (L M : Nat) (m1 : 4503599627370496 ≤ M) (m2 : M < 9007199254740992) : ((L + 1022) * 4503599627370496 + M) / 4503599627370496 = L + 1023 := by
  rw [Nat.add_comm, Nat.add_mul_div_right _ _ (by decide)]
  have : M / 4503599627370496 = 1 := Nat.div_eq_of_lt_le (by omega) (by omega)
  omega
theorem rung_read (L M : Nat) (hL : L ≤ 31) (m1 : 4503599627370496 ≤ M) (m2 : M < 9007199254740992) : Ieee.double.read ((L + 1022) * 4503599627370496 + M) = .number false M ((L : Int) - 52) := by
  obtain ⟨s1, s2, s3, s4, _⟩ := dbl
  have n1 : ¬ ((L + 1022) * 4503599627370496 + M < 4503599627370496) := by omega
  have n2 : (L + 1022) * 4503599627370496 + M < 9218868437227405312 := by omega
  unfold Format.read
  simp only [s1, s2, s3, s4, rung1 L M hL m2, rung2 L M hL m2, rung3 L M m1 m2, rung4 L M m1 m2]
  rw [if_neg n1, if_pos n2]
  have z1 : 4503599627370496 + (M - 4503599627370496) = M := by omega
  have z2 : (-1074 : Int) + ((L + 1023 - 1 : Nat) : Int) = (L : Int) - 52 := by omega
  rw [z1, z2]
  rfl
/-- The word of a whole number from 1 to below 2^32. -/
theorem near_pos (a : Nat) (h0 : 0 < a) (h : a < 4294967296) :
    Ieee.double.read (Ieee.double.nearest false a 0) = .number false (a * 2 ^ (52 - a.log2)) ((a.log2 : Int) - 52) ∧ a.log2 ≤ 31 := by
  have hL : a.log2 ≤ 31 := by
    have := (Nat.log2_lt (n := a) (k := 32) (by omega)).2 (by omega)
    omega
  have l1 : 2 ^ a.log2 ≤ a := Nat.log2_self_le (by omega)
  have l2 : a < 2 ^ (a.log2 + 1) := Nat.lt_log2_self
  obtain ⟨s1, s2, s3, s4, s5⟩ := dbl
  refine ⟨?_, hL⟩
  have hn : Ieee.double.nearest false a 0 = min ((max (0 + (a.log2 : Int) - ((52 : Nat) : Int)) (-1074) - (-1074)).toNat * 4503599627370496 + a <<< (0 - max (0 + (a.log2 : Int) - ((52 : Nat) : Int)) (-1074)).toNat) 9218868437227405312 := by
    unfold Format.nearest
    rw [if_neg (by omega)]
    simp only [s2, s3, s4, s5, Format.word]
    have e : (max (0 + (a.log2 : Int) - ((52 : Nat) : Int)) (-1074) - 0).toNat = 0 := by omega
    rw [e, cut_zero, if_neg Bool.false_ne_true]
  rw [hn]
  clear hn
  generalize a.log2 = L at *
  have m1 : 4503599627370496 ≤ a * 2 ^ (52 - L) := by
    have : 2 ^ L * 2 ^ (52 - L) ≤ a * 2 ^ (52 - L) := Nat.mul_le_mul_right _ l1
    rw [← Nat.pow_add, show L + (52 - L) = 52 by omega] at this
    exact this
  have m2 : a * 2 ^ (52 - L) < 9007199254740992 := by
    have : a * 2 ^ (52 - L) < 2 ^ (L + 1) * 2 ^ (52 - L) := Nat.mul_lt_mul_of_pos_right l2 (Nat.two_pow_pos _)
    rw [← Nat.pow_add, show L + 1 + (52 - L) = 53 by omega] at this
    exact this
  have e1 : (max (0 + (L : Int) - ((52 : Nat) : Int)) (-1074) - (-1074)).toNat = L + 1022 := by omega
  have e2 : (0 - max (0 + (L : Int) - ((52 : Nat) : Int)) (-1074)).toNat = 52 - L := by omega
  rw [e1, e2, Nat.shiftLeft_eq]
  generalize a * 2 ^ (52 - L) = M at *
  rw [rung0 L M hL m2, rung_read L M hL m1 m2]
theorem near_zero : Ieee.double.read (Ieee.double.nearest false 0 0) = .number false 0 (-1074) := by decide +kernel
theorem cmp_mul (a b c : Nat) (h : 0 < c) : compare ((a * c : Nat) : Int) ((b * c : Nat) : Int) = compare (a : Int) (b : Int) := by
  rcases Nat.lt_trichotomy a b with h1 | h1 | h1
  · have h2 : a * c < b * c := Nat.mul_lt_mul_of_pos_right h1 h
    rw [Int.compare_eq_lt.2 (by omega), Int.compare_eq_lt.2 (by omega)]
  · subst h1
    rw [Int.compare_eq_eq.2 rfl, Int.compare_eq_eq.2 rfl]
  · have h2 : b * c < a * c := Nat.mul_lt_mul_of_pos_right h1 h
    rw [Int.compare_eq_gt.2 (by omega), Int.compare_eq_gt.2 (by omega)]
/-- The floats of two whole numbers below 2^32 stand to each other as the numbers do. -/
theorem near_order (a b : Nat) (ha : a < 4294967296) (hb : b < 4294967296) :
    Ieee.double.order (Ieee.double.nearest false a 0) (Ieee.double.nearest false b 0) = some (compare (a : Int) (b : Int)) := by
  unfold Format.order
  rcases Nat.eq_zero_or_pos a with rfl | ha0
  · rcases Nat.eq_zero_or_pos b with rfl | hb0
    · decide +kernel
    · obtain ⟨rb, lb⟩ := near_pos b hb0 hb
      rw [near_zero, rb]
      unfold Datum.order
      simp only [signed, Nat.shiftLeft_eq, Nat.zero_mul]
      have h2 : 0 < b * 2 ^ (52 - b.log2) * 2 ^ ((b.log2 : Int) - 52 - min (-1074) ((b.log2 : Int) - 52)).toNat := Nat.mul_pos (Nat.mul_pos hb0 (Nat.two_pow_pos _)) (Nat.two_pow_pos _)
      generalize b * 2 ^ (52 - b.log2) * 2 ^ ((b.log2 : Int) - 52 - min (-1074) ((b.log2 : Int) - 52)).toNat = X at *
      congr 1
      simp only [Bool.false_eq_true, if_false]
      rw [Int.compare_eq_lt.2 (by omega), Int.compare_eq_lt.2 (by omega)]
  · obtain ⟨ra, la⟩ := near_pos a ha0 ha
    rcases Nat.eq_zero_or_pos b with rfl | hb0
    · rw [near_zero, ra]
      unfold Datum.order
      simp only [signed, Nat.shiftLeft_eq, Nat.zero_mul]
      have h2 : 0 < a * 2 ^ (52 - a.log2) * 2 ^ ((a.log2 : Int) - 52 - min ((a.log2 : Int) - 52) (-1074)).toNat := Nat.mul_pos (Nat.mul_pos ha0 (Nat.two_pow_pos _)) (Nat.two_pow_pos _)
      generalize a * 2 ^ (52 - a.log2) * 2 ^ ((a.log2 : Int) - 52 - min ((a.log2 : Int) - 52) (-1074)).toNat = X at *
      congr 1
      simp only [Bool.false_eq_true, if_false]
      rw [Int.compare_eq_gt.2 (by omega), Int.compare_eq_gt.2 (by omega)]
    · obtain ⟨rb, lb⟩ := near_pos b hb0 hb
      rw [ra, rb]
      unfold Datum.order
      simp only [signed, Nat.shiftLeft_eq]
      generalize a.log2 = x at *
      generalize b.log2 = y at *
      have hm : ∀ (c u : Nat), u ≤ 31 → (min x y) ≤ u → c * 2 ^ (52 - u) * 2 ^ ((u : Int) - 52 - min ((x : Int) - 52) ((y : Int) - 52)).toNat = c * 2 ^ (52 - min x y) := fun c u h1 h2 => by
        rw [Nat.mul_assoc, ← Nat.pow_add]
        congr 2
        omega
      rw [hm a x la (by omega), hm b y lb (by omega)]
      congr 1
      simp only [Bool.false_eq_true, if_false]
      exact cmp_mul a b _ (Nat.two_pow_pos _)
/-- The float of a whole number. -/
def flN (n : Int) : Nat := FloatKind.f64.nearest n
theorem flN_nat (a : Nat) : flN (a : Int) = Ieee.double.nearest false a 0 := by
  have h : decide ((a : Int) < 0) = false := decide_eq_false (by omega)
  show Ieee.double.nearest (decide ((a : Int) < 0)) (a : Int).natAbs 0 = _
  rw [h, Int.natAbs_natCast]
theorem flN_order {a b : Int} (ha : 0 ≤ a) (ha' : a < 4294967296) (hb : 0 ≤ b) (hb' : b < 4294967296) : FloatKind.f64.format.order (flN a) (flN b) = some (compare a b) := by
  obtain ⟨x, rfl⟩ := Int.eq_ofNat_of_zero_le ha
  obtain ⟨y, rfl⟩ := Int.eq_ofNat_of_zero_le hb
  rw [flN_nat, flN_nat]
  exact near_order x y (by omega) (by omega)
theorem cmp_eq (a b : Int) : (some (compare a b) == some Ordering.eq) = decide (a = b) := by
  rcases Int.lt_trichotomy a b with h | h | h
  · rw [Int.compare_eq_lt.2 h, decide_eq_false (by omega)]; rfl
  · rw [Int.compare_eq_eq.2 h, decide_eq_true h]; rfl
  · rw [Int.compare_eq_gt.2 h, decide_eq_false (by omega)]; rfl
theorem cmp_lt (a b : Int) : (some (compare a b) == some Ordering.lt) = decide (a < b) := by
  rcases Int.lt_trichotomy a b with h | h | h
  · rw [Int.compare_eq_lt.2 h, decide_eq_true h]; rfl
  · rw [Int.compare_eq_eq.2 h, decide_eq_false (by omega)]; rfl
  · rw [Int.compare_eq_gt.2 h, decide_eq_false (by omega)]; rfl
end Go.Proofs.Ytnojapffmcnbaaa
