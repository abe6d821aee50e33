/-
  Plain facts of codes: a code's number is its bytes'; codes of as many bytes rise with these; no two are written the same.
-/
import Derived.Test.YtcnpegembccbmaaDoorHexBytes
import Derived.Test.YtcnpegembccbmaaDoorHexVal
import Derived.Test.YtcnpegembccbmaaDoorHexText
import Derived.Test.YtcnpegembccbmaaDoorHexPure
namespace Go.Proofs.YtcnpegembccbmaaDoor

theorem foldl_num (x : List UInt8) : ∀ acc : Int, x.foldl (fun a b => a * 256 + (b.toNat : Int)) acc = acc * 256 ^ x.length + num x := by
  induction x with
  | nil => intro acc; simp [num]
  | cons a x ih =>
    intro acc
    have e : num (a :: x) = x.foldl (fun a b => a * 256 + (b.toNat : Int)) (0 * 256 + (a.toNat : Int)) := rfl
    rw [List.foldl_cons, ih, e, ih (0 * 256 + (a.toNat : Int)), List.length_cons, Int.pow_succ]
    rw [Int.add_mul, Int.mul_assoc, Int.mul_comm 256 (256 ^ x.length)]
    simp only [Int.zero_mul, Int.zero_add]
    omega
theorem num_cons (a : UInt8) (x : List UInt8) : num (a :: x) = (a.toNat : Int) * 256 ^ x.length + num x := by
  have := foldl_num x (0 * 256 + (a.toNat : Int))
  simpa [num] using this
theorem num_beL : ∀ (k : Nat) (v : Int), 0 ≤ v → v < 256 ^ k → num (beL k v) = v
  | 0, v, h0, h1 => by simp at h1; have : v = 0 := by omega
                       subst this; rfl
  | k + 1, v, h0, h1 => by
    have h2 : v / 256 < 256 ^ k := by rw [Int.pow_succ] at h1; omega
    rw [beL, num_snoc, num_beL k (v / 256) (by omega) h2, low_byte]
    omega
theorem mul_step (a b P : Int) (hP : 0 < P) (h : a < b) : a * P + P ≤ b * P := by
  have := Int.mul_le_mul_of_nonneg_right (show a + 1 ≤ b by omega) (Int.le_of_lt hP)
  rw [Int.add_mul, Int.one_mul] at this
  exact this
theorem num_lt (l : List UInt8) : 0 ≤ num l ∧ num l < 256 ^ l.length := num_bounds l.length l (Nat.le_refl _)
theorem less_num : ∀ (x y : List UInt8), x.length = y.length → Op.bytesLess x y = decide (num x < num y)
  | [], [], _ => by simp [Op.bytesLess]
  | [], _ :: _, h => by simp at h
  | _ :: _, [], h => by simp at h
  | a :: x, b :: y, h => by
    have hl : x.length = y.length := by simpa using h
    have ih := less_num x y hl
    have hx := num_lt x
    have hy := num_lt y
    rw [Op.bytesLess, ih, num_cons, num_cons, ← hl]
    rw [← hl] at hy
    have hP : (0 : Int) < 256 ^ x.length := Int.pow_pos (by decide)
    generalize (256 : Int) ^ x.length = P at *
    by_cases h1 : a.toNat < b.toNat
    · have h1' : a < b := UInt8.lt_iff_toNat_lt.2 h1
      have := mul_step (a.toNat : Int) (b.toNat : Int) P hP (by omega)
      have h2 : (a.toNat : Int) * P + num x < (b.toNat : Int) * P + num y := by omega
      simp [h1', h2]
    · have h1' : ¬ a < b := fun hh => h1 (UInt8.lt_iff_toNat_lt.1 hh)
      by_cases h3 : a = b
      · subst h3
        simp [h1']
      · have h4 : b.toNat < a.toNat := by
          have : a.toNat ≠ b.toNat := fun hh => h3 (UInt8.toNat_inj.1 hh)
          omega
        have := mul_step (b.toNat : Int) (a.toNat : Int) P hP (by omega)
        have h2 : ¬ (a.toNat : Int) * P + num x < (b.toNat : Int) * P + num y := by omega
        simp [h1', h3, h2]
theorem less_be {k : Nat} {v u : Int} (h0 : 0 ≤ v) (h1 : v < 256 ^ k) (h2 : 0 ≤ u) (h3 : u < 256 ^ k) : Op.bytesLess (beL k v) (beL k u) = decide (v < u) := by
  rw [less_num _ _ (by rw [beL_length, beL_length]), num_beL k v h0 h1, num_beL k u h2 h3]
theorem eq_be {k : Nat} {v u : Int} (h0 : 0 ≤ v) (h1 : v < 256 ^ k) (h2 : 0 ≤ u) (h3 : u < 256 ^ k) : (beL k v == beL k u) = (v == u) := by
  by_cases h : v = u
  · subst h; simp
  · have : beL k v ≠ beL k u := fun hh => h (by have := congrArg num hh; rwa [num_beL k v h0 h1, num_beL k u h2 h3] at this)
    rw [beq_eq_false_iff_ne.2 this, beq_eq_false_iff_ne.2 h]
theorem hexL_inj {a b : List UInt8} (h : hexL a = hexL b) : a = b := by
  have := congrArg (fun l => pack (nibs l)) h
  simpa [pack_hexL] using this
theorem eq_text {a b : List UInt8} : ((60 : UInt8) :: (hexL a ++ [62]) == 60 :: (hexL b ++ [62])) = (a == b) := by
  by_cases h : a = b
  · subst h; simp
  · have : hexL a ≠ hexL b := fun hh => h (hexL_inj hh)
    rw [beq_eq_false_iff_ne.2 h, beq_eq_false_iff_ne.2 (by simpa using this)]
end Go.Proofs.YtcnpegembccbmaaDoor
