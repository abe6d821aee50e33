/-
  hex.Val: the code of 1 to 4 bytes, the first one the highest.
-/
import Derived.Test.YtnojapffmcnbaaaProg
import Derived.Test.YtnojapffmcnbaaaMem
import Derived.Handy
import Derived.Test.YtnojapffmcnbaaaBits
namespace Go.Proofs.Ytnojapffmcnbaaa
open Go.RowKit

/-- The number of bytes, the first one the highest. -/
def num (l : List UInt8) : Int := l.foldl (fun a b => a * 256 + (b.toNat : Int)) 0
theorem num_snoc (l : List UInt8) (b : UInt8) : num (l ++ [b]) = num l * 256 + (b.toNat : Int) := by simp [num]
theorem num_take (l : List UInt8) (k : Nat) (h : k < l.length) : num (l.take (k + 1)) = num (l.take k) * 256 + ((l[k]?.getD 0).toNat : Int) := by
  rw [List.take_succ_eq_append_getElem h, num_snoc, List.getElem?_eq_getElem h]; rfl
theorem num_bounds : ∀ (k : Nat) (l : List UInt8), l.length ≤ k → 0 ≤ num l ∧ num l < 256 ^ k
  | 0, l, h => by
    have : l = [] := List.eq_nil_of_length_eq_zero (by omega)
    subst this
    simp [num]
  | k + 1, l, h => by
    rcases List.eq_nil_or_concat l with rfl | ⟨p, b, rfl⟩
    · have h1 : (0 : Int) < 256 ^ (k + 1) := Int.pow_pos (by decide)
      simp only [num, List.foldl_nil]
      exact ⟨by omega, h1⟩
    · have ih := num_bounds k p (by simp at h; omega)
      rw [List.concat_eq_append, num_snoc, Int.pow_succ]
      have := b.toNat_lt
      omega

set_option maxHeartbeats 1000000 in
theorem Val_no (A : Option Addr) (c : Nat) (n : Nat) (w : World) (h : n < 1 ∨ 4 < n) :
    Calls Try.prog 26 #[.slice A n c] w fun e w' => e = .returned (.tuple #[.agg #[.int .i64 0, .int .i64 0], .bool false]) ∧ Below w.heap.size w w' := by
  rcases h with h | h
  · go_enter Try.func26, Try.ntmps26
    go_wp2
    go_returns
    exact ⟨rfl, (Below.refl _ _).alloc (Nat.le_refl _) _⟩
  · have h' : ¬ n < 1 := by omega
    go_enter Try.func26, Try.ntmps26
    go_wp2
    go_returns
    exact ⟨rfl, (Below.refl _ _).alloc (Nat.le_refl _) _⟩

set_option maxHeartbeats 1000000 in
theorem Val_yes (A : Option Addr) (c : Nat) (l : List UInt8) (w : World) (hA : Sl w w.heap.size A l) (h1 : 1 ≤ l.length) (h4 : l.length ≤ 4) :
    Calls Try.prog 26 #[.slice A l.length c] w fun e w' => e = .returned (.tuple #[.agg #[.int .i64 l.length, .int .i64 (num l)], .bool true]) ∧ Below w.heap.size w w' := by
  obtain ⟨b, o, rfl, hbl, hc⟩ := hA (by omega)
  have d1 : decide ((l.length : Int) < 1) = false := by simp; omega
  have d2 : decide ((4 : Int) < (l.length : Int)) = false := by simp; omega
  have HC := Lib.hid hc
  clear hc
  go_enter Try.func26, Try.ntmps26
  go_wp2
  go_loop [4, 18] (fun v i => ∃ k : Nat, k ≤ l.length ∧ i = .int .i64 k ∧ v = .int .i64 (num (l.take k))) (fun _ i => l.length - (intOf i).toNat)
  case atStart => exact ⟨0, Nat.zero_le _, rfl, rfl⟩
  case round =>
    obtain ⟨k, hk, rfl, rfl⟩ := hrel
    by_cases hlt : k < l.length
    · have hcell : w.cell? ⟨b, o + k, none⟩ = some (.int .u8 ((l[k]?.getD 0).toNat : Int)) := HC.out k hlt
      have hs := num_take l k hlt
      have HS := Lib.hid hs
      have hnb := num_bounds 3 (l.take k) (by simp; omega)
      obtain ⟨x, hx⟩ : ∃ x, x = l[k]?.getD 0 := ⟨_, rfl⟩
      rw [← hx] at hcell
      have HX := Lib.hid hx
      clear hs hx
      have hx1 := x.toNat_lt
      obtain ⟨m, hm⟩ : ∃ m, m = num (l.take k) := ⟨_, rfl⟩
      rw [← hm] at hnb
      rw [← hm]
      have HM := Lib.hid hm
      clear hm
      obtain ⟨n0, n1⟩ := hnb
      have n1' : m < 16777216 := by simpa using n1
      clear n1
      have hor := or_byte m x.toNat n0 n1' (by omega)
      go_wp2
      go_round
      case rel => exact ⟨k + 1, by omega, by go_num, by rw [HS.out, ← HM.out, ← HX.out]⟩
      case measure => simp [intOf]; omega
    · obtain rfl : l.length = k := by omega
      rw [List.take_of_length_le (Nat.le_refl _)]
      go_wp2
      go_returns
      exact ⟨rfl, (Below.refl _ _).alloc (Nat.le_refl _) _⟩
end Go.Proofs.Ytnojapffmcnbaaa
