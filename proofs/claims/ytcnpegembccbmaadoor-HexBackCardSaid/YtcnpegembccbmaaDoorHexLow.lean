/-
  Plain facts for HexBack: digits in small letters, and one blank more, are the same digits; a mask of sixteen bits.
-/
import Derived.Test.YtcnpegembccbmaaDoorHexPure
namespace Go.Proofs.YtcnpegembccbmaaDoor

/-- A capital as a small letter. -/
def lowb (b : UInt8) : UInt8 := if 65 ≤ b.toNat then b + 32 else b
theorem hd_le (n : Nat) (h : n < 16) : (hd n).toNat ≤ 70 := by
  have : ∀ n : Fin 16, (hd n.val).toNat ≤ 70 := by decide
  exact this ⟨n, h⟩
theorem low_fin : ∀ n : Fin 16, kb (lowb (hd n.val)) = (n.val : Int) + 2 := by decide
theorem low_kb {n : Nat} (h : n < 16) : kb (lowb (hd n)) = kb (hd n) := by rw [kb_hd h]; exact low_fin ⟨n, h⟩
theorem mem_hexL {x : UInt8} {l : List UInt8} (h : x ∈ hexL l) : ∃ n, n < 16 ∧ x = hd n := by
  simp only [hexL, List.mem_flatMap, hx, List.mem_cons, List.not_mem_nil, or_false] at h
  obtain ⟨b, _, h | h⟩ := h
  · exact ⟨_, hi_lt b, h⟩
  · exact ⟨_, lo_lt b, h⟩
theorem nib_of_kb {a b : UInt8} (h : kb a = kb b) : nib a = nib b := by unfold nib; rw [h]
theorem nibs_map {f : UInt8 → UInt8} : ∀ (l : List UInt8), (∀ x ∈ l, kb (f x) = kb x) → nibs (l.map f) = nibs l
  | [], _ => rfl
  | x :: l, h => by
    have ih := nibs_map l fun y hy => h y (List.mem_cons_of_mem _ hy)
    have h1 := nib_of_kb (h x List.mem_cons_self)
    unfold nibs at ih ⊢
    rw [List.map_cons, List.filterMap_cons, List.filterMap_cons, h1, ih]
theorem nibs_low (l : List UInt8) : nibs ((hexL l).map lowb) = nibs (hexL l) := nibs_map _ fun x hx => by
  obtain ⟨n, hn, rfl⟩ := mem_hexL hx
  exact low_kb hn
theorem good_low (l : List UInt8) : Good ((hexL l).map lowb) := fun x hx => by
  obtain ⟨y, hy, rfl⟩ := List.mem_map.1 hx
  obtain ⟨n, hn, rfl⟩ := mem_hexL hy
  rw [low_kb hn, kb_hd hn]
  omega
theorem nibs_blank {c : UInt8} (h : kb c = 1) : nibs [c] = [] := by rw [nibs_one, if_neg (by omega)]
theorem nibs_into (x : List UInt8) (k : Nat) {c : UInt8} (h : kb c = 1) : nibs (x.take k ++ [c] ++ x.drop k) = nibs x := by
  rw [nibs_append, nibs_append, nibs_blank h, List.append_nil, ← nibs_append, List.take_append_drop]
theorem good_into {x : List UInt8} (hx : Good x) (k : Nat) {c : UInt8} (h : kb c = 1) : Good (x.take k ++ [c] ++ x.drop k) :=
  good_append (good_append (fun b hb => hx b (List.mem_of_mem_take hb)) (fun b hb => by simp at hb; subst hb; omega)) (fun b hb => hx b (List.mem_of_mem_drop hb))
theorem i64_mask16 (n : Int) : bits .and .i64 n 65535 = n % 65536 := by
  have h127 : (BitVec.ofInt 64 65535).toNat = 2 ^ 16 - 1 := by decide
  have key : (BitVec.ofInt 64 n &&& BitVec.ofInt 64 65535).toNat = (n % ((2 ^ 64 : Nat) : Int)).toNat % 2 ^ 16 := by
    rw [BitVec.toNat_and, BitVec.toNat_ofInt, h127, Nat.and_two_pow_sub_one_eq_mod]
  show IntKind.i64.wrap ((BitVec.ofInt 64 n &&& BitVec.ofInt 64 65535).toNat : Nat) = n % 65536
  rw [key, IntKind.wrap_i64]
  omega
/-- The first k as small letters, the rest as they were. -/
def lowTo (x : List UInt8) (k : Nat) : List UInt8 := (x.take k).map lowb ++ x.drop k
theorem lowTo_length (x : List UInt8) (k : Nat) : (lowTo x k).length = x.length := by simp [lowTo]; omega
theorem lowTo_zero (x : List UInt8) : lowTo x 0 = x := by simp [lowTo]
theorem lowTo_all (x : List UInt8) : lowTo x x.length = x.map lowb := by simp [lowTo]
theorem lowTo_at (x : List UInt8) (k j : Nat) (hk : k ≤ x.length) : (lowTo x k)[j]? = if j < k then (x[j]?).map lowb else x[j]? := by
  unfold lowTo
  have e : ((x.take k).map lowb).length = k := by simp; omega
  split
  · rw [List.getElem?_append_left (by omega), List.getElem?_map, List.getElem?_take, if_pos (by assumption)]
  · rw [List.getElem?_append_right (by omega), e, List.getElem?_drop]
    congr 1
    omega
theorem lowTo_get (x : List UInt8) (k : Nat) (h : k < x.length) : (lowTo x k)[k]?.getD 0 = x[k]?.getD 0 := by
  rw [lowTo_at x k k (by omega), if_neg (by omega)]
theorem lowTo_step (x : List UInt8) (k : Nat) (h : k < x.length) (j : Nat) : (lowTo x (k + 1))[j]?.getD 0 = if j = k then lowb (x[k]?.getD 0) else (lowTo x k)[j]?.getD 0 := by
  rw [lowTo_at x (k + 1) j (by omega), lowTo_at x k j (by omega)]
  by_cases hj : j = k
  · subst hj
    rw [if_pos (by omega), if_pos rfl, List.getElem?_eq_getElem h]
    rfl
  · rw [if_neg hj]
    by_cases hlt : j < k
    · rw [if_pos (by omega), if_pos hlt]
    · rw [if_neg (by omega), if_neg hlt]
end Go.Proofs.YtcnpegembccbmaaDoor
