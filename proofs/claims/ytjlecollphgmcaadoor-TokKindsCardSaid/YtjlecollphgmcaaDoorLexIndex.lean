/-
  strings.IndexAny at the two bytes that end a line: where a remark ends, in any text.
-/
import Derived.Test.YtjlecollphgmcaaDoorLexRune
import Derived.Test.YtjlecollphgmcaaDoorLexPure
import Derived.Test.YtjlecollphgmcaaDoorShelfAny
namespace Go.Proofs.YtjlecollphgmcaaDoor
open Go.RowKit

/-- What it tells: the place of the first byte that ends a line, or -1. -/
def ia (l : List UInt8) : Int := if eol l < l.length then (eol l : Int) else -1
theorem nl_contains (b : UInt8) : ([10, 13] : List UInt8).contains b = nl b := by
  unfold nl
  simp only [List.contains_cons, List.contains_nil, Bool.or_false]
theorem indexAny_ia : ∀ l : List UInt8, Lib.indexAny l [10, 13] = ia l
  | [] => rfl
  | b :: t => by
    have ih := indexAny_ia t
    have hle := eol_le t
    unfold Lib.indexAny
    rw [nl_contains, ih]
    unfold ia
    cases hb : nl b with
    | true => rw [eol_y t hb]; simp
    | false =>
      rw [eol_n t hb, List.length_cons]
      simp only [Bool.false_eq_true, if_false]
      by_cases h : eol t < t.length
      · have hX : (if eol t < t.length then (eol t : Int) else -1) = eol t := if_pos h
        have hY : ((eol t : Int) == -1) = false := by rw [beq_eq_false_iff_ne]; omega
        rw [hX, hY, if_pos (show eol t + 1 < t.length + 1 by omega)]
        simp
      · have hX : (if eol t < t.length then (eol t : Int) else -1) = -1 := if_neg h
        rw [hX, if_neg (show ¬ eol t + 1 < t.length + 1 by omega)]
        rfl

set_option maxRecDepth 100000 in
set_option maxHeartbeats 4000000 in
theorem decodeN_nl (n b0 b1 b2 b3 : Nat) (h0 : 128 ≤ b0) (h1 : b0 < 256) : 128 ≤ (Lib.decodeN n b0 b1 b2 b3).1 ∧ (2 ≤ (Lib.decodeN n b0 b1 b2 b3).2 → 128 ≤ b1) ∧ (3 ≤ (Lib.decodeN n b0 b1 b2 b3).2 → 128 ≤ b2) ∧ (4 ≤ (Lib.decodeN n b0 b1 b2 b3).2 → 128 ≤ b3) ∧ (Lib.decodeN n b0 b1 b2 b3).2 ≤ 4 := by
  unfold Lib.decodeN
  repeat' split
  all_goals (simp only; omega)
theorem dec_low {l : List UInt8} {R K : Nat} (hd : dec l = (R, K)) (h : (l[0]?.getD 0).toNat < 128) : R = (l[0]?.getD 0).toNat ∧ K = 1 := by
  unfold dec Lib.decodeN at hd
  rw [if_pos h] at hd
  injection hd with h1 h2
  exact ⟨h1.symm, h2.symm⟩
theorem dec_high {l : List UInt8} {R K : Nat} (hd : dec l = (R, K)) (h : 128 ≤ (l[0]?.getD 0).toNat) : 128 ≤ R ∧ ∀ j, j < K → 128 ≤ (l[j]?.getD 0).toNat := by
  have := decodeN_nl l.length (l[0]?.getD 0).toNat (l[1]?.getD 0).toNat (l[2]?.getD 0).toNat (l[3]?.getD 0).toNat h (UInt8.toNat_lt _)
  unfold dec at hd
  rw [hd] at this
  simp only at this
  refine ⟨this.1, fun j hj => ?_⟩
  rcases (show j = 0 ∨ j = 1 ∨ j = 2 ∨ j = 3 by omega) with rfl | rfl | rfl | rfl
  · exact h
  · exact this.2.1 (by omega)
  · exact this.2.2.1 (by omega)
  · exact this.2.2.2.1 (by omega)
theorem nl_high {b : UInt8} (h : 128 ≤ b.toNat) : nl b = false := by
  unfold nl
  rw [Bool.or_eq_false_iff, beq_eq_false_iff_ne, beq_eq_false_iff_ne]
  constructor
  · rintro rfl; exact absurd h (by decide)
  · rintro rfl; exact absurd h (by decide)
theorem eol_skip : ∀ (K : Nat) (l : List UInt8), K ≤ l.length → (∀ j, j < K → nl (l[j]?.getD 0) = false) → eol l = K + eol (l.drop K)
  | 0, l, _, _ => by simp
  | K + 1, [], h, _ => by simp at h
  | K + 1, b :: t, h, hn => by
    have hb : nl b = false := hn 0 (by omega)
    have ih := eol_skip K t (by simpa using h) fun j hj => hn (j + 1) (by omega)
    rw [eol_n t hb, List.drop_succ_cons]
    omega
/-- A step of the range: the value is no end of a line, or it is one, and its byte is. -/
theorem nl_step {l : List UInt8} {R K : Nat} (hne : l ≠ []) (hd : dec l = (R, K)) (h1 : 1 ≤ K) (h2 : K ≤ l.length) :
    (ri (R : Int) = -1 ∧ eol l = K + eol (l.drop K)) ∨ (0 ≤ ri (R : Int) ∧ eol l = 0) := by
  by_cases hb : (l[0]?.getD 0).toNat < 128
  · obtain ⟨hR, hK⟩ := dec_low hd hb
    subst hK
    cases hn : nl (l[0]?.getD 0) with
    | false =>
      left
      refine ⟨?_, eol_skip 1 l h2 fun j hj => by rw [show j = 0 by omega]; exact hn⟩
      unfold nl at hn
      rw [Bool.or_eq_false_iff, beq_eq_false_iff_ne, beq_eq_false_iff_ne] at hn
      unfold ri
      rw [if_neg, if_neg]
      · intro e; exact hn.2 (eq_of_toNat (by rw [← hR]; show R = 13; omega))
      · intro e; exact hn.1 (eq_of_toNat (by rw [← hR]; show R = 10; omega))
    | true =>
      right
      cases l with
      | nil => exact absurd rfl hne
      | cons b t =>
        have hb' : nl b = true := hn
        refine ⟨?_, eol_y t hb'⟩
        unfold nl at hb'
        rw [Bool.or_eq_true, beq_iff_eq, beq_iff_eq] at hb'
        have hR' : R = b.toNat := hR
        rcases hb' with rfl | rfl
        · rw [hR']; decide
        · rw [hR']; decide
  · obtain ⟨hR, hj⟩ := dec_high hd (by omega)
    left
    refine ⟨?_, eol_skip K l h2 fun j h => nl_high (hj j h)⟩
    unfold ri
    rw [if_neg (by omega), if_neg (by omega)]

set_option maxHeartbeats 400000 in
theorem useSet_any (n : Int) (w : World) : Calls Tryd.prog 47 #[.int .i64 n] w fun e w' => e = .returned (.bool (decide (8 < n))) ∧ w = w' := by
  go_enter Tryd.func47, Tryd.ntmps47
  go_wp2
  go_ret
  exact ⟨rfl, rfl⟩

set_option maxRecDepth 100000 in
set_option maxHeartbeats 2000000 in
theorem IndexAny_short (l : List UInt8) (w : World) (hl : l.length ≤ 8) :
    Calls Tryd.prog 33 #[.string (str l), .string (str [10, 13])] w fun e w' => e = .returned (.int .i64 (ia l)) ∧ Below w.heap.size w w' := by
  obtain ⟨q, hq⟩ : ∃ q : List UInt8, q = [10, 13] := ⟨_, rfl⟩
  have hR : ∀ (r : Int) w, ((0 ≤ r ∧ r < 55296) ∨ (57343 < r ∧ r ≤ 1114111)) → Calls Tryd.prog 46 #[.string (str q), .int .i32 r] w fun e w' => e = .returned (.int .i64 (ri r)) ∧ Below w.heap.size w w' := fun r w hv => by rw [hq]; exact IndexRune_nl r w hv
  rw [← hq]
  have hq2 : q.length = 2 := by rw [hq]; rfl
  have hqe : q.isEmpty = false := by rw [hq]; rfl
  have HR := Lib.hid hR
  clear hq hR
  have t1 : decide ((8 : Int) < (l.length : Int)) = false := by simp; omega
  go_enter Tryd.func33, Tryd.ntmps33
  go_wp2_with (go_at_call 47; refine (useSet_any _ _).mono ?_; rintro e w' ⟨rfl, rfl⟩)
  have hit1 := World.iter_heap w (str l) 0
  have hb1' : Below w.heap.size w (w.iter (str l) 0) := (Below.refl _ _).alloc (Nat.le_refl _) _
  generalize w.iter (str l) 0 = w2 at *
  go_loopw [9, 10] (fun _ _ wr => ∃ k : Nat, k ≤ l.length ∧ Hid (k + eol (l.drop k) = eol l) ∧ Hid (wr.heap[w.heap.size]? = some (.stringIter (str l) k)) ∧ Below w.heap.size w wr) (fun _ _ wr => l.length - wr.iterPos w.heap.size)
  case atStart => exact ⟨0, Nat.zero_le _, Lib.hid (by simp), hit1, hb1'⟩
  case round =>
    obtain ⟨k, hk, HE, HI, hbel⟩ := hrel
    by_cases hlt : k < l.length
    · obtain ⟨R, K, hd⟩ : ∃ R K, dec (l.drop k) = (R, K) := ⟨_, _, rfl⟩
      obtain ⟨hK1, hK2, hR1⟩ := dec_drop hlt hd
      have hgood := (dec_ok (drop_ne hlt)).2.2
      rw [hd, goodB_iff] at hgood
      have hnx : ∀ ty, (Instr.next (.pointer (some ⟨w.heap.size, 0, none⟩)) true ty).run Tryd.prog wr = .ok (.tuple #[.bool true, .int .i64 k, .int .i32 (R : Int)]) (wr.iterAt w.heap.size (str l) (k + K)) := fun ty => by
        have := Lib.run_next_any_at (P := Tryd.prog) wr w.heap.size (str l) k ty HI.out (by rw [str_size]; exact hlt)
        rwa [decode_str, hd] at this
      have hit2 := Lib.iterAt_heap wr w.heap.size (str l) k (k + K) HI.out
      have hbel2 := Lib.below_iterAt hbel (k := w.heap.size) (Nat.le_refl _) (str l) (k + K)
      obtain ⟨W, hW⟩ : ∃ W, wr.iterAt w.heap.size (str l) (k + K) = W := ⟨_, rfl⟩
      rw [hW] at hnx hit2 hbel2
      have hp := iterPos_of HI.out
      have HP := Lib.hid hp
      have HI2 := Lib.hid hit2
      have hITW : w.heap.size < W.heap.size := (Array.getElem?_eq_some_iff.1 hit2).1
      have hC : Calls Tryd.prog 46 #[.string (str q), .int .i32 (R : Int)] W fun e w' => e = .returned (.int .i64 (ri (R : Int))) ∧ Below W.heap.size W w' := HR.out (R : Int) W (by simp only at hgood; omega)
      have hst := nl_step (drop_ne hlt) hd hK1 (by rw [List.length_drop]; omega)
      rw [List.drop_drop] at hst
      generalize ri (R : Int) = m at *
      have HC := Lib.hid hC
      have HS := Lib.hid hst
      clear hd hit2 hW hp hgood hC hst
      rcases HS.out with ⟨hm, he⟩ | ⟨hm, he⟩
      · subst hm
        have HEE := Lib.hid he
        clear he
        go_wp2_with (go_at_call 46; refine HC.out.mono ?_; rintro e w3 ⟨rfl, hb3⟩)
        have hit3 : w3.heap[w.heap.size]? = some (.stringIter (str l) (k + K)) := (hb3.block _ hITW).trans HI2.out
        have hp3 := iterPos_of hit3
        go_roundw
        case rel => exact ⟨k + K, by omega, by have := HE.out; have := HEE.out; exact Lib.hid (by omega), hit3, hbel2.trans (hb3.mono hbel2.size)⟩
        case measure => rw [HP.out, hp3]; omega
      · have hia : ia l = (k : Int) := by
          have h1 := HE.out
          unfold ia
          rw [if_pos (by omega)]
          omega
        have hge : decide ((0 : Int) ≤ m) = true := by simpa using hm
        have HIA := Lib.hid hia
        clear he hia
        go_wp2_with (go_at_call 46; refine HC.out.mono ?_; rintro e w3 ⟨rfl, hb3⟩)
        go_ret
        rw [HIA.out]
        exact ⟨rfl, hbel2.trans (hb3.mono hbel2.size)⟩
    · have hia : ia l = -1 := by
        have h1 := HE.out
        unfold ia
        rw [if_neg (by rw [List.drop_eq_nil_of_le (by omega)] at h1; simp [eol] at h1; omega)]
      have hnx : ∀ ty, (Instr.next (.pointer (some ⟨w.heap.size, 0, none⟩)) true ty).run Tryd.prog wr = _ := fun ty => Lib.run_next_end_at (P := Tryd.prog) wr w.heap.size (str l) k ty HI.out (by rw [str_size]; exact hlt)
      have HIA := Lib.hid hia
      clear hia
      go_wp2
      go_ret
      rw [HIA.out]
      exact ⟨rfl, hbel⟩

theorem IndexAny_nl (l : List UInt8) (w : World) (hl : l.length ≤ 1073741824) :
    Calls Tryd.prog 33 #[.string (str l), .string (ByteArray.mk #[10, 13])] w fun e w' => e = .returned (.int .i64 (ia l)) ∧ Below w.heap.size w w' := by
  by_cases h : l.length ≤ 8
  · exact IndexAny_short l w h
  · have := IndexAny_long (str l) (str [10, 13]) w (by decide) (by rw [str_size]; omega) (by rw [str_size]; omega) (by decide) (fun j b hb => by
      have hm : b ∈ ([10, 13] : List UInt8) := List.mem_of_getElem? hb
      simp at hm
      rcases hm with rfl | rfl <;> decide)
    rw [str_data, str_data, indexAny_ia] at this
    exact this
end Go.Proofs.YtjlecollphgmcaaDoor
