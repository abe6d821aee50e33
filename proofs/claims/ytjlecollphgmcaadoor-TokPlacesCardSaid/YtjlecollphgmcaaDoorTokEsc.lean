/-
  tok.octal and tok.escaped: what a backslash tells.
-/
import Derived.Test.YtjlecollphgmcaaDoorTokMark
import Derived.Test.YtjlecollphgmcaaDoorTokStr
import Derived.Test.YtjlecollphgmcaaDoorLexRune
import Derived.Test.YtjlecollphgmcaaDoorBits
import Derived.Test.YtjlecollphgmcaaDoorConv
namespace Go.Proofs.YtjlecollphgmcaaDoor
open Go.RowKit

theorem or_oct (v x : Nat) (hv : v < 4096) (hx : x < 8) : bits .or .i64 ((v : Int) * 8) (x : Int) = (v : Int) * 8 + x := by
  have h1 := i64_or_nat (v * 8) x (by omega) (by omega)
  have h2 : (v * 8) ||| x = v * 8 + x := by
    have := Nat.two_pow_add_eq_or_of_lt (i := 3) (b := x) (by omega) v
    rw [show 2 ^ 3 = 8 from rfl, Nat.mul_comm] at this
    exact this.symm
  rw [h2] at h1
  simpa using h1
theorem octF_snoc (l : List UInt8) (b : UInt8) : octF 0 (l ++ [b]) = octF 0 l * 8 + (b.toNat - 48) := by simp [octF]
theorem octF_take {d : List UInt8} {k : Nat} {x : UInt8} (h : k < d.length) (hx : x = d[k]?.getD 0) : octF 0 (d.take (k + 1)) = octF 0 (d.take k) * 8 + (x.toNat - 48) := by rw [take_at h hx, octF_snoc]
/-- From a place on there are as many digits more. -/
theorem on_drop : ∀ (m : Nat) (d : List UInt8) (k : Nat), k < d.length → k < m → (∀ j, j < k → od (d[j]?.getD 0) = true) → (od (d[k]?.getD 0) = false → on m d = k) ∧ (od (d[k]?.getD 0) = true → k + 1 ≤ on m d)
  | 0, d, k, _, h, _ => by omega
  | m + 1, [], k, h, _, _ => by simp at h
  | m + 1, b :: t, 0, _, _, _ => by
    constructor
    · intro h; simp at h; simp [on, h]
    · intro h; simp at h; simp [on, h]
  | m + 1, b :: t, k + 1, h, hm, ha => by
    have hb : od b = true := by simpa using ha 0 (by omega)
    obtain ⟨h1, h2⟩ := on_drop m t k (by simpa using h) (by omega) (fun j hj => by simpa using ha (j + 1) (by omega))
    constructor
    · intro h; simp at h h1; simp [on, hb, h1 h]
    · intro h; simp at h h2; have := h2 h; simp [on, hb]; omega
theorem on_all : ∀ (m : Nat) (d : List UInt8) (k : Nat), k ≤ d.length → k ≤ m → (∀ j, j < k → od (d[j]?.getD 0) = true) → (k = d.length ∨ k = m) → on m d = k
  | 0, d, k, _, h, _, _ => by simp [on]; omega
  | m + 1, [], k, h, _, _, _ => by simp at h; simp [on, h]
  | m + 1, b :: t, 0, _, _, _, h => by simp at h
  | m + 1, b :: t, k + 1, h, hm, ha, he => by
    have hb : od b = true := by simpa using ha 0 (by omega)
    have := on_all m t k (by simpa using h) (by omega) (fun j hj => by simpa using ha (j + 1) (by omega)) (by simp at he; omega)
    simp [on, hb, this]

set_option maxRecDepth 100000 in
set_option maxHeartbeats 2000000 in
theorem octal_any (d : List UInt8) (w : World) (hl : d.length ≤ 1073741824) :
    Calls Tryd.prog 53 #[.string (str d)] w fun e w' => e = .returned (.tuple #[.int .u8 ((octB d).toNat : Int), .int .i64 (octN d : Nat)]) ∧ w = w' := by
  go_enter Tryd.func53, Tryd.ntmps53
  go_wp2
  go_loop [4, 5] (fun v i => ∃ (k V : Nat), k ≤ d.length ∧ k ≤ 3 ∧ V < 8 ^ k ∧ v = .int .i64 V ∧ i = .int .i64 k ∧ Hid (V = octF 0 (d.take k)) ∧ Hid (∀ j, j < k → od (d[j]?.getD 0) = true)) (fun _ i => 8 - (intOf i).toNat)
  case atStart => exact ⟨0, 0, Nat.zero_le _, by omega, by decide, rfl, rfl, Lib.hid (by simp [octF]), fun j hj => by omega⟩
  case round =>
    obtain ⟨k, V, hk, hk3, hV, rfl, rfl, HV, HA⟩ := hrel
    have hV' : V < 512 := Nat.lt_of_lt_of_le hV (by rcases (show k = 0 ∨ k = 1 ∨ k = 2 ∨ k = 3 by omega) with rfl | rfl | rfl | rfl <;> decide)
    by_cases hend : k = d.length ∨ k = 3
    · have hN : octN d = k := on_all 3 d k hk hk3 HA.out hend
      have hB : ((octB d).toNat : Int) = (V : Int) % 256 := by
        unfold octB; rw [hN, ← HV.out]; simp
      have HN := Lib.hid hN
      have HB := Lib.hid hB
      clear hN hB
      by_cases hkl : k = d.length
      · have t1 : decide (k < d.length) = false := by simp; omega
        have t1' : decide ((k : Int) < (d.length : Int)) = false := by simp; omega
        clear hkl hend
        go_wp2
        go_ret2
        rw [HN.out, HB.out]
        exact ⟨rfl, rfl⟩
      · obtain rfl : k = 3 := by omega
        have t1 : decide (3 < d.length) = true := by simp; omega
        have t1' : decide ((3 : Int) < (d.length : Int)) = true := by simp; omega
        go_wp2
        go_ret2
        rw [HN.out, HB.out]
        exact ⟨rfl, rfl⟩
    · have hlt : k < d.length := by omega
      have hlt3 : k < 3 := by omega
      have t1 : decide (k < d.length) = true := by simp; omega
      have t1' : decide ((k : Int) < (d.length : Int)) = true := by simp; omega
      have t2 : decide (k < 3) = true := by simp; omega
      have t2' : decide ((k : Int) < 3) = true := by simp; omega
      obtain ⟨x, hx⟩ : ∃ x, x = d[k]?.getD 0 := ⟨_, rfl⟩
      have hgs : ∀ h, (str d)[k]'h = x := fun h => (get_str d k h).trans hx.symm
      have hx1 := x.toNat_lt
      obtain ⟨hno, hyes⟩ := on_drop 3 d k hlt hlt3 HA.out
      rw [← hx] at hno hyes
      cases ho : od x with
      | false =>
        have hN : octN d = k := hno ho
        have hB : ((octB d).toNat : Int) = (V : Int) % 256 := by
          unfold octB; rw [hN, ← HV.out]; simp
        have HN := Lib.hid hN
        have HB := Lib.hid hB
        clear hN hB
        have hc : decide ((48 : Int) ≤ (x.toNat : Int)) = false ∨ (decide ((48 : Int) ≤ (x.toNat : Int)) = true ∧ decide ((x.toNat : Int) ≤ 55) = false) := by
          simp only [od, Bool.and_eq_false_iff, decide_eq_false_iff_not] at ho
          simp; omega
        clear hno hyes hx ho
        rcases hc with t3 | ⟨t3, t4⟩
        · go_wp2
          go_ret2
          rw [HN.out, HB.out]
          exact ⟨rfl, rfl⟩
        · go_wp2
          go_ret2
          rw [HN.out, HB.out]
          exact ⟨rfl, rfl⟩
      | true =>
        have hc : 48 ≤ x.toNat ∧ x.toNat ≤ 55 := by simpa [od] using ho
        have t3 : decide ((48 : Int) ≤ (x.toNat : Int)) = true := by simp; omega
        have t4 : decide ((x.toNat : Int) ≤ 55) = true := by simp; omega
        have hor := or_oct V (x.toNat - 48) (by omega) (by omega)
        have hc' : ((x.toNat - 48 : Nat) : Int) = (x.toNat : Int) - 48 := by omega
        rw [hc'] at hor
        have hcast : ((V * 8 + (x.toNat - 48) : Nat) : Int) = (V : Int) * 8 + ((x.toNat : Int) - 48) := by omega
        have HX := Lib.hid hx
        have HV2 := Lib.hid ((octF_take hlt hx).symm)
        clear hno hyes hx
        go_wp2
        go_round
        case rel =>
          refine ⟨k + 1, V * 8 + (x.toNat - 48), by omega, by omega, by rw [Nat.pow_succ]; omega, by rw [hcast], by go_num, Lib.hid (by rw [← HV2.out, ← HV.out]), fun j hj => ?_⟩
          by_cases e : j = k
          · rw [e, ← HX.out]; exact ho
          · exact HA.out j (by omega)
        case measure => simp [intOf]; omega

def lets : List UInt8 := [110, 114, 116, 98, 102]
def meant : List UInt8 := [10, 13, 9, 8, 12]
theorem idx_lets (b : UInt8) : (Lib.indexByte lets b = -1 ∧ esc1 b = b) ∨ ∃ i : Nat, i < 5 ∧ Lib.indexByte lets b = (i : Int) ∧ [esc1 b] = (meant.drop i).take 1 := by
  by_cases h1 : b = 110
  · subst h1; right; exact ⟨0, by omega, rfl, rfl⟩
  · by_cases h2 : b = 114
    · subst h2; right; exact ⟨1, by omega, rfl, rfl⟩
    · by_cases h3 : b = 116
      · subst h3; right; exact ⟨2, by omega, rfl, rfl⟩
      · by_cases h4 : b = 98
        · subst h4; right; exact ⟨3, by omega, rfl, rfl⟩
        · by_cases h5 : b = 102
          · subst h5; right; exact ⟨4, by omega, rfl, rfl⟩
          · left
            refine ⟨?_, by simp [esc1, h1, h2, h3, h4, h5]⟩
            have e1 : (110 == b) = false := by rw [beq_eq_false_iff_ne]; exact fun h => h1 h.symm
            have e2 : (114 == b) = false := by rw [beq_eq_false_iff_ne]; exact fun h => h2 h.symm
            have e3 : (116 == b) = false := by rw [beq_eq_false_iff_ne]; exact fun h => h3 h.symm
            have e4 : (98 == b) = false := by rw [beq_eq_false_iff_ne]; exact fun h => h4 h.symm
            have e5 : (102 == b) = false := by rw [beq_eq_false_iff_ne]; exact fun h => h5 h.symm
            simp [lets, Lib.indexByte, e1, e2, e3, e4, e5]

set_option maxRecDepth 100000 in
set_option maxHeartbeats 2000000 in
theorem escaped_tok (d : List UInt8) (w : World) (hl : d.length ≤ 1073741824) :
    Calls Tryd.prog 38 #[.string (str d)] w fun e w' => e = .returned (.tuple #[.string (str (esB d)), .int .i64 (esN d : Nat)]) ∧ Below w.heap.size w w' := by
  cases d with
  | nil =>
    have e1 : esB [] = [] := rfl
    have e2 : esN [] = 0 := rfl
    rw [e1, e2]
    go_enter Tryd.func38, Tryd.ntmps38
    go_wp2
    go_ret2
    exact ⟨rfl, Below.refl _ _⟩
  | cons b t =>
    obtain ⟨x, hx⟩ : ∃ x, x = b :: t := ⟨_, rfl⟩
    have hL : ∀ w, Calls Tryd.prog 39 #[.string (str x)] w fun e w' => e = .returned (.int .i64 (len x : Nat)) ∧ w = w' := fun w => lineEnd_any x w
    have hO : ∀ w, Calls Tryd.prog 53 #[.string (str x)] w fun e w' => e = .returned (.tuple #[.int .u8 ((octB x).toNat : Int), .int .i64 (octN x : Nat)]) ∧ w = w' := fun w => octal_any x w (by rw [hx]; exact hl)
    have hI : ∀ w, Calls Tryd.prog 54 #[.string (ByteArray.mk #[110, 114, 116, 98, 102]), .int .u8 (b.toNat : Int)] w fun e w' => e = .returned (.int .i64 (Lib.indexByte lets b)) ∧ w' = w := fun w => by
      have := IndexByte_any (ByteArray.mk #[110, 114, 116, 98, 102]) (b.toNat : Int) w
      have e : (b.toNat : Int).toNat.toUInt8 = b := by simp
      rw [e] at this
      exact this
    have HL := Lib.hid hL
    have HO := Lib.hid hO
    have HI := Lib.hid hI
    have hg : ∀ h, (str x)[0]'h = b := fun h => (get_str x 0 h).trans (by rw [hx]; rfl)
    have hne : (x == []) = false := by rw [hx]; rfl
    have hne' : x.isEmpty = false := by rw [hx]; rfl
    have hpos : 0 < x.length := by rw [hx]; simp
    have hb1 := b.toNat_lt
    have hs1 : ∀ wx, (Instr.slice 9 (.string (str x)) none (some (.int .i64 1)) none).run Tryd.prog wx = .ok (.string (str [b])) wx := fun wx => by
      rw [run_slice_string_to_if wx 9 (str x) .i64 1 Tryd.underlying9]
      simp [str_size, str_extract, hx]
      intro h
      omega
    rw [← hx]
    have hB : esB x = if len x = 0 then (if octN x = 0 then [esc1 b] else [octB x]) else [] := by rw [hx]; rfl
    have hN : esN x = if len x = 0 then (if octN x = 0 then 1 else octN x) else len x := by rw [hx]; rfl
    have hidx := idx_lets b
    generalize Lib.indexByte lets b = ix at *
    generalize octB x = ob at *
    generalize octN x = on' at *
    generalize len x = le at *
    clear hL hO hI hx
    by_cases h0 : le = 0
    · subst h0
      rw [if_pos rfl] at hB hN
      by_cases h1 : on' = 0
      · subst h1
        rw [if_pos rfl] at hB hN
        rw [hN]
        rcases hidx with ⟨rfl, e⟩ | ⟨i, hi, rfl, e⟩
        · rw [hB, e]
          clear hB hN e
          go_enter Tryd.func38, Tryd.ntmps38
          go_wp2_with (first | (go_at_call 39; refine (HL.out _).mono ?_; rintro e w' ⟨rfl, rfl⟩) | (go_at_call 53; refine (HO.out _).mono ?_; rintro e w' ⟨rfl, rfl⟩) | (go_at_call 54; refine (HI.out _).mono ?_; rintro e w' ⟨rfl, rfl⟩))
          go_ret2
          exact ⟨rfl, Below.refl _ _⟩
        · rw [hB, e]
          have hs2 : ∀ wx, (Instr.slice 9 (.string (ByteArray.mk #[10, 13, 9, 8, 12])) (some (.int .i64 (i : Int))) (some (.int .i64 ((i : Int) + 1))) none).run Tryd.prog wx = .ok (.string (str ((meant.drop i).take 1))) wx := fun wx => by
            have := run_mid (P := Tryd.prog) meant i (i + 1) (by omega) (by show i + 1 ≤ 5; omega) 9 Tryd.underlying9 wx
            rw [Nat.add_sub_cancel_left] at this
            exact this
          clear hB hN e
          generalize (meant.drop i).take 1 = mm at *
          go_enter Tryd.func38, Tryd.ntmps38
          go_wp2_with (first | (go_at_call 39; refine (HL.out _).mono ?_; rintro e w' ⟨rfl, rfl⟩) | (go_at_call 53; refine (HO.out _).mono ?_; rintro e w' ⟨rfl, rfl⟩) | (go_at_call 54; refine (HI.out _).mono ?_; rintro e w' ⟨rfl, rfl⟩))
          go_ret2
          exact ⟨rfl, Below.refl _ _⟩
      · rw [if_neg h1] at hB hN
        rw [hN, hB]
        have t1 : decide (0 < on') = true := by simp; omega
        have t1' : decide ((0 : Int) < (on' : Int)) = true := by simp; omega
        have hcv : (convert 35 9 (.slice (some ⟨w.heap.size, 0, none⟩) 1 1)).run Tryd.prog (w.alloc (.cells #[.int .u8 (ob.toNat : Int)] 5)) = .ok (.string (str [ob])) (w.alloc (.cells #[.int .u8 (ob.toNat : Int)] 5)) := conv8 (Sl.one w ob 5) 1
        have hb4 : Below w.heap.size w (w.alloc (.cells #[.int .u8 (ob.toNat : Int)] 5)) := (Below.refl _ _).alloc (Nat.le_refl _) _
        clear hB hN h1 hidx
        go_enter Tryd.func38, Tryd.ntmps38
        go_wp2_with (first | (go_at_call 39; refine (HL.out _).mono ?_; rintro e w' ⟨rfl, rfl⟩) | (go_at_call 53; refine (HO.out _).mono ?_; rintro e w' ⟨rfl, rfl⟩))
        go_ret2
        exact ⟨rfl, hb4⟩
    · rw [if_neg h0] at hB hN
      rw [hN, hB]
      have t1 : decide (0 < le) = true := by simp; omega
      have t1' : decide ((0 : Int) < (le : Int)) = true := by simp; omega
      clear hB hN h0 hidx
      go_enter Tryd.func38, Tryd.ntmps38
      go_wp2_with (first | (go_at_call 39; refine (HL.out _).mono ?_; rintro e w' ⟨rfl, rfl⟩))
      go_ret2
      exact ⟨rfl, Below.refl _ _⟩
end Go.Proofs.YtjlecollphgmcaaDoor
