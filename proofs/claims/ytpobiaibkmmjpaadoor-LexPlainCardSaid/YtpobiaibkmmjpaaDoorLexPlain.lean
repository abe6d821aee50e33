/-
  The walk of the statement LexPlain: a name of plain bytes is written as it is.
-/
import Derived.Test.YtpobiaibkmmjpaaDoorLexAwake
namespace Go.Proofs.YtpobiaibkmmjpaaDoor
open Go.RowKit

def plB (l : List UInt8) : Bool := l.all fun b => !need b
theorem plB_take {l : List UInt8} {k : Nat} {x : UInt8} (h : k < l.length) (hx : x = l[k]?.getD 0) : plB (l.take (k + 1)) = (plB (l.take k) && !need x) := by rw [take_at h hx]; simp [plB]
theorem plB_wr (l : List UInt8) : (wrL l == l) = plB l := by
  cases hp : plB l with
  | true =>
    have h : ∀ b ∈ l, need b = false := fun b hb => by have := List.all_eq_true.1 hp b hb; simpa using this
    rw [wrL_plain h]; simp
  | false =>
    obtain ⟨b, hb, hn⟩ := List.all_eq_false.1 hp
    have := wrL_not hb (by simpa using hn)
    rw [beq_eq_false_iff_ne]
    intro e
    rw [e] at this
    omega
theorem plB_name {l : List UInt8} (h : plB l = true) : nameL l = l := name_plain fun b hb => by have := List.all_eq_true.1 h b hb; simpa using this

set_option maxHeartbeats 1000000 in
theorem lexPlain_long (l : List UInt8) (w : World) (ht : Tab w) (hm : l.length ≤ maxLen) (h : 300 < l.length) :
    Calls Tryd.prog 9 #[.string (str l)] w fun e w' => e = .returned (.bool true) ∧ Below w.heap.size w w' := by
  unfold maxLen at hm
  have d1 : decide ((300 : Int) < (l.length : Int)) = true := by simp; omega
  go_enter Tryd.func9, Tryd.ntmps9
  go_wp2_with fail
  refine (awake_any _ ht).mono ?_
  rintro e w1 ⟨rfl, hb1⟩
  go_wp2
  go_ret
  exact ⟨rfl, hb1⟩

theorem need_cases (x : UInt8) : (decide ((32 : Int) < (x.toNat : Int)) = false ∧ need x = true) ∨ (decide ((32 : Int) < (x.toNat : Int)) = true ∧ decide ((x.toNat : Int) < 127) = false ∧ need x = true) ∨
    (decide ((32 : Int) < (x.toNat : Int)) = true ∧ decide ((x.toNat : Int) < 127) = true ∧ ((x.toNat : Int) != 35) = false ∧ need x = true) ∨
    (decide ((32 : Int) < (x.toNat : Int)) = true ∧ decide ((x.toNat : Int) < 127) = true ∧ ((x.toNat : Int) != 35) = true ∧ need x = !(cb x == 0)) := by
  by_cases h1 : 32 < x.toNat
  · by_cases h2 : x.toNat < 127
    · have e : ((x.toNat : Int) != 35) = !(x == 35) := by unfold bne; rw [eq35]
      rw [e]
      cases h3 : x == 35 with
      | true => exact .inr (.inr (.inl ⟨by simp; omega, by simp; omega, rfl, by simp [need, h3]⟩))
      | false => exact .inr (.inr (.inr ⟨by simp; omega, by simp; omega, rfl, by
          have q1 : decide (x.toNat < 33) = false := by simp; omega
          have q2 : decide (126 < x.toNat) = false := by simp; omega
          unfold need; rw [h3, q1, q2]; rfl⟩))
    · exact .inr (.inl ⟨by simp; omega, by simp; omega, by simp [need]; omega⟩)
  · exact .inl ⟨by simp; omega, by simp [need]; omega⟩

set_option maxHeartbeats 2000000 in
theorem lexPlain_short (l : List UInt8) (w : World) (ht : Tab w) (h : l.length ≤ 300) :
    Calls Tryd.prog 9 #[.string (str l)] w fun e w' => e = .returned (.bool true) ∧ Below w.heap.size w w' := by
  have d1 : decide ((300 : Int) < (l.length : Int)) = false := by simp; omega
  have k1 : ∀ w, Tab w → Calls Tryd.prog 21 #[.string (str l)] w fun e w' => e = .returned (.string (str (wrL l))) ∧ Below w.heap.size w w' := fun w ht => Write_any l w ht (by omega)
  have k2 : ∀ w, Tab w → Calls Tryd.prog 19 #[.string (str l)] w fun e w' => e = .returned (.string (str (nameL l))) ∧ Below w.heap.size w w' := fun w ht => Name_any l w ht (by omega)
  have hnl := nameL_length l
  have k3 : ∀ w, Tab w → Calls Tryd.prog 19 #[.string (str (nameL l))] w fun e w' => e = .returned (.string (str (nameL (nameL l)))) ∧ Below w.heap.size w w' := fun w ht => Name_any (nameL l) w ht (by omega)
  have hnn := nameL_length (nameL l)
  have p1 := plB_wr l
  have p2 : plB l = true → nameL l = l := plB_name
  generalize nameL (nameL l) = m at *
  generalize nameL l = n at *
  generalize wrL l = r at *
  have s1 : decide ((n.length : Int) ≤ (l.length : Int)) = true := by simp; omega
  have s2 : decide ((m.length : Int) ≤ (n.length : Int)) = true := by simp; omega
  have K1 := Lib.hid k1
  have K2 := Lib.hid k2
  have K3 := Lib.hid k3
  have P1 := Lib.hid p1
  have P2 := Lib.hid p2
  clear k1 k2 k3 p1 p2
  go_enter Tryd.func9, Tryd.ntmps9
  go_wp2_with fail
  refine (awake_any _ ht).mono ?_
  rintro e w1 ⟨rfl, hb1⟩
  have ht1 := ht.below' hb1
  go_wp2_with fail
  go_loop [4, 5] (fun b i => ∃ (k : Nat) (q : Bool), k ≤ l.length ∧ i = .int .i64 k ∧ b = .bool q ∧ Hid (q = plB (l.take k))) (fun _ i => l.length - (intOf i).toNat)
  case atStart => exact ⟨0, true, Nat.zero_le _, rfl, rfl, Lib.hid (by simp [plB])⟩
  case round =>
    obtain ⟨k, q, hk, rfl, rfl, HQ⟩ := hrel
    by_cases hlt : k < l.length
    · obtain ⟨x, hx⟩ : ∃ x, x = l[k]?.getD 0 := ⟨_, rfl⟩
      have hgs : ∀ h, (str l)[k]'h = x := fun h => (get_str l k h).trans hx.symm
      have hx1 := x.toNat_lt
      have hpt := plB_take hlt hx
      rw [← HQ.out] at hpt
      have HP := Lib.hid hpt
      have hC : ∀ w, Tab w → Calls Tryd.prog 15 #[.int .i64 (x.toNat : Int)] w fun e w' => e = .returned (.int .i64 (cb x)) ∧ w = w' := fun w ht => Class_any _ w ht
      have HC := Lib.hid hC
      have hnc := need_cases x
      clear hx hpt hC
      cases q with
      | false =>
        clear hnc
        go_wp2
        go_round
        case rel => exact ⟨k + 1, false, by omega, by go_num, rfl, Lib.hid (by rw [HP.out]; rfl)⟩
        case measure => simp [intOf]; omega
      | true =>
        rcases hnc with ⟨t1, hn⟩ | ⟨t1, t2, hn⟩ | ⟨t1, t2, t3, hn⟩ | ⟨t1, t2, t3, hn⟩
        · have HN := Lib.hid hn
          clear hn
          go_wp2
          go_round
          case rel => exact ⟨k + 1, false, by omega, by go_num, rfl, Lib.hid (by rw [HP.out, HN.out]; rfl)⟩
          case measure => simp [intOf]; omega
        · have HN := Lib.hid hn
          clear hn
          go_wp2
          go_round
          case rel => exact ⟨k + 1, false, by omega, by go_num, rfl, Lib.hid (by rw [HP.out, HN.out]; rfl)⟩
          case measure => simp [intOf]; omega
        · have HN := Lib.hid hn
          clear hn
          go_wp2
          go_round
          case rel => exact ⟨k + 1, false, by omega, by go_num, rfl, Lib.hid (by rw [HP.out, HN.out]; rfl)⟩
          case measure => simp [intOf]; omega
        · generalize cb x = cx at *
          have HN := Lib.hid hn
          clear hn
          go_wp2_with (go_at_call 15; refine (HC.out _ ht1).mono ?_; rintro e w' ⟨rfl, rfl⟩)
          go_round
          case rel => exact ⟨k + 1, cx == 0, by omega, by go_num, rfl, Lib.hid (by rw [HP.out, HN.out]; simp)⟩
          case measure => simp [intOf]; omega
    · have hq : q = plB l := by have := HQ.out; rwa [List.take_of_length_le (by omega)] at this
      have p1 : (r == l) = q := by rw [P1.out, hq]
      have p2 : q = true → n = l := fun h => P2.out (by rw [← hq]; exact h)
      have P3 := Lib.hid p2
      clear hq p2
      cases q with
      | true =>
        obtain rfl : n = l := P3.out rfl
        go_wp2_with fail
        refine (K2.out _ ht1).mono ?_
        rintro e w2 ⟨rfl, hb2⟩
        have ht2 := ht1.below' hb2
        have hb2' := hb1.trans (hb2.mono hb1.size)
        go_wp2_with fail
        refine (K1.out _ ht2).mono ?_
        rintro e w3 ⟨rfl, hb3⟩
        have ht3 := ht2.below' hb3
        have hb3' := hb2'.trans (hb3.mono hb2'.size)
        go_wp2_with fail
        refine (K3.out _ ht3).mono ?_
        rintro e w4 ⟨rfl, hb4⟩
        have hb4' := hb3'.trans (hb4.mono hb3'.size)
        go_wp2
        go_ret
        exact ⟨rfl, hb4'⟩
      | false =>
        go_wp2_with fail
        refine (K2.out _ ht1).mono ?_
        rintro e w2 ⟨rfl, hb2⟩
        have ht2 := ht1.below' hb2
        have hb2' := hb1.trans (hb2.mono hb1.size)
        go_wp2_with fail
        refine (K1.out _ ht2).mono ?_
        rintro e w3 ⟨rfl, hb3⟩
        have ht3 := ht2.below' hb3
        have hb3' := hb2'.trans (hb3.mono hb2'.size)
        go_wp2_with fail
        refine (K3.out _ ht3).mono ?_
        rintro e w4 ⟨rfl, hb4⟩
        have hb4' := hb3'.trans (hb4.mono hb3'.size)
        go_wp2
        go_ret
        exact ⟨rfl, hb4'⟩

theorem lexPlain_walk (l : List UInt8) (w : World) (ht : Tab w) (hm : l.length ≤ maxLen) :
    Calls Tryd.prog 9 #[.string (str l)] w fun e w' => e = .returned (.bool true) ∧ Below w.heap.size w w' := by
  by_cases h : 300 < l.length
  · exact lexPlain_long l w ht hm h
  · exact lexPlain_short l w ht (by omega)
end Go.Proofs.YtpobiaibkmmjpaaDoor
