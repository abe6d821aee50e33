/-
  The walk of the statement UtfWhole.
-/
import Derived.Test.YtclehobammhjmaaUtfAwake
import Derived.Test.YtclehobammhjmaaUtfWholeFn
namespace Go.Proofs.Ytclehobammhjmaa
open Go.RowKit

theorem good_at {l : List Int} {k : Nat} {x : Int} (h : ∀ v ∈ l, goodB v = true) (hk : k < l.length) (hx : x = l[k]?.getD 0) : goodB x = true := by
  rw [hx, List.getElem?_eq_getElem hk]
  exact h _ (List.getElem_mem _)

set_option maxHeartbeats 1000000 in
theorem uwhole_long (A : Option Addr) (c : Nat) (l : List Int) (s : List UInt8) (w : World) (hm : l.length ≤ maxLen) (hm' : s.length ≤ maxLen) (h : 300 < l.length ∨ 600 < s.length) :
    Calls Try.prog 5 #[.slice A l.length c, .string (str s)] w fun e w' => e = .returned (.bool true) ∧ Below w.heap.size w w' := by
  unfold maxLen at hm hm'
  by_cases h1 : 300 < l.length
  · have d1 : decide ((300 : Int) < (l.length : Int)) = true := by simp; omega
    go_enter Try.func5, Try.ntmps5
    go_wp2_with fail
    refine (awake_any _).mono ?_
    rintro e w1 ⟨rfl, hb1⟩
    go_wp2
    go_ret
    exact ⟨rfl, hb1⟩
  · have d1 : decide ((300 : Int) < (l.length : Int)) = false := by simp; omega
    have d2 : decide ((600 : Int) < (s.length : Int)) = true := by simp; omega
    go_enter Try.func5, Try.ntmps5
    go_wp2_with fail
    refine (awake_any _).mono ?_
    rintro e w1 ⟨rfl, hb1⟩
    go_wp2
    go_ret
    exact ⟨rfl, hb1⟩

set_option maxRecDepth 100000 in
set_option maxHeartbeats 4000000 in
theorem uwhole_short (A : Option Addr) (c : Nat) (l : List Int) (s : List UInt8) (w : World) (hA : Si w w.heap.size A l) (h1 : l.length ≤ 300) (h2 : s.length ≤ 600) :
    Calls Try.prog 5 #[.slice A l.length c, .string (str s)] w fun e w' => e = .returned (.bool true) ∧ Below w.heap.size w w' := by
  have d1 : decide ((300 : Int) < (l.length : Int)) = false := by simp; omega
  have d2 : decide ((600 : Int) < (s.length : Int)) = false := by simp; omega
  have hR : ∀ w, Calls Try.prog 23 #[.string (str s)] w (RetSi w (runes s)) := fun w => Runes_any s w (by omega)
  have hD : ∀ w, Si w w.heap.size A l → Calls Try.prog 17 #[.slice A l.length c] w (RetSi w (dec16 l)) := fun w hs => Dec16_any A c l w hs (by omega)
  have hTl : ∀ w, Si w w.heap.size A l → Calls Try.prog 21 #[.slice A l.length c] w fun e w' => e = .returned (.string (str (textL l))) ∧ Below w.heap.size w w' := fun w hs => Text_any A c l w hs (by omega)
  have hrl := runes_length s
  have hdl := dec16_length l
  have hTr : ∀ A c w, Si w w.heap.size A (runes s) → Calls Try.prog 21 #[.slice A (runes s).length c] w fun e w' => e = .returned (.string (str (textL (runes s)))) ∧ Below w.heap.size w w' := fun A c w hs => Text_any A c (runes s) w hs (by omega)
  have hWl : ∀ w, Calls Try.prog 25 #[.string (str (textL l))] w fun e w' => e = .returned (.bool true) ∧ Below w.heap.size w w' := fun w => by
    have := Whole_any (textL l) w
    rwa [whole_text] at this
  have hWr : ∀ w, Calls Try.prog 25 #[.string (str (textL (runes s)))] w fun e w' => e = .returned (.bool true) ∧ Below w.heap.size w w' := fun w => by
    have := Whole_any (textL (runes s)) w
    rwa [whole_text] at this
  have hWs : ∀ w, Calls Try.prog 25 #[.string (str s)] w fun e w' => e = .returned (.bool (textL (runes s) == s)) ∧ Below w.heap.size w w' := fun w => by
    rw [text_runes_iff]
    exact Whole_any s w
  have hrg := runes_good s
  have hdg := dec16_good l
  generalize textL (runes s) = tr at *
  generalize textL l = tl at *
  generalize runes s = r at *
  generalize dec16 l = d at *
  generalize hq : (tr == s) = q at *
  have HR := Lib.hid hR
  have HD := Lib.hid hD
  have HTl := Lib.hid hTl
  have HTr := Lib.hid hTr
  have HWl := Lib.hid hWl
  have HWr := Lib.hid hWr
  have HWs := Lib.hid hWs
  have HRG := Lib.hid hrg
  have HDG := Lib.hid hdg
  have l1 : decide ((r.length : Int) ≤ (s.length : Int)) = true := by simp; omega
  have l2 : decide ((d.length : Int) ≤ (l.length : Int)) = true := by simp; omega
  clear hR hD hTl hTr hWl hWr hWs hrg hdg
  go_enter Try.func5, Try.ntmps5
  go_wp2_with fail
  refine (awake_any _).mono ?_
  rintro e w1 ⟨rfl, hb1⟩
  go_wp2_with fail
  refine (HR.out _).mono ?_
  rintro e w2 ⟨A2, c2, rfl, hc2, hs2, hb2⟩
  have hb2' := hb1.trans (hb2.mono hb1.size)
  go_wp2_with fail
  refine (HD.out _ (hA.below hb2' |>.more hb2'.size)).mono ?_
  rintro e w3 ⟨A3, c3, rfl, hc3, hs3, hb3⟩
  have hb3' := hb2'.trans (hb3.mono hb2'.size)
  have hs23 := hs2.over hb3
  go_wp2
  go_loop [8] (fun i => ∃ k : Nat, k ≤ r.length ∧ i = .int .i64 k) (fun i => r.length - (intOf i).toNat)
  case atStart => exact ⟨0, Nat.zero_le _, rfl⟩
  case round =>
    obtain ⟨k, hk, rfl⟩ := hrel
    by_cases hlt : k < r.length
    · obtain ⟨b, o, rfl, hbl, hcc⟩ := hs23 (by omega)
      obtain ⟨x, hx⟩ : ∃ x, x = r[k]?.getD 0 := ⟨_, rfl⟩
      have hcell : w3.cell? ⟨b, o + k, none⟩ = some (.int .i64 x) := by rw [hx]; exact hcc k hlt
      have hg := good_at HRG.out hlt hx
      clear hcc hx
      go_wp2_with (go_at_call 10; refine (Good_any _ _).mono ?_; rintro e w' ⟨rfl, rfl⟩)
      go_round
      case rel => exact ⟨k + 1, by omega, by go_num⟩
      case measure => simp [intOf]; omega
    · go_wp2
      go_loop [9] (fun i => ∃ k : Nat, k ≤ d.length ∧ i = .int .i64 k) (fun i => d.length - (intOf i).toNat)
      case atStart => exact ⟨0, Nat.zero_le _, rfl⟩
      case round =>
        obtain ⟨j, hj, rfl⟩ := hrel
        by_cases hlt2 : j < d.length
        · obtain ⟨b, o, rfl, hbl, hcc⟩ := hs3 (by omega)
          obtain ⟨x, hx⟩ : ∃ x, x = d[j]?.getD 0 := ⟨_, rfl⟩
          have hcell : w3.cell? ⟨b, o + j, none⟩ = some (.int .i64 x) := by rw [hx]; exact hcc j hlt2
          have hg := good_at HDG.out hlt2 hx
          clear hcc hx
          go_wp2_with (go_at_call 10; refine (Good_any _ _).mono ?_; rintro e w' ⟨rfl, rfl⟩)
          go_round
          case rel => exact ⟨j + 1, by omega, by go_num⟩
          case measure => simp [intOf]; omega
        · go_wp2_with fail
          refine (HTr.out _ _ _ hs23).mono ?_
          rintro e w4 ⟨rfl, hb4⟩
          have hb4' := hb3'.trans (hb4.mono hb3'.size)
          go_wp2_with fail
          refine (HTl.out _ (hA.below hb4' |>.more hb4'.size)).mono ?_
          rintro e w5 ⟨rfl, hb5⟩
          have hb5' := hb4'.trans (hb5.mono hb4'.size)
          go_wp2_with fail
          refine (HWl.out _).mono ?_
          rintro e w6 ⟨rfl, hb6⟩
          have hb6' := hb5'.trans (hb6.mono hb5'.size)
          go_wp2_with fail
          refine (HWr.out _).mono ?_
          rintro e w7 ⟨rfl, hb7⟩
          have hb7' := hb6'.trans (hb7.mono hb6'.size)
          go_wp2_with fail
          refine (HWs.out _).mono ?_
          rintro e w8 ⟨rfl, hb8⟩
          have hb8' := hb7'.trans (hb8.mono hb7'.size)
          go_wp2
          go_ret
          exact ⟨rfl, hb8'⟩
theorem uwhole_walk (A : Option Addr) (c : Nat) (l : List Int) (s : List UInt8) (w : World) (hA : Si w w.heap.size A l) (hm : l.length ≤ maxLen) (hm' : s.length ≤ maxLen) :
    Calls Try.prog 5 #[.slice A l.length c, .string (str s)] w fun e w' => e = .returned (.bool true) ∧ Below w.heap.size w w' := by
  by_cases h : 300 < l.length ∨ 600 < s.length
  · exact uwhole_long A c l s w hm hm' h
  · exact uwhole_short A c l s w hA (by omega) (by omega)
end Go.Proofs.Ytclehobammhjmaa
