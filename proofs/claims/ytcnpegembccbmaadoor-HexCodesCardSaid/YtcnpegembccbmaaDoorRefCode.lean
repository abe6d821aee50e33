/-
  The document's own Sane, Bytes, Val and Text: the same answers as the program's.
-/
import Derived.Test.YtcnpegembccbmaaDoorHexText
import Derived.Test.YtcnpegembccbmaaDoorHexVal
import Derived.Test.YtcnpegembccbmaaDoorRefDigit
import Derived.Test.YtcnpegembccbmaaDoorRefHex
namespace Go.Proofs.YtcnpegembccbmaaDoor
open Go.RowKit

set_option maxHeartbeats 1000000 in
theorem rSane_any (n v : Int) (w : World) :
    Calls Tryd.prog 22 #[.agg #[.int .i64 n, .int .i64 v]] w fun e w' => e = .returned (.bool (saneB n v)) ∧ Below w.heap.size w w' := by
  by_cases h1 : 1 ≤ n
  · by_cases h2 : n ≤ 4
    · by_cases h3 : 0 ≤ v
      · rcases (show n = 1 ∨ n = 2 ∨ n = 3 ∨ n = 4 by omega) with rfl | rfl | rfl | rfl
        · have e : saneB 1 v = decide (v < 256) := by simp [saneB, h3]
          rw [e]
          clear e h1 h2
          go_enter Tryd.func22, Tryd.ntmps22
          go_wp2
          go_quiet ((go_at_call 28; exact Calls.quiet_of_same (rFull_1 _)))
          go_wp2
          go_ret
          exact ⟨rfl, below_drewN ((Below.refl _ _).alloc (Nat.le_refl _) _) _⟩
        · have e : saneB 2 v = decide (v < 65536) := by simp [saneB, h3]
          rw [e]
          clear e h1 h2
          go_enter Tryd.func22, Tryd.ntmps22
          go_wp2
          go_quiet ((go_at_call 28; exact Calls.quiet_of_same (rFull_2 _)))
          go_wp2
          go_ret
          exact ⟨rfl, below_drewN ((Below.refl _ _).alloc (Nat.le_refl _) _) _⟩
        · have e : saneB 3 v = decide (v < 16777216) := by simp [saneB, h3]
          rw [e]
          clear e h1 h2
          go_enter Tryd.func22, Tryd.ntmps22
          go_wp2
          go_quiet ((go_at_call 28; exact Calls.quiet_of_same (rFull_3 _)))
          go_wp2
          go_ret
          exact ⟨rfl, below_drewN ((Below.refl _ _).alloc (Nat.le_refl _) _) _⟩
        · have e : saneB 4 v = decide (v < 4294967296) := by simp [saneB, h3]
          rw [e]
          clear e h1 h2
          go_enter Tryd.func22, Tryd.ntmps22
          go_wp2
          go_quiet ((go_at_call 28; exact Calls.quiet_of_same (rFull_4 _)))
          go_wp2
          go_ret
          exact ⟨rfl, below_drewN ((Below.refl _ _).alloc (Nat.le_refl _) _) _⟩
      · have e : saneB n v = false := by simp [saneB]; omega
        rw [e]
        have d1 : decide (1 ≤ n) = true := by simpa using h1
        have d2 : decide (n ≤ 4) = true := by simpa using h2
        have d3 : decide (0 ≤ v) = false := by simpa using h3
        clear e
        go_enter Tryd.func22, Tryd.ntmps22
        go_wp2
        go_quiet (fail)
        go_wp2
        go_ret
        exact ⟨rfl, below_drewN ((Below.refl _ _).alloc (Nat.le_refl _) _) _⟩
    · have e : saneB n v = false := by simp [saneB]; omega
      rw [e]
      have d1 : decide (1 ≤ n) = true := by simpa using h1
      have d2 : decide (n ≤ 4) = false := by simpa using h2
      clear e
      go_enter Tryd.func22, Tryd.ntmps22
      go_wp2
      go_quiet (fail)
      go_wp2
      go_ret
      exact ⟨rfl, below_drewN ((Below.refl _ _).alloc (Nat.le_refl _) _) _⟩
  · have e : saneB n v = false := by simp [saneB]; omega
    rw [e]
    have d1 : decide (1 ≤ n) = false := by simpa using h1
    clear e
    go_enter Tryd.func22, Tryd.ntmps22
    go_wp2
    go_quiet (fail)
    go_wp2
    go_ret
    exact ⟨rfl, below_drewN ((Below.refl _ _).alloc (Nat.le_refl _) _) _⟩
set_option maxHeartbeats 1000000 in
theorem rBytes_1 (v : Int) (w : World) (h0 : 0 ≤ v) (h1 : v < 256) :
    Calls Tryd.prog 24 #[.agg #[.int .i64 1, .int .i64 v]] w (RetSl w (beL 1 v)) := by
  have hs : saneB 1 v = true := by rw [saneB_iff]; simp; omega
  have hmk : ∀ w, (Instr.makeSlice 22 (.int .i64 1) (.int .i64 1)).run Tryd.prog w = .ok (.slice (some ⟨w.heap.size, 0, none⟩) 1 1) (w.alloc (.cells #[.int .u8 0] 5)) := fun _ => by kernel_rfl
  go_enter Tryd.func24, Tryd.ntmps24
  go_wp2_with (go_at_call 22; refine (rSane_any _ _ _).mono ?_; rintro e w1 ⟨rfl, hb⟩; have hc0 : w1.cell? ⟨w.heap.size, 0, none⟩ = some (.int .i64 1) := (hb.cell (p := ⟨w.heap.size, 0, none⟩) (by simp)).trans (by simp); have hc1 : w1.cell? ⟨w.heap.size, 1, none⟩ = some (.int .i64 v) := (hb.cell (p := ⟨w.heap.size, 1, none⟩) (by simp)).trans (by simp); have hz : w.heap.size < w1.heap.size := (by have := hb.size; simp at this; omega))
  go_rounds 2
  go_ret
  refine ret_lit hb _ _ ?_ _ (beL_length _ _).symm
  simp only [bvs, beL, List.map_cons, List.map_nil, List.nil_append, low_byte]
set_option maxHeartbeats 1000000 in
theorem rBytes_2 (v : Int) (w : World) (h0 : 0 ≤ v) (h1 : v < 65536) :
    Calls Tryd.prog 24 #[.agg #[.int .i64 2, .int .i64 v]] w (RetSl w (beL 2 v)) := by
  have hs : saneB 2 v = true := by rw [saneB_iff]; simp; omega
  have hmk : ∀ w, (Instr.makeSlice 22 (.int .i64 2) (.int .i64 2)).run Tryd.prog w = .ok (.slice (some ⟨w.heap.size, 0, none⟩) 2 2) (w.alloc (.cells #[.int .u8 0, .int .u8 0] 5)) := fun _ => by kernel_rfl
  go_enter Tryd.func24, Tryd.ntmps24
  go_wp2_with (go_at_call 22; refine (rSane_any _ _ _).mono ?_; rintro e w1 ⟨rfl, hb⟩; have hc0 : w1.cell? ⟨w.heap.size, 0, none⟩ = some (.int .i64 2) := (hb.cell (p := ⟨w.heap.size, 0, none⟩) (by simp)).trans (by simp); have hc1 : w1.cell? ⟨w.heap.size, 1, none⟩ = some (.int .i64 v) := (hb.cell (p := ⟨w.heap.size, 1, none⟩) (by simp)).trans (by simp); have hz : w.heap.size < w1.heap.size := (by have := hb.size; simp at this; omega))
  go_rounds 3
  go_ret
  refine ret_lit hb _ _ ?_ _ (beL_length _ _).symm
  simp only [bvs, beL, List.map_cons, List.map_nil, List.nil_append, List.cons_append, low_byte]
set_option maxHeartbeats 1000000 in
theorem rBytes_3 (v : Int) (w : World) (h0 : 0 ≤ v) (h1 : v < 16777216) :
    Calls Tryd.prog 24 #[.agg #[.int .i64 3, .int .i64 v]] w (RetSl w (beL 3 v)) := by
  have hs : saneB 3 v = true := by rw [saneB_iff]; simp; omega
  have hmk : ∀ w, (Instr.makeSlice 22 (.int .i64 3) (.int .i64 3)).run Tryd.prog w = .ok (.slice (some ⟨w.heap.size, 0, none⟩) 3 3) (w.alloc (.cells #[.int .u8 0, .int .u8 0, .int .u8 0] 5)) := fun _ => by kernel_rfl
  go_enter Tryd.func24, Tryd.ntmps24
  go_wp2_with (go_at_call 22; refine (rSane_any _ _ _).mono ?_; rintro e w1 ⟨rfl, hb⟩; have hc0 : w1.cell? ⟨w.heap.size, 0, none⟩ = some (.int .i64 3) := (hb.cell (p := ⟨w.heap.size, 0, none⟩) (by simp)).trans (by simp); have hc1 : w1.cell? ⟨w.heap.size, 1, none⟩ = some (.int .i64 v) := (hb.cell (p := ⟨w.heap.size, 1, none⟩) (by simp)).trans (by simp); have hz : w.heap.size < w1.heap.size := (by have := hb.size; simp at this; omega))
  go_rounds 4
  go_ret
  refine ret_lit hb _ _ ?_ _ (beL_length _ _).symm
  simp only [bvs, beL, List.map_cons, List.map_nil, List.nil_append, List.cons_append, low_byte]
set_option maxHeartbeats 1000000 in
theorem rBytes_4 (v : Int) (w : World) (h0 : 0 ≤ v) (h1 : v < 4294967296) :
    Calls Tryd.prog 24 #[.agg #[.int .i64 4, .int .i64 v]] w (RetSl w (beL 4 v)) := by
  have hs : saneB 4 v = true := by rw [saneB_iff]; simp; omega
  have hmk : ∀ w, (Instr.makeSlice 22 (.int .i64 4) (.int .i64 4)).run Tryd.prog w = .ok (.slice (some ⟨w.heap.size, 0, none⟩) 4 4) (w.alloc (.cells #[.int .u8 0, .int .u8 0, .int .u8 0, .int .u8 0] 5)) := fun _ => by kernel_rfl
  go_enter Tryd.func24, Tryd.ntmps24
  go_wp2_with (go_at_call 22; refine (rSane_any _ _ _).mono ?_; rintro e w1 ⟨rfl, hb⟩; have hc0 : w1.cell? ⟨w.heap.size, 0, none⟩ = some (.int .i64 4) := (hb.cell (p := ⟨w.heap.size, 0, none⟩) (by simp)).trans (by simp); have hc1 : w1.cell? ⟨w.heap.size, 1, none⟩ = some (.int .i64 v) := (hb.cell (p := ⟨w.heap.size, 1, none⟩) (by simp)).trans (by simp); have hz : w.heap.size < w1.heap.size := (by have := hb.size; simp at this; omega))
  go_rounds 5
  go_ret
  refine ret_lit hb _ _ ?_ _ (beL_length _ _).symm
  simp only [bvs, beL, List.map_cons, List.map_nil, List.nil_append, List.cons_append, low_byte]

set_option maxHeartbeats 1000000 in
theorem rBytes_no (n v : Int) (w : World) (hs : saneB n v = false) :
    Calls Tryd.prog 24 #[.agg #[.int .i64 n, .int .i64 v]] w (RetSl w []) := by
  go_enter Tryd.func24, Tryd.ntmps24
  go_wp2_with (go_at_call 22; refine (rSane_any _ _ _).mono ?_; rintro e w1 ⟨rfl, hb⟩)
  go_ret
  exact ⟨none, 0, rfl, Nat.le_refl _, Sl.nil, ((Below.refl _ _).alloc (Nat.le_refl _) _).trans (hb.mono (by simp))⟩

theorem rBytes_any (n v : Int) (w : World) : Calls Tryd.prog 24 #[.agg #[.int .i64 n, .int .i64 v]] w (RetSl w (codeL n v)) := by
  by_cases hs : saneB n v = true
  · have e : codeL n v = beL n.toNat v := by simp [codeL, hs]
    rw [e]
    obtain ⟨h1, h2, h3, h4⟩ := (saneB_iff n v).1 hs
    rcases (show n = 1 ∨ n = 2 ∨ n = 3 ∨ n = 4 by omega) with rfl | rfl | rfl | rfl
    · exact rBytes_1 v w h3 (by simpa using h4)
    · exact rBytes_2 v w h3 (by simpa using h4)
    · exact rBytes_3 v w h3 (by simpa using h4)
    · exact rBytes_4 v w h3 (by simpa using h4)
  · have hs' : saneB n v = false := by simpa using hs
    have e : codeL n v = [] := by simp [codeL, hs']
    rw [e]
    exact rBytes_no n v w hs'

set_option maxHeartbeats 1000000 in
theorem rText_no (n v : Int) (w : World) (hs : saneB n v = false) :
    Calls Tryd.prog 26 #[.agg #[.int .i64 n, .int .i64 v]] w fun e w' => e = .returned (.string (str [])) ∧ Below w.heap.size w w' := by
  go_enter Tryd.func26, Tryd.ntmps26
  go_wp2_with (go_at_call 22; refine (rSane_any _ _ _).mono ?_; rintro e w1 ⟨rfl, hb⟩)
  go_ret
  exact ⟨rfl, ((Below.refl _ _).alloc (Nat.le_refl _) _).trans (hb.mono (by simp))⟩

set_option maxHeartbeats 1000000 in
theorem rText_yes (n v : Int) (w : World) (hs : saneB n v = true) :
    Calls Tryd.prog 26 #[.agg #[.int .i64 n, .int .i64 v]] w fun e w' => e = .returned (.string (str (60 :: (hexL (beL n.toNat v) ++ [62])))) ∧ Below w.heap.size w w' := by
  have hcl : codeL n v = beL n.toNat v := by simp [codeL, hs]
  have hn : n.toNat ≤ 4 := by have := (saneB_iff n v).1 hs; omega
  have HC := Lib.hid hcl
  clear hcl
  have hlen := beL_length n.toNat v
  have hxl := hexL_length (beL n.toNat v)
  have hle : (beL n.toNat v).length ≤ 4 := by omega
  have hhe : (hexL (beL n.toNat v)).length ≤ 8 := by omega
  have HL := Lib.hid hlen
  have HX := Lib.hid hxl
  clear hlen hxl
  go_enter Tryd.func26, Tryd.ntmps26
  go_wp2_with (go_at_call 22; refine (rSane_any _ _ _).mono ?_; rintro e w1 ⟨rfl, hb⟩; have hc0 : w1.cell? ⟨w.heap.size, 0, none⟩ = some (.int .i64 n) := (hb.cell (p := ⟨w.heap.size, 0, none⟩) (by simp)).trans (by simp); have hc1 : w1.cell? ⟨w.heap.size, 1, none⟩ = some (.int .i64 v) := (hb.cell (p := ⟨w.heap.size, 1, none⟩) (by simp)).trans (by simp); have hz : w.heap.size < w1.heap.size := (by have := hb.size; simp at this; omega))
  refine (rBytes_any _ _ _).mono ?_
  rintro e w2 ⟨A, c, rfl, hc, hsl, hb2⟩
  rw [HC.out] at hsl hc ⊢
  go_wp2_with fail
  refine (rHex_any _ _ _ _ hsl (by omega)).mono ?_
  rintro e w3 ⟨rfl, hb3⟩
  go_wp2
  go_ret
  refine ⟨?_, ?_⟩
  · show Ending.returned (Value.string (ByteArray.mk #[60] ++ str (hexL (beL n.toNat v)) ++ ByteArray.mk #[62])) = _
    rw [show ByteArray.mk #[60] = str [60] from rfl, show ByteArray.mk #[62] = str [62] from rfl, str_append, str_append]
    rfl
  · exact ((((Below.refl _ _).alloc (Nat.le_refl _) _).trans (hb.mono (by simp))).trans (hb2.mono (by omega))).trans (hb3.mono (by have := hb2.size; omega))

theorem rText_any (n v : Int) (w : World) :
    Calls Tryd.prog 26 #[.agg #[.int .i64 n, .int .i64 v]] w fun e w' => e = .returned (.string (str (textL n v))) ∧ Below w.heap.size w w' := by
  by_cases hs : saneB n v = true
  · have e : textL n v = 60 :: (hexL (beL n.toNat v) ++ [62]) := by simp [textL, hs]
    rw [e]
    exact rText_yes n v w hs
  · have hs' : saneB n v = false := by simpa using hs
    have e : textL n v = [] := by simp [textL, hs']
    rw [e]
    exact rText_no n v w hs'

set_option maxHeartbeats 1000000 in
theorem rVal_no (A : Option Addr) (c : Nat) (n : Nat) (w : World) (h : n < 1 ∨ 4 < n) :
    Calls Tryd.prog 20 #[.slice A n c] w fun e w' => e = .returned (.tuple #[.agg #[.int .i64 0, .int .i64 0], .bool false]) ∧ Below w.heap.size w w' := by
  rcases h with h | h
  · go_enter Tryd.func20, Tryd.ntmps20
    go_wp2
    go_returns
    exact ⟨rfl, (Below.refl _ _).alloc (Nat.le_refl _) _⟩
  · have h' : ¬ n < 1 := by omega
    go_enter Tryd.func20, Tryd.ntmps20
    go_wp2
    go_returns
    exact ⟨rfl, (Below.refl _ _).alloc (Nat.le_refl _) _⟩

set_option maxHeartbeats 1000000 in
theorem rVal_yes (A : Option Addr) (c : Nat) (l : List UInt8) (w : World) (hA : Sl w w.heap.size A l) (h1 : 1 ≤ l.length) (h4 : l.length ≤ 4) :
    Calls Tryd.prog 20 #[.slice A l.length c] w fun e w' => e = .returned (.tuple #[.agg #[.int .i64 l.length, .int .i64 (num l)], .bool true]) ∧ Below w.heap.size w w' := by
  obtain ⟨b, o, rfl, hbl, hc⟩ := hA (by omega)
  have d1 : decide ((l.length : Int) < 1) = false := by simp; omega
  have d2 : decide ((4 : Int) < (l.length : Int)) = false := by simp; omega
  have HC := Lib.hid hc
  clear hc
  go_enter Tryd.func20, Tryd.ntmps20
  go_wp2
  go_loop [4, 5] (fun v i => ∃ k : Nat, k ≤ l.length ∧ i = .int .i64 k ∧ v = .int .i64 (num (l.take k))) (fun _ i => l.length - (intOf i).toNat)
  case atStart => exact ⟨0, Nat.zero_le _, rfl, rfl⟩
  case round =>
    obtain ⟨k, hk, rfl, rfl⟩ := hrel
    by_cases hlt : k < l.length
    · have hcell : w.cell? ⟨b, o + k, none⟩ = some (.int .u8 ((l[k]?.getD 0).toNat : Int)) := HC.out k hlt
      have hs := num_take l k hlt
      have HS := Lib.hid hs
      have hnb := num_bounds 3 (l.take k) (by simp; omega)
      obtain ⟨x, hx⟩ : ∃ x, x = l[k]?.getD 0 := ⟨_, rfl⟩
      rw [← hx] at hcell
      have HX := Lib.hid hx
      clear hs hx
      have hx1 := x.toNat_lt
      obtain ⟨m, hm⟩ : ∃ m, m = num (l.take k) := ⟨_, rfl⟩
      rw [← hm] at hnb
      rw [← hm]
      have HM := Lib.hid hm
      clear hm
      obtain ⟨n0, n1⟩ := hnb
      have n1' : m < 16777216 := by simpa using n1
      clear n1
      go_wp2
      go_round
      case rel => exact ⟨k + 1, by omega, by go_num, by rw [HS.out, ← HM.out, ← HX.out]⟩
      case measure => simp [intOf]; omega
    · obtain rfl : l.length = k := by omega
      rw [List.take_of_length_le (Nat.le_refl _)]
      go_wp2
      go_returns
      exact ⟨rfl, (Below.refl _ _).alloc (Nat.le_refl _) _⟩
end Go.Proofs.YtcnpegembccbmaaDoor
