/-
  The walk of the statement HexBack.
-/
import Derived.Test.YtcnpegembccbmaaDoorHexAwake
import Derived.Test.YtcnpegembccbmaaDoorHexLow
import Derived.Test.YtcnpegembccbmaaDoorHexRows
import Derived.Test.YtcnpegembccbmaaDoorConv
import Derived.Deep.RegionHeld
import Derived.Deep.DrawnRows
namespace Go.Proofs.YtcnpegembccbmaaDoor
open Go.RowKit
attribute [local go_sem ↓] Go.wp_at_zero Go.wp_at_succ

set_option maxRecDepth 100000 in
set_option maxHeartbeats 1000000 in
theorem back_long (A : Option Addr) (c : Nat) (l : List UInt8) (at_ bl : Int) (w : World) (ht : Tab w) (hm : l.length ≤ maxLen) (h : 300 < l.length) :
    Calls Tryd.prog 5 #[.slice A l.length c, .int .i64 at_, .int .i64 bl] w fun e w' => e = .returned (.bool true) ∧ Below w.heap.size w w' := by
  unfold maxLen at hm
  go_enter Tryd.func5, Tryd.ntmps5
  go_wp2_with fail
  refine (awake_any _ ht).mono ?_
  rintro e w1 ⟨rfl, hb1⟩
  go_wp2
  go_ret
  exact ⟨rfl, hb1⟩

theorem blanks_fin : ∀ i : Fin 6, kb (([0, 9, 10, 12, 13, 32] : List UInt8)[i.val]'i.isLt) = 1 := by decide

set_option maxRecDepth 100000 in
set_option maxHeartbeats 4000000 in
theorem back_short (A : Option Addr) (c : Nat) (l : List UInt8) (at_ bl : Int) (w : World) (ht : Tab w) (hA : Sl w w.heap.size A l) (h : l.length ≤ 300) :
    Calls Tryd.prog 5 #[.slice A l.length c, .int .i64 at_, .int .i64 bl] w fun e w' => e = .returned (.bool true) ∧ Below w.heap.size w w' := by
  obtain ⟨x, hx⟩ : ∃ x, x = hexL l := ⟨_, rfl⟩
  have hxl : x.length = 2 * l.length := by rw [hx, hexL_length]
  have hH : ∀ (w : World), Sl w w.heap.size A l → Calls Tryd.prog 17 #[.slice A l.length c] w fun e w' => e = .returned (.string (str x)) ∧ Below w.heap.size w w' := fun w hs => by rw [hx]; exact Hex_any A c l w hs (by omega)
  have hdig : ∀ j, j < x.length → ∃ n, n < 16 ∧ x[j]?.getD 0 = hd n := fun j hj => by
    rw [List.getElem?_eq_getElem hj]
    exact mem_hexL (by rw [← hx]; exact List.getElem_mem _)
  have HX := Lib.hid hx
  have HXL := Lib.hid hxl
  have HH := Lib.hid hH
  have HD := Lib.hid hdig
  have hx600 : x.length ≤ 600 := by omega
  clear hx hxl hH hdig
  go_enter Tryd.func5, Tryd.ntmps5
  go_wp2_with fail
  refine (awake_any _ ht).mono ?_
  rintro e w1 ⟨rfl, hb1⟩
  have ht1 := ht.below' hb1
  go_wp2_with fail
  refine (HH.out _ (hA.over hb1)).mono ?_
  rintro e w2 ⟨rfl, hb2⟩
  have hb2' := hb1.trans (hb2.mono hb1.size)
  have ht2 := ht1.below' hb2
  obtain ⟨cap, w3, hrun, hcell, hfz, hb3, hz3, hcap⟩ := run_bytes (P := Tryd.prog) w2 9 22 5 x Tryd.underlying9 Tryd.underlying22 Tryd.underlying5
  have ht3 := ht2.below' hb3
  have hb3' := hb2'.trans (hb3.mono hb2'.size)
  have hg2 : w.heap.size ≤ w2.heap.size := hb2'.size
  have HC := Lib.hid hcell
  have HF := Lib.hid hfz
  clear hcell hfz
  go_wp2
  clear hrun
  generalize w2.heap.size = g at *
  go_loopw [10] (fun i wr => ∃ k : Nat, k ≤ x.length ∧ i = .int .i64 k ∧ Hid (∀ j, j < x.length → wr.cell? ⟨g, j, none⟩ = some (.int .u8 (((lowTo x k)[j]?.getD 0).toNat : Int))) ∧ Hid (∀ j, j < x.length → wr.frozen? ⟨g, j, none⟩ = false) ∧ Below w.heap.size w wr ∧ g < wr.heap.size) (fun i _ => x.length - (intOf i).toNat)
  case atStart => exact ⟨0, Nat.zero_le _, rfl, by rw [lowTo_zero]; exact HC.out, HF.out, hb3', hz3⟩
  case round =>
    obtain ⟨k, hk, rfl, hcl, hfr, hbr, hgr⟩ := hrel
    have htr : Tab wr := ht.below' hbr
    by_cases hlt : k < x.length
    · obtain ⟨n, hn, hxn⟩ := HD.out k hlt
      have hc0 : wr.cell? ⟨g, k, none⟩ = some (.int .u8 ((hd n).toNat : Int)) := by rw [← hxn, ← lowTo_get x k hlt]; exact hcl.out k hlt
      have hf0 := hfr.out k hlt
      have hle := hd_le n hn
      have hkz : kz ((hd n).toNat : Int) = (n : Int) + 2 := kb_hd hn
      have hk2 : 2 ≤ kz ((hd n).toNat : Int) := by omega
      have hD : Calls Tryd.prog 11 #[.int .i64 ((hd n).toNat : Int)] wr fun e w' => e = .returned (.tuple #[.int .i64 (n : Int), .bool true]) ∧ wr = w' := by
        have := Digit_yes _ wr htr hk2
        rwa [hkz, show (n : Int) + 2 - 2 = (n : Int) by omega] at this
      have HXN := Lib.hid hxn
      have HDD := Lib.hid hD
      have k0 : (0 : Int) ≤ (k : Int) := by omega
      have k1 : (k : Int) < (x.length : Int) := by omega
      have e1 : decide ((n : Int) < 0) = false := by simp
      have e2 : decide ((15 : Int) < (n : Int)) = false := by simp; omega
      clear hxn hD hkz hk2
      by_cases h65 : 65 ≤ (hd n).toNat
      · go_wp2_with (go_at_call 11; refine HDD.out.mono ?_; rintro e w' ⟨rfl, rfl⟩)
        go_roundw
        case rel =>
          refine ⟨k + 1, by omega, by go_num, fun j hj => ?_, fun j hj => by rw [World.frozen?_setCell]; exact hfr.out j hj, hbr.setCell hg2 _, by simpa using hgr⟩
          rw [lowTo_step x k hlt j]
          by_cases hjk : j = k
          · subst hjk
            have hb : (lowb (hd n)).toNat = (hd n).toNat + 32 := by
              unfold lowb
              rw [if_pos h65, UInt8.toNat_add]
              show ((hd n).toNat + 32) % 256 = _
              omega
            rw [if_pos rfl, HXN.out, World.cell?_setCell_same _ _ _ hc0]
            congr 2
            omega
          · rw [if_neg hjk, World.cell?_setCell_other _ _ _ _ (fun e => hjk (by injection e with _ e2; exact e2.symm))]
            exact hcl.out j hj
        case measure => simp [intOf]; omega
      · go_wp2_with (go_at_call 11; refine HDD.out.mono ?_; rintro e w' ⟨rfl, rfl⟩)
        go_roundw
        case rel =>
          refine ⟨k + 1, by omega, by go_num, fun j hj => ?_, hfr, hbr, hgr⟩
          rw [lowTo_step x k hlt j]
          by_cases hjk : j = k
          · subst hjk
            have hb : lowb (hd n) = hd n := by unfold lowb; rw [if_neg h65]
            rw [if_pos rfl, HXN.out, hb]
            exact hc0
          · rw [if_neg hjk]
            exact hcl.out j hj
        case measure => simp [intOf]; omega
    · obtain rfl : x.length = k := by omega
      rw [lowTo_all] at hcl
      have hll : (x.map lowb).length = x.length := by simp
      have hslow : Sl wr wr.heap.size (some ⟨g, 0, none⟩) (x.map lowb) := fun _ => ⟨g, 0, rfl, hgr, fun j hj => by rw [Nat.zero_add]; exact hcl.out j (by rw [hll] at hj; exact hj)⟩
      obtain ⟨lx, hlx⟩ : ∃ lx, lx = x.map lowb := ⟨_, rfl⟩
      rw [← hlx] at hslow hll
      obtain ⟨am, ham⟩ : ∃ am : Nat, bits .and .i64 at_ 65535 = (am : Int) := ⟨(at_ % 65536).toNat, by rw [i64_mask16]; omega⟩
      obtain ⟨bm, hbm⟩ : ∃ bm : Nat, bits .and .i64 bl 65535 = (bm : Int) := ⟨(bl % 65536).toNat, by rw [i64_mask16]; omega⟩
      have ham2 : am < 65536 := by have := i64_mask16 at_; omega
      obtain ⟨κ, hκ⟩ : ∃ κ : Nat, (am : Int) % ((x.length : Int) + 1) = (κ : Int) := ⟨am % (x.length + 1), by rw [Int.natCast_emod]; rfl⟩
      have hκl : κ ≤ x.length := by have := Int.emod_lt_of_pos (am : Int) (show (0 : Int) < (x.length : Int) + 1 by omega); omega
      obtain ⟨ι, hι⟩ : ∃ ι : Nat, (bm : Int) % 6 = (ι : Int) := ⟨bm % 6, by omega⟩
      have hι6 : ι < 6 := by omega
      obtain ⟨cb, hcb⟩ : ∃ cb, cb = ([0, 9, 10, 12, 13, 32] : List UInt8)[ι]'hι6 := ⟨_, rfl⟩
      have hkb : kb cb = 1 := by rw [hcb]; exact blanks_fin ⟨ι, hι6⟩
      have hci : ∀ W : World, (W.alloc (.cells #[.int .u8 0, .int .u8 9, .int .u8 10, .int .u8 12, .int .u8 13, .int .u8 32] 5)).cell? ⟨W.heap.size, ι, none⟩ = some (.int .u8 (cb.toNat : Int)) := fun W => by
        rcases (show ι = 0 ∨ ι = 1 ∨ ι = 2 ∨ ι = 3 ∨ ι = 4 ∨ ι = 5 by omega) with e | e | e | e | e | e <;> (subst e; simp [hcb])
      obtain ⟨z, hz⟩ : ∃ z, z = x.take κ ++ [cb] ++ x.drop κ := ⟨_, rfl⟩
      have ex := HX.out
      have hU : ∀ w, Tab w → Calls Tryd.prog 13 #[.string (str x)] w (RetBytes w l x.length 0) := fun w ht => by
        have := UnHex_good x w ht (by omega) (by rw [ex]; exact good_hexL l)
        rwa [show pack (nibs x) = l by rw [ex, pack_hexL]] at this
      have hV : ∀ w, Tab w → Calls Tryd.prog 13 #[.string (str lx)] w (RetBytes w l x.length 0) := fun w ht => by
        have := UnHex_good lx w ht (by omega) (by rw [hlx, ex]; exact good_low l)
        rwa [show pack (nibs lx) = l by rw [hlx, ex, nibs_low, pack_hexL], hll] at this
      have hzl : z.length = x.length + 1 := by rw [hz]; simp; omega
      have hW : ∀ w, Tab w → Calls Tryd.prog 13 #[.string (str z)] w (RetBytes w l ((x.length : Int) + 1) 0) := fun w ht => by
        have := UnHex_good z w ht (by omega) (by rw [hz]; exact good_into (by rw [ex]; exact good_hexL l) κ hkb)
        rw [show pack (nibs z) = l by rw [hz, nibs_into x κ hkb, ex, pack_hexL], hzl] at this
        rwa [show ((x.length + 1 : Nat) : Int) = (x.length : Int) + 1 by omega] at this
      have hwh : (kz (cb.toNat : Int) == 1) = true := by have : kz (cb.toNat : Int) = 1 := hkb
                                                         rw [this]; rfl
      have hcb1 := cb.toNat_lt
      have HU := Lib.hid hU
      have HV := Lib.hid hV
      have HW := Lib.hid hW
      have HZ := Lib.hid hz
      have HKB := Lib.hid hkb
      have HLL := Lib.hid hll
      have HCI := Lib.hid hci
      have hxx : ((x.length : Int) == 2 * (l.length : Int)) = true := by have := HXL.out; simp; omega
      have i0 : (0 : Int) ≤ (ι : Int) := by omega
      have i1 : (ι : Int) < 6 := by omega
      clear hU hV hW hz hkb hll ex hcb hlx hzl hcl hfr HC HF HD hlt hk hci
      have hci' := HCI.out wr
      have hn1 : (x.length : Int) + 1 ≠ 0 := by omega
      go_wp2_with fail
      have hb4 : Below w.heap.size w (wr.alloc (.cells #[.int .u8 0, .int .u8 9, .int .u8 10, .int .u8 12, .int .u8 13, .int .u8 32] 5)) := hbr.alloc hbr.size _
      have hs4 : Sl (wr.alloc (.cells #[.int .u8 0, .int .u8 9, .int .u8 10, .int .u8 12, .int .u8 13, .int .u8 32] 5)) (wr.alloc (.cells #[.int .u8 0, .int .u8 9, .int .u8 10, .int .u8 12, .int .u8 13, .int .u8 32] 5)).heap.size (some ⟨g, 0, none⟩) lx := (hslow.alloc (Nat.le_refl _) _).more (by simp)
      refine (HU.out _ (ht.below' hb4)).mono ?_
      rintro e w5 ⟨A5, c5, rfl, hc5, hsl5, hb5⟩
      have hb5' := hb4.trans (hb5.mono hb4.size)
      have cv5 := conv8 (hs4.over hb5) cap
      rw [HLL.out] at cv5
      go_wp2_with fail
      refine (HV.out _ (ht.below' hb5')).mono ?_
      rintro e w6 ⟨A6, c6, rfl, hc6, hsl6, hb6⟩
      have hb6' := hb5'.trans (hb6.mono hb5'.size)
      clear cv5 hci'
      go_wp2_with fail
      have q0 : (0 : Int) ≤ (κ : Int) := by omega
      have q1 : (κ : Int) ≤ (x.length : Int) := by omega
      have s1 : ∀ wx, (Instr.slice 9 (.string (str x)) none (some (.int .i64 (κ : Int))) none).run Tryd.prog wx = .ok (.string (str (x.take κ))) wx := fun wx => by
        rw [run_slice_string_to_if wx 9 (str x) .i64 (κ : Int) Tryd.underlying9]
        simp [str_size, str_extract, hκl]
      have s2 : ∀ wx, (Instr.slice 9 (.string (str x)) (some (.int .i64 (κ : Int))) none none).run Tryd.prog wx = .ok (.string (str (x.drop κ))) wx := fun wx => by
        rw [run_slice_string_from_if wx 9 (str x) .i64 (κ : Int) Tryd.underlying9]
        simp [str_size, str_extract, hκl]
        exact str_inj (List.take_of_length_le (by simp))
      have hone : Sl (w6.alloc (.cells #[.int .u8 (cb.toNat : Int)] 5)) (w6.heap.size + 1) (some ⟨w6.heap.size, 0, none⟩) [cb] := fun _ => ⟨w6.heap.size, 0, rfl, by omega, fun j hj => by
        obtain rfl : j = 0 := by simp at hj; omega
        simp⟩
      have cv7 : (convert 22 9 (.slice (some ⟨w6.heap.size, 0, none⟩) 1 1)).run Tryd.prog (w6.alloc (.cells #[.int .u8 (cb.toNat : Int)] 5)).drew = .ok (.string (str [cb])) (w6.alloc (.cells #[.int .u8 (cb.toNat : Int)] 5)).drew := conv8 hone.drew 1
      have hb7 : Below w.heap.size w (w6.alloc (.cells #[.int .u8 (cb.toNat : Int)] 5)).drew := (hb6'.alloc hb6'.size _).drew
      have a1 : ∀ wx, (Op.stringOp .add (str (x.take κ)) (str [cb])).run Tryd.prog wx = .ok (.string (str (x.take κ ++ [cb]))) wx := fun wx => by
        rw [run_string_add_sum wx _ _ (by rw [str_size, str_size]; simp; omega), str_append]
      have a2 : ∀ wx, (Op.stringOp .add (str (x.take κ ++ [cb])) (str (x.drop κ))).run Tryd.prog wx = .ok (.string (str z)) wx := fun wx => by
        rw [run_string_add_sum wx _ _ (by rw [str_size, str_size]; simp; omega), str_append, HZ.out]
      have hz6 := hb6.size
      have hl6 := hsl6
      go_region_held (fun _ => True) (trivial)
        (first | (go_at_call 13; refine (HW.out _ (ht.below' hb7)).mono ?_; rintro e w8 ⟨A8, c8, rfl, hc8, hsl8, hb8⟩))
      have hb8' := hb7.trans (hb8.mono hb7.size)
      have hs5 : Sl w8 w8.heap.size A5 l := (((hsl5.over hb6).alloc (Nat.le_refl _) (.cells #[.int .u8 (cb.toNat : Int)] 5)).drew.more (by simp)).over hb8
      have hs6 : Sl w8 w8.heap.size A6 l := ((hsl6.alloc (Nat.le_refl _) (.cells #[.int .u8 (cb.toNat : Int)] 5)).drew.more (by simp)).over hb8
      have u5' := conv8 hs5 c5
      have u6' := conv8 hs6 c6
      have u8' := conv8 hsl8 c8
      have ua := conv8 (hA.over hb8') c
      have ht8 := ht.below' hb8'
      have hll2 : (l == l) = true := by simp
      clear s1 s2 a1 a2 cv7 hone
      go_wp2_with fail
      refine (White_any _ _ ht8).mono ?_
      rintro e w8' ⟨rfl, rfl⟩
      go_wp2
      go_ret
      exact ⟨rfl, hb8'⟩

theorem back_walk (A : Option Addr) (c : Nat) (l : List UInt8) (at_ bl : Int) (w : World) (ht : Tab w) (hA : Sl w w.heap.size A l) (hm : l.length ≤ maxLen) :
    Calls Tryd.prog 5 #[.slice A l.length c, .int .i64 at_, .int .i64 bl] w fun e w' => e = .returned (.bool true) ∧ Below w.heap.size w w' := by
  by_cases h : 300 < l.length
  · exact back_long A c l at_ bl w ht hm h
  · exact back_short A c l at_ bl w ht hA (by omega)
end Go.Proofs.YtcnpegembccbmaaDoor
