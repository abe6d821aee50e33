/-
  hex.Text: a code, written; hex.Val: bytes as a code.
-/
import Derived.Test.YtcnpegembccbmaaDoorHexBytes
import Derived.Test.YtcnpegembccbmaaDoorHexHex
namespace Go.Proofs.YtcnpegembccbmaaDoor
open Go.RowKit

def textL (n v : Int) : List UInt8 := if saneB n v then 60 :: (hexL (beL n.toNat v) ++ [62]) else []

set_option maxHeartbeats 1000000 in
theorem Text_no (n v : Int) (w : World) (hs : saneB n v = false) :
    Calls Tryd.prog 25 #[.agg #[.int .i64 n, .int .i64 v]] w fun e w' => e = .returned (.string (str [])) ∧ Below w.heap.size w w' := by
  go_enter Tryd.func25, Tryd.ntmps25
  go_wp2_with (go_at_call 21; refine (Sane_any _ _ _).mono ?_; rintro e w1 ⟨rfl, hb⟩)
  go_ret
  exact ⟨rfl, ((Below.refl _ _).alloc (Nat.le_refl _) _).trans (hb.mono (by simp))⟩

set_option maxHeartbeats 1000000 in
theorem Text_yes (n v : Int) (w : World) (hs : saneB n v = true) :
    Calls Tryd.prog 25 #[.agg #[.int .i64 n, .int .i64 v]] w fun e w' => e = .returned (.string (str (60 :: (hexL (beL n.toNat v) ++ [62])))) ∧ Below w.heap.size w w' := by
  have hcl : codeL n v = beL n.toNat v := by simp [codeL, hs]
  have hn : n.toNat ≤ 4 := by have := (saneB_iff n v).1 hs; omega
  have HC := Lib.hid hcl
  clear hcl
  have hlen := beL_length n.toNat v
  have hxl := hexL_length (beL n.toNat v)
  have hle : (beL n.toNat v).length ≤ 4 := by omega
  have hhe : (hexL (beL n.toNat v)).length ≤ 8 := by omega
  have HL := Lib.hid hlen
  have HX := Lib.hid hxl
  clear hlen hxl
  go_enter Tryd.func25, Tryd.ntmps25
  go_wp2_with (go_at_call 21; refine (Sane_any _ _ _).mono ?_; rintro e w1 ⟨rfl, hb⟩; have hc0 : w1.cell? ⟨w.heap.size, 0, none⟩ = some (.int .i64 n) := (hb.cell (p := ⟨w.heap.size, 0, none⟩) (by simp)).trans (by simp); have hc1 : w1.cell? ⟨w.heap.size, 1, none⟩ = some (.int .i64 v) := (hb.cell (p := ⟨w.heap.size, 1, none⟩) (by simp)).trans (by simp); have hz : w.heap.size < w1.heap.size := (by have := hb.size; simp at this; omega))
  refine (Bytes_any _ _ _).mono ?_
  rintro e w2 ⟨A, c, rfl, hc, hsl, hb2⟩
  rw [HC.out] at hsl hc ⊢
  go_wp2_with fail
  refine (Hex_any _ _ _ _ hsl (by omega)).mono ?_
  rintro e w3 ⟨rfl, hb3⟩
  go_wp2
  go_ret
  refine ⟨?_, ?_⟩
  · show Ending.returned (Value.string (ByteArray.mk #[60] ++ str (hexL (beL n.toNat v)) ++ ByteArray.mk #[62])) = _
    rw [show ByteArray.mk #[60] = str [60] from rfl, show ByteArray.mk #[62] = str [62] from rfl, str_append, str_append]
    rfl
  · exact ((((Below.refl _ _).alloc (Nat.le_refl _) _).trans (hb.mono (by simp))).trans (hb2.mono (by omega))).trans (hb3.mono (by have := hb2.size; omega))

theorem Text_any (n v : Int) (w : World) :
    Calls Tryd.prog 25 #[.agg #[.int .i64 n, .int .i64 v]] w fun e w' => e = .returned (.string (str (textL n v))) ∧ Below w.heap.size w w' := by
  by_cases hs : saneB n v = true
  · have e : textL n v = 60 :: (hexL (beL n.toNat v) ++ [62]) := by simp [textL, hs]
    rw [e]
    exact Text_yes n v w hs
  · have hs' : saneB n v = false := by simpa using hs
    have e : textL n v = [] := by simp [textL, hs']
    rw [e]
    exact Text_no n v w hs'
end Go.Proofs.YtcnpegembccbmaaDoor
