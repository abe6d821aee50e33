/-
  The walk of the statement HexCodes.
-/
import Derived.Test.YtcnpegembccbmaaDoorHexAwake
import Derived.Test.YtcnpegembccbmaaDoorRefCode
import Derived.Test.YtcnpegembccbmaaDoorHexRows
import Derived.Test.YtcnpegembccbmaaDoorHexTexts0
import Derived.Deep.RegionHeld
import Derived.Deep.DrawnRows
namespace Go.Proofs.YtcnpegembccbmaaDoor
open Go.RowKit
attribute [local go_sem ↓] Go.wp_at_zero Go.wp_at_succ

/-- Val, the program's and the document's own: one answer. -/
theorem Val_both (l : List UInt8) : ∃ (p q : Int) (ok : Bool), (∀ A c w, Sl w w.heap.size A l → Calls Tryd.prog 19 #[.slice A l.length c] w fun e w' => e = .returned (.tuple #[.agg #[.int .i64 p, .int .i64 q], .bool ok]) ∧ Below w.heap.size w w') ∧
    (∀ A c w, Sl w w.heap.size A l → Calls Tryd.prog 20 #[.slice A l.length c] w fun e w' => e = .returned (.tuple #[.agg #[.int .i64 p, .int .i64 q], .bool ok]) ∧ Below w.heap.size w w') := by
  by_cases h : l.length < 1 ∨ 4 < l.length
  · exact ⟨0, 0, false, fun A c w _ => Val_no A c l.length w h, fun A c w _ => rVal_no A c l.length w h⟩
  · exact ⟨_, _, true, fun A c w hs => Val_yes A c l w hs (by omega) (by omega), fun A c w hs => rVal_yes A c l w hs (by omega) (by omega)⟩

set_option maxHeartbeats 1000000 in
theorem codes_long (n m : Int) (A : Option Addr) (c : Nat) (l : List UInt8) (w : World) (ht : Tab w) (hm : l.length ≤ maxLen) (h : 100 < l.length) :
    Calls Tryd.prog 4 #[.agg #[.int .i64 n, .int .i64 m], .slice A l.length c] w fun e w' => e = .returned (.bool true) ∧ Below w.heap.size w w' := by
  unfold maxLen at hm
  have ha := ht.code (.cells #[.int .i64 n, .int .i64 m] 33)
  go_enter Tryd.func4, Tryd.ntmps4
  go_wp2_with fail
  refine (awake_any _ ha).mono ?_
  rintro e w1 ⟨rfl, hb1⟩
  go_wp2
  go_ret
  exact ⟨rfl, code_below hb1⟩

set_option maxHeartbeats 4000000 in
theorem codes_short (n m : Int) (A : Option Addr) (c : Nat) (l : List UInt8) (w : World) (ht : Tab w) (hA : Sl w w.heap.size A l) (h : l.length ≤ 100) :
    Calls Tryd.prog 4 #[.agg #[.int .i64 n, .int .i64 m], .slice A l.length c] w fun e w' => e = .returned (.bool true) ∧ Below w.heap.size w w' := by
  have ha := ht.code (.cells #[.int .i64 n, .int .i64 m] 33)
  have hA0 : Sl (w.alloc (.cells #[.int .i64 n, .int .i64 m] 33)) (w.alloc (.cells #[.int .i64 n, .int .i64 m] 33)).heap.size A l := (hA.alloc (Nat.le_refl _) _).more (by simp)
  obtain ⟨p, q, ok, hV, hW⟩ := Val_both l
  have HV := Lib.hid hV
  have HW := Lib.hid hW
  clear hV hW hA
  go_enter Tryd.func4, Tryd.ntmps4
  go_wp2_with fail
  refine (awake_any _ ha).mono ?_
  rintro e w1 ⟨rfl, hb1⟩
  go_wp2_with fail
  refine (HV.out _ _ _ (hA0.over hb1)).mono ?_
  rintro e w2 ⟨rfl, hb2⟩
  have hb2' := hb1.trans (hb2.mono hb1.size)
  obtain ⟨k0, k1, kz2⟩ := code_cells hb2'
  go_wp2_with fail
  have hb3 : Below (w.alloc (.cells #[.int .i64 n, .int .i64 m] 33)).heap.size (w.alloc (.cells #[.int .i64 n, .int .i64 m] 33)) (w2.alloc (.cells #[.int .i64 p, .int .i64 q] 33)) := hb2'.alloc hb2'.size _
  refine (HW.out _ _ _ (hA0.over hb3)).mono ?_
  rintro e w4 ⟨rfl, hb4⟩
  have hb4' := hb3.trans (hb4.mono hb3.size)
  obtain ⟨k04, k14, kz4⟩ := code_cells hb4'
  have g0 : w4.cell? ⟨w2.heap.size, 0, none⟩ = some (.int .i64 p) := (hb4.cell (p := ⟨w2.heap.size, 0, none⟩) (by simp)).trans (by simp)
  have g1 : w4.cell? ⟨w2.heap.size, 1, none⟩ = some (.int .i64 q) := (hb4.cell (p := ⟨w2.heap.size, 1, none⟩) (by simp)).trans (by simp)
  have gz : w2.heap.size < w4.heap.size := by have := hb4.size; simp at this; omega
  go_wp2_with fail
  have hb5 : Below (w.alloc (.cells #[.int .i64 n, .int .i64 m] 33)).heap.size (w.alloc (.cells #[.int .i64 n, .int .i64 m] 33)) (w4.alloc (.cells #[.int .i64 p, .int .i64 q] 33)) := hb4'.alloc hb4'.size _
  have f0 : (w4.alloc (.cells #[.int .i64 p, .int .i64 q] 33)).cell? ⟨w4.heap.size, 0, none⟩ = some (.int .i64 p) := by simp
  have f1 : (w4.alloc (.cells #[.int .i64 p, .int .i64 q] 33)).cell? ⟨w4.heap.size, 1, none⟩ = some (.int .i64 q) := by simp
  have f2 : (w4.alloc (.cells #[.int .i64 p, .int .i64 q] 33)).cell? ⟨w2.heap.size, 0, none⟩ = some (.int .i64 p) := (World.cell?_alloc_lt _ _ _ gz).trans g0
  have f3 : (w4.alloc (.cells #[.int .i64 p, .int .i64 q] 33)).cell? ⟨w2.heap.size, 1, none⟩ = some (.int .i64 q) := (World.cell?_alloc_lt _ _ _ gz).trans g1
  have fz : w4.heap.size < (w4.alloc (.cells #[.int .i64 p, .int .i64 q] 33)).heap.size := by simp
  have fz2 : w2.heap.size < (w4.alloc (.cells #[.int .i64 p, .int .i64 q] 33)).heap.size := by omega
  clear k0 k1 k04 k14 g0 g1 gz hb4 hb4' hb3 hb2 hb2' hb1 hA0 kz2 kz4
  generalize w4.alloc (.cells #[.int .i64 p, .int .i64 q] 33) = w5 at *
  generalize w4.heap.size = g at *
  generalize w2.heap.size = f at *
  obtain ⟨k0, k1, kz5⟩ := code_cells hb5
  have hS : ∀ w', Below w5.heap.size w5 w' → w'.cell? ⟨w.heap.size, 0, none⟩ = some (.int .i64 n) ∧ w'.cell? ⟨w.heap.size, 1, none⟩ = some (.int .i64 m) ∧ w'.cell? ⟨f, 0, none⟩ = some (.int .i64 p) ∧ w'.cell? ⟨f, 1, none⟩ = some (.int .i64 q) ∧ w'.cell? ⟨g, 0, none⟩ = some (.int .i64 p) ∧ w'.cell? ⟨g, 1, none⟩ = some (.int .i64 q) := fun w' hb =>
    ⟨(hb.cell (p := ⟨w.heap.size, 0, none⟩) kz5).trans k0, (hb.cell (p := ⟨w.heap.size, 1, none⟩) kz5).trans k1, (hb.cell (p := ⟨f, 0, none⟩) fz2).trans f2, (hb.cell (p := ⟨f, 1, none⟩) fz2).trans f3, (hb.cell (p := ⟨g, 0, none⟩) fz).trans f0, (hb.cell (p := ⟨g, 1, none⟩) fz).trans f1⟩
  have z0 : Below w5.heap.size w5 w5.drew := (Below.refl _ _).drew
  have HS := Lib.hid hS
  clear hS k0 k1 f0 f1 f2 f3
  go_region_held (fun w' => w'.cell? ⟨w.heap.size, 0, none⟩ = some (.int .i64 n) ∧ w'.cell? ⟨w.heap.size, 1, none⟩ = some (.int .i64 m) ∧ w'.cell? ⟨f, 0, none⟩ = some (.int .i64 p) ∧ w'.cell? ⟨f, 1, none⟩ = some (.int .i64 q) ∧ w'.cell? ⟨g, 0, none⟩ = some (.int .i64 p) ∧ w'.cell? ⟨g, 1, none⟩ = some (.int .i64 q))
    (first | exact HS.out _ z0 | exact HS.out _ z1 | exact HS.out _ z2 | exact HS.out _ z3 | exact HS.out _ z4 | exact HS.out _ z5 | exact HS.out _ z6)
    (first
      | (go_at_call 21; refine (Sane_any _ _ _).mono ?_; rintro e x1 ⟨rfl, y1⟩; have z1 := z0.trans (y1.mono z0.size))
      | (go_at_call 22; refine (rSane_any _ _ _).mono ?_; rintro e x2 ⟨rfl, y2⟩; have z2 := z1.trans (y2.mono z1.size))
      | (go_at_call 23; refine (Bytes_any _ _ _).mono ?_; rintro e x3 ⟨A3, c3, rfl, hc3, hsl3, y3⟩; have z3 := z2.trans (y3.mono z2.size); have v3 := conv8 hsl3 c3)
      | (go_at_call 24; refine (rBytes_any _ _ _).mono ?_; rintro e x4 ⟨A4, c4, rfl, hc4, hsl4, y4⟩; have z4 := z3.trans (y4.mono z3.size); have v4 := conv8 hsl4 c4; have v34 := conv8 (hsl3.over y4) c3)
      | (go_at_call 25; refine (Text_any _ _ _).mono ?_; rintro e x5 ⟨rfl, y5⟩; have z5 := z4.trans (y5.mono z4.size))
      | (go_at_call 26; refine (rText_any _ _ _).mono ?_; rintro e x6 ⟨rfl, y6⟩; have z6 := z5.trans (y6.mono z5.size)))
  all_goals
    go_wp2
    go_ret
    exact ⟨rfl, code_below (hb5.trans (z6.mono hb5.size))⟩

theorem codes_walk (n m : Int) (A : Option Addr) (c : Nat) (l : List UInt8) (w : World) (ht : Tab w) (hA : Sl w w.heap.size A l) (hm : l.length ≤ maxLen) :
    Calls Tryd.prog 4 #[.agg #[.int .i64 n, .int .i64 m], .slice A l.length c] w fun e w' => e = .returned (.bool true) ∧ Below w.heap.size w w' := by
  by_cases h : 100 < l.length
  · exact codes_long n m A c l w ht hm h
  · exact codes_short n m A c l w ht hA (by omega)
end Go.Proofs.YtcnpegembccbmaaDoor
