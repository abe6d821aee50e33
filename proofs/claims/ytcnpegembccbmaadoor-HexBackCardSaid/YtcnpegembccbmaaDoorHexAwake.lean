/-
  The document's example, which each statement of layer 1 asks first: it comes out true in every world that holds the table.
-/
import Derived.Test.YtcnpegembccbmaaDoorHexUn
import Derived.Test.YtcnpegembccbmaaDoorHexText
import Derived.Test.YtcnpegembccbmaaDoorHexVal
namespace Go.Proofs.YtcnpegembccbmaaDoor
open Go.RowKit

theorem UnHex_eg (w : World) (ht : Tab w) : Calls Tryd.prog 13 #[.string ⟨#[52, 32, 97, 53]⟩] w (RetBytes w [74, 80] 4 0) := by
  have h := UnHex_any [52, 32, 97, 53] w ht (by decide)
  have e1 : unB [52, 32, 97, 53] = [74, 80] := by decide
  have e2 : unN [52, 32, 97, 53] = 4 := by decide
  have e3 : unE [52, 32, 97, 53] = 0 := by decide
  rw [e1, e2, e3] at h
  exact h

theorem Val_eg (w : World) (b : Nat) (hb : b < w.heap.size) (h0 : w.cell? ⟨b, 0, none⟩ = some (.int .u8 1)) (h1 : w.cell? ⟨b, 1, none⟩ = some (.int .u8 2)) :
    Calls Tryd.prog 19 #[.slice (some ⟨b, 0, none⟩) 2 2] w fun e w' => e = .returned (.tuple #[.agg #[.int .i64 2, .int .i64 258], .bool true]) ∧ Below w.heap.size w w' := by
  have hsl : Sl w w.heap.size (some ⟨b, 0, none⟩) [1, 2] := fun _ => ⟨b, 0, rfl, hb, fun j hj => by
    rcases (show j = 0 ∨ j = 1 by simp at hj; omega) with rfl | rfl
    · exact h0
    · exact h1⟩
  exact Val_yes _ 2 [1, 2] w hsl (by decide) (by decide)

theorem Text_eg (w : World) : Calls Tryd.prog 25 #[.agg #[.int .i64 2, .int .i64 258]] w fun e w' => e = .returned (.string (str [60, 48, 49, 48, 50, 62])) ∧ Below w.heap.size w w' := by
  have h := Text_any 2 258 w
  have e : textL 2 258 = [60, 48, 49, 48, 50, 62] := by decide
  rw [e] at h
  exact h

set_option maxHeartbeats 1000000 in
theorem awake_any (w : World) (ht : Tab w) : Calls Tryd.prog 10 #[] w fun e w' => e = .returned (.bool true) ∧ Below w.heap.size w w' := by
  go_enter Tryd.func10, Tryd.ntmps10
  go_wp2_with fail
  refine (UnHex_eg _ ht).mono ?_
  rintro e w1 ⟨A, c, rfl, hc, hsl, hb1⟩
  go_wp2_with fail
  refine (Val_eg _ w1.heap.size (by simp) (by simp) (by simp)).mono ?_
  rintro e w2 ⟨rfl, hb2⟩
  have hz2 : w1.heap.size < w2.heap.size := by have := hb2.size; simp at this; omega
  have hsl2 : Sl (w2.alloc (.cells #[.int .i64 2, .int .i64 258] 33)) w1.heap.size A [74, 80] := ((hsl.alloc (Nat.le_refl _) _).below (hb2.mono (by simp))).alloc (by omega) _
  have hconv : (convert 22 9 (.slice A 2 c)).run Tryd.prog (w2.alloc (.cells #[.int .i64 2, .int .i64 258] 33)) = .ok (.string (str [74, 80])) (w2.alloc (.cells #[.int .i64 2, .int .i64 258] 33)) := run_str (P := Tryd.prog) hsl2 c 22 9 5 Tryd.underlying22 Tryd.underlying5 Tryd.underlying9
  go_wp2_with fail
  refine (Text_eg _).mono ?_
  rintro e w3 ⟨rfl, hb3⟩
  go_wp2
  go_ret
  refine ⟨rfl, ?_⟩
  have h1 : Below w.heap.size w w2 := (hb1.alloc hb1.size _).trans (hb2.mono (by have := hb1.size; simp; omega))
  exact (h1.alloc h1.size _).trans (hb3.mono (by have := h1.size; simp; omega))
end Go.Proofs.YtcnpegembccbmaaDoor
