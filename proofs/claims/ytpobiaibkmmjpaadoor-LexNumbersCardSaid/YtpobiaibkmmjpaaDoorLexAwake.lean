/-
  The head of every statement of layer 3: the document's examples.
-/
import Derived.Test.YtpobiaibkmmjpaaDoorLexSkip
import Derived.Test.YtpobiaibkmmjpaaDoorLexWord
import Derived.Test.YtpobiaibkmmjpaaDoorLexInt
import Derived.Test.YtpobiaibkmmjpaaDoorLexWrite
namespace Go.Proofs.YtpobiaibkmmjpaaDoor
open Go.RowKit

theorem Int_eg (w : World) : Calls Tryd.prog 13 #[.string (ByteArray.mk #[45, 48, 55])] w fun e w' => e = .returned (.tuple #[.int .i64 (-7), .int .i64 0]) ∧ Below w.heap.size w w' := by
  have e1 : inN [45, 48, 55] = -7 := by decide
  have e2 : inE [45, 48, 55] = 0 := by decide
  have := Int_any [45, 48, 55] w (by decide)
  rw [e1, e2] at this
  exact this
theorem Word_eg (w : World) (ht : Tab w) : Calls Tryd.prog 11 #[.string (ByteArray.mk #[97, 98, 47, 99]), .int .i64 0] w fun e w' => e = .returned (.tuple #[.string (str [97, 98]), .int .i64 2]) ∧ w = w' := by
  have e1 : wdL [97, 98, 47, 99] 0 = [97, 98] := by decide
  have e2 : wdN [97, 98, 47, 99] 0 = 2 := by decide
  have := Word_any [97, 98, 47, 99] 0 w ht (by decide)
  rw [e1, e2] at this
  exact this
theorem Skip_eg (w : World) (ht : Tab w) : Calls Tryd.prog 17 #[.string (ByteArray.mk #[32, 37, 32, 97, 10, 32, 98]), .int .i64 0] w fun e w' => e = .returned (.int .i64 6) ∧ Below w.heap.size w w' := by
  have e1 : skN [32, 37, 32, 97, 10, 32, 98] 0 = 6 := by decide
  have := Skip_any [32, 37, 32, 97, 10, 32, 98] 0 w ht (by decide)
  rw [e1] at this
  exact this
theorem Name_eg (w : World) (ht : Tab w) : Calls Tryd.prog 19 #[.string (ByteArray.mk #[97, 35, 50, 48, 98])] w fun e w' => e = .returned (.string (str [97, 32, 98])) ∧ Below w.heap.size w w' := by
  have e1 : nameL [97, 35, 50, 48, 98] = [97, 32, 98] := by
    rw [nameL_none (by decide), nameL_some (show esc [35, 50, 48, 98] = some 32 by decide), show ([50, 48, 98] : List UInt8).drop 2 = [98] from rfl, nameL_none (by decide), nameL_nil]
  have := Name_any [97, 35, 50, 48, 98] w ht (by decide)
  rw [e1] at this
  exact this
theorem Write_eg (w : World) (ht : Tab w) : Calls Tryd.prog 21 #[.string (ByteArray.mk #[97, 32, 98])] w fun e w' => e = .returned (.string (str [97, 35, 50, 48, 98])) ∧ Below w.heap.size w w' := by
  have e1 : wrL [97, 32, 98] = [97, 35, 50, 48, 98] := by decide
  have := Write_any [97, 32, 98] w ht (by decide)
  rw [e1] at this
  exact this
theorem Class_eg (w : World) (ht : Tab w) : Calls Tryd.prog 15 #[.int .i64 37] w fun e w' => e = .returned (.int .i64 2) ∧ w = w' := by
  have e1 : cls 37 = 2 := by decide
  have := Class_any 37 w ht
  rw [e1] at this
  exact this

set_option maxHeartbeats 1000000 in
theorem awake_any (w : World) (ht : Tab w) : Calls Tryd.prog 10 #[] w fun e w' => e = .returned (.bool true) ∧ Below w.heap.size w w' := by
  go_enter Tryd.func10, Tryd.ntmps10
  go_wp2_with fail
  refine (Int_eg _).mono ?_
  rintro e w1 ⟨rfl, hb1⟩
  have ht1 := ht.below' hb1
  go_wp2_with fail
  refine (Word_eg _ ht1).mono ?_
  rintro e w1' ⟨rfl, rfl⟩
  go_wp2_with fail
  refine (Skip_eg _ ht1).mono ?_
  rintro e w2 ⟨rfl, hb2⟩
  have ht2 := ht1.below' hb2
  have hb2' := hb1.trans (hb2.mono hb1.size)
  go_wp2_with fail
  refine (Name_eg _ ht2).mono ?_
  rintro e w3 ⟨rfl, hb3⟩
  have ht3 := ht2.below' hb3
  have hb3' := hb2'.trans (hb3.mono hb2'.size)
  go_wp2_with fail
  refine (Write_eg _ ht3).mono ?_
  rintro e w4 ⟨rfl, hb4⟩
  have ht4 := ht3.below' hb4
  have hb4' := hb3'.trans (hb4.mono hb3'.size)
  go_wp2_with fail
  refine (Class_eg _ ht4).mono ?_
  rintro e w4' ⟨rfl, rfl⟩
  go_wp2
  go_ret
  exact ⟨rfl, hb4'⟩
end Go.Proofs.YtpobiaibkmmjpaaDoor
