/-
  The walk of the statement HexValues, both ways.
-/
import Derived.Test.YtcnpegembccbmaaDoorHexValues
namespace Go.Proofs.YtcnpegembccbmaaDoor
open Go.RowKit
theorem values_walk (n m p q : Int) (w : World) (ht : Tab w) :
    Calls Tryd.prog 6 #[.agg #[.int .i64 n, .int .i64 m], .agg #[.int .i64 p, .int .i64 q]] w fun e w' => e = .returned (.bool true) ∧ Below w.heap.size w w' := by
  cases hs : saneB n m
  · exact values_no n m p q w ht hs
  · exact values_yes n m p q w ht hs
end Go.Proofs.YtcnpegembccbmaaDoor
