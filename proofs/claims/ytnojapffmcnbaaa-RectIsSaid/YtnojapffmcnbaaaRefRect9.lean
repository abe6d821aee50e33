/-
  The document's own Nth, where there is none.
-/
import Derived.Test.YtnojapffmcnbaaaRefRect7
namespace Go.Proofs.Ytnojapffmcnbaaa
open Go.RowKit

set_option maxRecDepth 100000 in
set_option maxHeartbeats 1000000 in
theorem rNth_no (r : Rc) (k : Int) (w : World) (hk : k < 0 ∨ (sizeR r : Int) ≤ k) :
    Calls Try.prog 12 #[.agg #[.int .i64 r.n, .int .i64 r.lo, .int .i64 r.hi], .int .i64 k] w fun e w' => e = .returned (.tuple #[.agg #[.int .i64 0, .int .i64 0], .bool false]) ∧ Below w.heap.size w w' := by
  by_cases h0 : k < 0
  · have t0 : decide (k < 0) = true := decide_eq_true h0
    clear h0 hk
    go_enter Try.func12, Try.ntmps12
    go_wp2
    go_returns
    exact ⟨rfl, (((Below.refl _ _).alloc (Nat.le_refl _) _).alloc (by simp) _)⟩
  · have t0 : decide (k < 0) = false := decide_eq_false h0
    have t1 : decide ((sizeR r : Int) ≤ k) = true := decide_eq_true (by omega)
    have k1 := rSize_any r
    generalize (sizeR r : Int) = Z at *
    have K1 := Lib.hid k1
    clear h0 hk k1
    go_enter Try.func12, Try.ntmps12
    go_wp2_with fail
    refine (K1.out _).mono ?_
    rintro e w1 ⟨rfl, hb1⟩
    have b1 : Below w.heap.size w w1 := (((Below.refl _ _).alloc (Nat.le_refl _) _).alloc (by simp) _).trans (hb1.mono (by simp; omega))
    have r1 : Rs w1 (w.heap.size + 1) := (Rs.mk (by simp) (by simp) (by simp) (by simp)).below hb1 (by simp)
    clear hb1
    obtain ⟨g0, g1⟩ := r1.set (.int .i64 0) (.int .i64 0)
    have hbE : Below w.heap.size w ((w1.setCell ⟨w.heap.size + 1, 0, none⟩ (.int .i64 0)).setCell ⟨w.heap.size + 1, 1, none⟩ (.int .i64 0)) := (b1.setCell (by simp) _).setCell (by simp) _
    obtain ⟨q0, q1, q2, q3⟩ := r1
    go_wp2
    clear q0 q1 q2 q3 b1
    generalize (w1.setCell ⟨w.heap.size + 1, 0, none⟩ (.int .i64 0)).setCell ⟨w.heap.size + 1, 1, none⟩ (.int .i64 0) = W at *
    refine bodyPost_ret (v := _) (by simp [results, Try.results12, go_sem, g0, g1]; try rfl) rfl ?_
    exact ⟨rfl, hbE⟩
end Go.Proofs.Ytnojapffmcnbaaa
