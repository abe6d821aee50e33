/-
  The document's example is as it says.
-/
import Derived.Test.YtnojapffmcnbaaaRectCanF
namespace Go.Proofs.Ytnojapffmcnbaaa
open Go.RowKit

/-- The example's codespace. -/
def exR : Rc := ⟨2, 33088, 40956⟩
theorem ex1 : inC exR 2 34128 = true := by decide +kernel
theorem ex2 : inC exR 2 34080 = false := by decide +kernel
theorem ex3 : sizeR exR = 5859 := by decide +kernel
theorem ex4 : saneR exR = true := by decide +kernel
theorem ex5 : canL saneR hoC ltC [exR, exR] = [exR] := by decide +kernel
set_option maxHeartbeats 4000000 in
theorem awake_any (w : World) : Calls Try.prog 10 #[] w fun e w' => e = .returned (.bool true) ∧ Below w.heap.size w w' := by
  have k1 := In_any exR 2 34128
  have k2 := In_any exR 2 34080
  have k3 := Size_any exR
  have k4 := rcSane_any exR
  rw [ex1] at k1
  rw [ex2] at k2
  rw [ex3] at k3
  rw [ex4] at k4
  have K1 := Lib.hid k1
  have K2 := Lib.hid k2
  have K3 := Lib.hid k3
  have K4 := Lib.hid k4
  clear k1 k2 k3 k4
  go_enter Try.func10, Try.ntmps10
  go_wp2_with fail
  refine (K1.out _).mono ?_
  rintro e w1 ⟨rfl, hb1⟩
  have x1 : Bx w1 w.heap.size exR := (Bx.new w exR 23).below hb1 (by simp)
  have z1 : w.heap.size < w1.heap.size := by have := hb1.size; simp at this; omega
  have b1 : Below w.heap.size w w1 := ((Below.refl _ _).alloc (Nat.le_refl _) _).trans (hb1.mono (by simp))
  clear hb1
  obtain ⟨y0, y1, y2⟩ := id x1
  go_wp2_with fail
  refine (K2.out _).mono ?_
  rintro e w2 ⟨rfl, hb2⟩
  have x2 := x1.below hb2 z1
  have b2 := b1.trans (hb2.mono b1.size)
  have z2 := Nat.lt_of_lt_of_le z1 hb2.size
  clear y0 y1 y2 hb2 x1 z1 b1
  obtain ⟨y0, y1, y2⟩ := id x2
  go_wp2_with fail
  refine (K3.out _).mono ?_
  rintro e w3 ⟨rfl, hb3⟩
  have x3 := x2.below hb3 z2
  have b3 := b2.trans (hb3.mono b2.size)
  have z3 := Nat.lt_of_lt_of_le z2 hb3.size
  clear y0 y1 y2 hb3 x2 z2 b2
  obtain ⟨y0, y1, y2⟩ := id x3
  go_wp2_with fail
  refine (K4.out _).mono ?_
  rintro e w4 ⟨rfl, hb4⟩
  have x4 := x3.below hb4 z3
  have b4 := b3.trans (hb4.mono b3.size)
  clear y0 y1 y2 hb4 x3 z3 b3
  obtain ⟨y0, y1, y2⟩ := id x4
  go_wp2_with fail
  have hsr : ∀ (O : Obj) t, O = .cells #[.int .i64 exR.n, .int .i64 exR.lo, .int .i64 exR.hi, .int .i64 exR.n, .int .i64 exR.lo, .int .i64 exR.hi] t → Sr (w4.alloc O) (w4.alloc O).heap.size (some ⟨w4.heap.size, 0, none⟩) [exR, exR] := fun O t hO _ => by
    subst hO
    refine ⟨w4.heap.size, 0, rfl, by simp, fun j x hx => ?_⟩
    have key := World.news_of_block (heap_alloc_new w4 (.cells (rvs [exR, exR]).toArray t))
    have hj : j < 2 := by have := (List.getElem?_eq_some_iff.1 hx).1; simpa using this
    have g : ∀ i u, i < 3 → (rq x)[i]? = some u → (w4.alloc (.cells (rvs [exR, exR]).toArray t)).cell? ⟨w4.heap.size, 0 + j * 3 + i, none⟩ = some u := fun i u hi hu => by
      have := key (j * 3 + i) u (by simpa using (rvs_get [exR, exR] j i x hx hi).trans hu)
      rwa [addr_add, ← Nat.add_assoc] at this
    exact ⟨g 0 _ (by omega) rfl, g 1 _ (by omega) rfl, g 2 _ (by omega) rfl⟩
  have hb5 : Below w.heap.size w (w4.alloc (.cells #[.int .i64 exR.n, .int .i64 exR.lo, .int .i64 exR.hi, .int .i64 exR.n, .int .i64 exR.lo, .int .i64 exR.hi] 23)) := b4.alloc b4.size _
  refine (Canon_any (some ⟨w4.heap.size, 0, none⟩) 2 [exR, exR] _ (hsr _ _ rfl) (by simp)).mono ?_
  rintro e w5 ⟨m, hm, _, A, c, rfl, _, _, hb6⟩
  have em : m = [exR] := (hm.unique hol (canL_cnn hol [exR, exR])).trans ex5
  subst em
  have bE := hb5.trans (hb6.mono hb5.size)
  clear hsr hm hb6 hb5 y0 y1 y2 x4 b4
  go_wp2
  go_ret
  exact ⟨rfl, bE⟩
end Go.Proofs.Ytnojapffmcnbaaa
