/-
  The program's own In and Holds, whatever they are given.
-/
import Derived.Test.YtnojapffmcnbaaaRectPro2
namespace Go.Proofs.Ytnojapffmcnbaaa
open Go.RowKit Go.Sort

set_option maxHeartbeats 2000000 in
theorem In_any (r : Rc) (n v : Int) (w : World) :
    Calls Try.prog 15 #[.agg #[.int .i64 r.n, .int .i64 r.lo, .int .i64 r.hi], .agg #[.int .i64 n, .int .i64 v]] w fun e w' => e = .returned (.bool (inC r n v)) ∧ Below w.heap.size w w' := by
  have k1 := rcSane_any r
  have k2 := Sane_any n v
  by_cases hs : saneR r = true
  · by_cases hv : saneB n v = true
    · by_cases hn : n = r.n
      · subst hn
        exact In_yes r v w hs hv
      · have hi : inC r n v = false := by unfold inC; rw [decide_eq_false hn]; simp
        have t0 : (n != r.n) = true := by simpa using hn
        rw [hi]
        rw [hs] at k1
        rw [hv] at k2
        have K1 := Lib.hid k1
        have K2 := Lib.hid k2
        clear k1 k2 hs hv hi hn
        go_enter Try.func15, Try.ntmps15
        go_wp2_with fail
        refine (K1.out _).mono ?_
        rintro e w1 ⟨rfl, hb1⟩
        have z1 : w.heap.size + 1 < w1.heap.size := by have := hb1.size; simp at this; omega
        have x1 : Bx w1 w.heap.size r := (Bx.mk (by simp) (by simp) (by simp)).below hb1 (by simp; omega)
        have v1 : Bc2 w1 (w.heap.size + 1) n v := (Bc2.mk (by simp) (by simp)).below hb1 (by simp)
        have b1 : Below w.heap.size w w1 := (((Below.refl _ _).alloc (Nat.le_refl _) _).alloc (by simp) _).trans (hb1.mono (by simp; omega))
        clear hb1
        obtain ⟨y0, y1, y2⟩ := id x1
        obtain ⟨u0, u1⟩ := id v1
        go_wp2_with fail
        refine (K2.out _).mono ?_
        rintro e w2 ⟨rfl, hb2⟩
        have x2 := x1.below hb2 (by omega)
        have v2 := v1.below hb2 (by omega)
        have b2 := b1.trans (hb2.mono (by omega))
        clear y0 y1 y2 u0 u1 x1 v1 hb2
        obtain ⟨y0, y1, y2⟩ := id x2
        obtain ⟨u0, u1⟩ := id v2
        go_wp2
        go_ret
        exact ⟨rfl, b2⟩
    · have hv' : saneB n v = false := by simpa using hv
      have hi : inC r n v = false := by unfold inC; rw [hv']; simp
      rw [hi]
      rw [hs] at k1
      rw [hv'] at k2
      have K1 := Lib.hid k1
      have K2 := Lib.hid k2
      clear k1 k2 hs hv hv' hi
      go_enter Try.func15, Try.ntmps15
      go_wp2_with fail
      refine (K1.out _).mono ?_
      rintro e w1 ⟨rfl, hb1⟩
      have z1 : w.heap.size + 1 < w1.heap.size := by have := hb1.size; simp at this; omega
      have v1 : Bc2 w1 (w.heap.size + 1) n v := (Bc2.mk (by simp) (by simp)).below hb1 (by simp)
      have b1 : Below w.heap.size w w1 := (((Below.refl _ _).alloc (Nat.le_refl _) _).alloc (by simp) _).trans (hb1.mono (by simp; omega))
      clear hb1
      obtain ⟨u0, u1⟩ := id v1
      go_wp2_with fail
      refine (K2.out _).mono ?_
      rintro e w2 ⟨rfl, hb2⟩
      go_wp2
      go_ret
      exact ⟨rfl, b1.trans (hb2.mono (by omega))⟩
  · have hs' : saneR r = false := by simpa using hs
    have hi : inC r n v = false := by unfold inC; rw [hs']; simp
    rw [hi]
    rw [hs'] at k1
    have K1 := Lib.hid k1
    clear k1 k2 hs hs' hi
    go_enter Try.func15, Try.ntmps15
    go_wp2_with fail
    refine (K1.out _).mono ?_
    rintro e w1 ⟨rfl, hb1⟩
    go_wp2
    go_ret
    exact ⟨rfl, (((Below.refl _ _).alloc (Nat.le_refl _) _).alloc (by simp) _).trans (hb1.mono (by simp; omega))⟩
set_option maxHeartbeats 2000000 in
theorem Holds_any (a b : Rc) (w : World) :
    Calls Try.prog 21 #[.agg #[.int .i64 a.n, .int .i64 a.lo, .int .i64 a.hi], .agg #[.int .i64 b.n, .int .i64 b.lo, .int .i64 b.hi]] w fun e w' => e = .returned (.bool (hoC a b)) ∧ Below w.heap.size w w' := by
  rw [hoC_by]
  have k1 := rcSane_any b
  have k2 := In_any a b.n b.lo
  have k3 := In_any a b.n b.hi
  generalize saneR b = s at *
  generalize inC a b.n b.lo = i1 at *
  generalize inC a b.n b.hi = i2 at *
  have K1 := Lib.hid k1
  have K2 := Lib.hid k2
  have K3 := Lib.hid k3
  clear k1 k2 k3
  cases s with
  | false =>
    go_enter Try.func21, Try.ntmps21
    go_wp2_with fail
    refine (K1.out _).mono ?_
    rintro e w1 ⟨rfl, hb1⟩
    go_wp2
    go_ret
    exact ⟨rfl, (((Below.refl _ _).alloc (Nat.le_refl _) _).alloc (by simp) _).trans (hb1.mono (by simp; omega))⟩
  | true =>
    go_enter Try.func21, Try.ntmps21
    go_wp2_with fail
    refine (K1.out _).mono ?_
    rintro e w1 ⟨rfl, hb1⟩
    have z1 : w.heap.size + 1 < w1.heap.size := by have := hb1.size; simp at this; omega
    have x1 : Bx w1 w.heap.size a := (Bx.mk (by simp) (by simp) (by simp)).below hb1 (by simp; omega)
    have v1 : Bx w1 (w.heap.size + 1) b := (Bx.mk (by simp) (by simp) (by simp)).below hb1 (by simp)
    have b1 : Below w.heap.size w w1 := (((Below.refl _ _).alloc (Nat.le_refl _) _).alloc (by simp) _).trans (hb1.mono (by simp; omega))
    clear hb1
    obtain ⟨y0, y1, y2⟩ := id x1
    obtain ⟨u0, u1, u2⟩ := id v1
    go_wp2_with fail
    refine (K2.out _).mono ?_
    rintro e w2 ⟨rfl, hb2⟩
    have x2 := x1.below hb2 (by omega)
    have v2 := v1.below hb2 (by omega)
    have b2 := b1.trans (hb2.mono (by omega))
    have z2 : w.heap.size + 1 < w2.heap.size := Nat.lt_of_lt_of_le z1 hb2.size
    clear y0 y1 y2 u0 u1 u2 x1 v1 hb2
    cases i1 with
    | false =>
      go_wp2
      go_ret
      exact ⟨rfl, b2⟩
    | true =>
      obtain ⟨y0, y1, y2⟩ := id x2
      obtain ⟨u0, u1, u2⟩ := id v2
      go_wp2_with fail
      refine (K3.out _).mono ?_
      rintro e w3 ⟨rfl, hb3⟩
      go_wp2
      go_ret
      exact ⟨rfl, b2.trans (hb3.mono (by omega))⟩
end Go.Proofs.Ytnojapffmcnbaaa
