/-
  The walk of the statement RectSub.
-/
import Derived.Test.YtnojapffmcnbaaaRectAwake
import Derived.Deep.RegionHeld
import Derived.Deep.DrawnRows
namespace Go.Proofs.Ytnojapffmcnbaaa
open Go.RowKit
attribute [local go_sem ↓] Go.wp_at_zero Go.wp_at_succ

theorem i64_mask32 (n : Int) : bits .and .i64 n 4294967295 = n % 4294967296 := by
  have h127 : (BitVec.ofInt 64 4294967295).toNat = 2 ^ 32 - 1 := by decide
  have key : (BitVec.ofInt 64 n &&& BitVec.ofInt 64 4294967295).toNat = (n % ((2 ^ 64 : Nat) : Int)).toNat % 2 ^ 32 := by
    rw [BitVec.toNat_and, BitVec.toNat_ofInt, h127, Nat.and_two_pow_sub_one_eq_mod]
  show IntKind.i64.wrap ((BitVec.ofInt 64 n &&& BitVec.ofInt 64 4294967295).toNat : Nat) = n % 4294967296
  rw [key, IntKind.wrap_i64]
  omega
theorem hoC_refl (a : Rc) : hoC a a = saneR a := by
  cases h : saneR a with
  | true => exact hol.refl a h
  | false => unfold hoC; rw [h]; rfl
set_option maxRecDepth 100000 in
set_option maxHeartbeats 4000000 in
theorem sub_walk (a b : Rc) (k : Int) (w : World) :
    Calls Try.prog 8 #[.agg #[.int .i64 a.n, .int .i64 a.lo, .int .i64 a.hi], .agg #[.int .i64 b.n, .int .i64 b.lo, .int .i64 b.hi], .int .i64 k] w fun e w' => e = .returned (.bool true) ∧ Below w.heap.size w w' := by
  have k1 := Holds_any a a
  rw [hoC_refl] at k1
  have k2 := rcSane_any a
  have k3 := Holds_any a b
  generalize hsa : saneR a = sa at *
  have K1 := Lib.hid k1
  have K2 := Lib.hid k2
  have K3 := Lib.hid k3
  clear k1 k2 k3 hsa
  have ts : (sa != sa) = false := by cases sa <;> rfl
  go_enter Try.func8, Try.ntmps8
  go_wp2_with fail
  refine (awake_any _).mono ?_
  rintro e w1 ⟨rfl, hb1⟩
  have z1 : w.heap.size + 1 < w1.heap.size := by have := hb1.size; simp at this; omega
  have x1 : Bx w1 w.heap.size a := (Bx.mk (by simp) (by simp) (by simp)).below hb1 (by simp; omega)
  have v1 : Bx w1 (w.heap.size + 1) b := (Bx.mk (by simp) (by simp) (by simp)).below hb1 (by simp)
  have b1 : Below w.heap.size w w1 := (((Below.refl _ _).alloc (Nat.le_refl _) _).alloc (by simp) _).trans (hb1.mono (by simp; omega))
  clear hb1
  obtain ⟨y0, y1, y2⟩ := id x1
  go_wp2_with fail
  have hS1 : ∀ w', Below w1.heap.size w1 w' → w'.cell? ⟨w.heap.size, 0, none⟩ = some (.int .i64 a.n) ∧ w'.cell? ⟨w.heap.size, 1, none⟩ = some (.int .i64 a.lo) ∧ w'.cell? ⟨w.heap.size, 2, none⟩ = some (.int .i64 a.hi) := fun w' h => by
    have g := x1.below h (by omega)
    exact ⟨g.c0, g.c1, g.c2⟩
  have H1 := Lib.hid hS1
  have z0 : Below w1.heap.size w1 w1.drew := (Below.refl _ _).drew
  clear hS1 y0 y1 y2
  go_region_held (fun w' => w'.cell? ⟨w.heap.size, 0, none⟩ = some (.int .i64 a.n) ∧ w'.cell? ⟨w.heap.size, 1, none⟩ = some (.int .i64 a.lo) ∧ w'.cell? ⟨w.heap.size, 2, none⟩ = some (.int .i64 a.hi))
    (first | with_reducible exact H1.out _ q2 | with_reducible exact H1.out _ q1 | with_reducible exact H1.out _ z0)
    (first
      | (go_at_call 21; with_reducible refine (K1.out _).mono ?_; rintro e u1 ⟨rfl, g1⟩; have q1 := z0.trans (g1.mono z0.size))
      | (go_at_call 13; with_reducible refine (K2.out _).mono ?_; rintro e u2 ⟨rfl, g2⟩; have q2 := q1.trans (g2.mono q1.size)))
  have x2 := x1.below q2 (by omega)
  have v2 := v1.below q2 (by omega)
  have b2 := b1.trans (q2.mono b1.size)
  have z2 : w.heap.size + 1 < u2.heap.size := Nat.lt_of_lt_of_le z1 q2.size
  clear g1 g2 q1 q2 z0 H1 x1 v1 z1 b1
  obtain ⟨y0, y1, y2⟩ := id x2
  obtain ⟨y3, y4, y5⟩ := id v2
  cases hh : hoC a b with
  | false =>
    rw [hh] at K3
    go_wp2_with fail
    refine (K3.out _).mono ?_
    rintro e w3 ⟨rfl, hb3⟩
    clear y0 y1 y2 y3 y4 y5
    go_wp2
    go_ret
    exact ⟨rfl, b2.trans (hb3.mono b2.size)⟩
  | true =>
    rw [hh] at K3
    have hsz := sizeR_held hh
    have hsb := ((hoC_iff a b).1 hh).2.1
    have hsl := sizeR_le b
    have hsl2 := sizeR_le a
    have k4 := Size_any b
    have k5 := Size_any a
    have hin := nthC_in hsb
    obtain ⟨i, hi⟩ : ∃ i : Nat, (i : Int) = k % 4294967296 % (sizeR b : Int) := ⟨(k % 4294967296 % (sizeR b : Int)).toNat, by have := Int.emod_nonneg (k % 4294967296) (b := (sizeR b : Int)) (by omega); omega⟩
    have hi2 : i < sizeR b := by have := Int.emod_lt_of_pos (k % 4294967296) (b := (sizeR b : Int)) (by omega); omega
    have k6 := fun W => Nth_yes b i W hsb hi2
    have i1 := hin i
    have i2 := inC_held hh i1
    have k7 := In_any b b.n (nthC b i)
    have k8 := In_any a b.n (nthC b i)
    rw [i1] at k7
    rw [i2] at k8
    generalize nthC b i = V at *
    have HI := Lib.hid hi
    have tm : bits .and .i64 k 4294967295 = k % 4294967296 := i64_mask32 k
    generalize hm : k % 4294967296 = kk at *
    have hk0 : 0 ≤ kk ∧ kk < 4294967296 := by omega
    obtain ⟨hk0, hk1⟩ := hk0
    generalize hS : sizeR b = S at *
    generalize hT : sizeR a = T at *
    obtain ⟨s1, s2⟩ := hsz
    have t1 : decide ((S : Int) < 1) = false := decide_eq_false (by omega)
    have t2 : decide (S ≤ T) = true := decide_eq_true s2
    have hr : kk % (S : Int) = (i : Int) := HI.out.symm
    have K4 := Lib.hid k4
    have K5 := Lib.hid k5
    have K6 := Lib.hid k6
    have K7 := Lib.hid k7
    have K8 := Lib.hid k8
    clear k4 k5 k6 k7 k8 hin i1 i2 hi hm hS hT hsb hh
    go_wp2_with fail
    refine (K3.out _).mono ?_
    rintro e w3 ⟨rfl, hb3⟩
    have x3 := x2.below hb3 (by omega)
    have v3 := v2.below hb3 z2
    have b3 := b2.trans (hb3.mono b2.size)
    have z3 := Nat.lt_of_lt_of_le z2 hb3.size
    clear y0 y1 y2 y3 y4 y5 hb3 x2 v2 z2 b2
    obtain ⟨y3, y4, y5⟩ := id v3
    go_wp2_with fail
    refine (K4.out _).mono ?_
    rintro e w4 ⟨rfl, hb4⟩
    have x4 := x3.below hb4 (by omega)
    have v4 := v3.below hb4 z3
    have b4 := b3.trans (hb4.mono b3.size)
    have z4 := Nat.lt_of_lt_of_le z3 hb4.size
    clear y3 y4 y5 hb4 x3 v3 z3 b3
    obtain ⟨y3, y4, y5⟩ := id v4
    go_wp2_with fail
    have hS1 : ∀ w', Below w4.heap.size w4 w' → w'.cell? ⟨w.heap.size + 1, 0, none⟩ = some (.int .i64 b.n) ∧ w'.cell? ⟨w.heap.size + 1, 1, none⟩ = some (.int .i64 b.lo) ∧ w'.cell? ⟨w.heap.size + 1, 2, none⟩ = some (.int .i64 b.hi) := fun w' h => by
      have g := v4.below h z4
      exact ⟨g.c0, g.c1, g.c2⟩
    have H1 := Lib.hid hS1
    have z0 : Below w4.heap.size w4 w4.drew := (Below.refl _ _).drew
    have zA : Below w4.heap.size w4 (w4.alloc (.cells #[.int .i64 0, .int .i64 0] 25)).drew := ((Below.refl _ _).alloc (Nat.le_refl _) _).drew
    have rsA : Rs (w4.alloc (.cells #[.int .i64 0, .int .i64 0] 25)).drew w4.heap.size := ⟨by simp, by simp, by simp, by simp⟩
    clear hS1 y3 y4 y5
    go_region_held (fun w' => w'.cell? ⟨w.heap.size + 1, 0, none⟩ = some (.int .i64 b.n) ∧ w'.cell? ⟨w.heap.size + 1, 1, none⟩ = some (.int .i64 b.lo) ∧ w'.cell? ⟨w.heap.size + 1, 2, none⟩ = some (.int .i64 b.hi))
      (first | with_reducible exact H1.out _ q1 | with_reducible exact H1.out _ z0 | with_reducible exact H1.out _ zA | with_reducible exact H1.out _ (q1.alloc q1.size _) | with_reducible exact H1.out _ (q1.setCell (Nat.le_refl _) _) | with_reducible exact H1.out _ ((q1.setCell (Nat.le_refl _) _).setCell (Nat.le_refl _) _))
      (first
        | (go_at_call 11; with_reducible refine (K6.out _).mono ?_; rintro e u1 ⟨rfl, g1⟩; have q1 : Below w4.heap.size w4 u1 := z0.trans (g1.mono z0.size))
        | (go_at_call 11; with_reducible refine (K6.out _).mono ?_; rintro e u1 ⟨rfl, g1⟩; have q1 : Below w4.heap.size w4 u1 := zA.trans (g1.mono (by simp)); have cc : Rs u1 w4.heap.size := rsA.below g1 (by simp); obtain ⟨cc0, cc1, cc2, cc3⟩ := id cc))
    · obtain ⟨bQ, cQ, pQ⟩ : Below w4.heap.size w4 (u1.alloc (.cells #[.int .i64 b.n, .int .i64 V] 25)) ∧ Bc2 (u1.alloc (.cells #[.int .i64 b.n, .int .i64 V] 25)) u1.heap.size b.n V ∧ u1.heap.size < (u1.alloc (.cells #[.int .i64 b.n, .int .i64 V] 25)).heap.size := ⟨q1.alloc q1.size _, ⟨by simp, by simp⟩, by simp⟩
      generalize u1.alloc (.cells #[.int .i64 b.n, .int .i64 V] 25) = W at *
      generalize u1.heap.size = P at cQ pQ ⊢
      have x5 := x4.below bQ (by omega)
      have v5 := v4.below bQ (by omega)
      have b5 := b4.trans (bQ.mono b4.size)
      have z5 := Nat.lt_of_lt_of_le z4 bQ.size
      clear bQ g1 q1 zA rsA z0 H1
      obtain ⟨y3, y4, y5⟩ := id v5
      obtain ⟨y6, y7⟩ := id cQ
      go_wp2_with fail
      refine (K7.out _).mono ?_
      rintro e w6 ⟨rfl, hb6⟩
      have x6 := x5.below hb6 (by omega)
      have c6 := cQ.below hb6 pQ
      have b6 := b5.trans (hb6.mono b5.size)
      have z6 := Nat.lt_of_lt_of_le z5 hb6.size
      clear y3 y4 y5 y6 y7 hb6 x5 v5 z5 b5 cQ
      obtain ⟨y0, y1, y2⟩ := id x6
      obtain ⟨y6, y7⟩ := id c6
      go_wp2_with fail
      refine (K8.out _).mono ?_
      rintro e w7 ⟨rfl, hb7⟩
      have x7 := x6.below hb7 (by omega)
      have b7 := b6.trans (hb7.mono b6.size)
      clear y0 y1 y2 y6 y7 hb7 x6 z6 b6 c6
      obtain ⟨y0, y1, y2⟩ := id x7
      go_wp2_with fail
      refine (K5.out _).mono ?_
      rintro e w8 ⟨rfl, hb8⟩
      clear y0 y1 y2
      go_wp2
      go_ret
      exact ⟨rfl, b7.trans (hb8.mono b7.size)⟩
    all_goals
      obtain ⟨bQ, cQ, pQ⟩ : Below w4.heap.size w4 ((u1.setCell ⟨w4.heap.size, 0, none⟩ (.int .i64 b.n)).setCell ⟨w4.heap.size, 1, none⟩ (.int .i64 V)) ∧ Bc2 ((u1.setCell ⟨w4.heap.size, 0, none⟩ (.int .i64 b.n)).setCell ⟨w4.heap.size, 1, none⟩ (.int .i64 V)) w4.heap.size b.n V ∧ w4.heap.size < ((u1.setCell ⟨w4.heap.size, 0, none⟩ (.int .i64 b.n)).setCell ⟨w4.heap.size, 1, none⟩ (.int .i64 V)).heap.size := ⟨(q1.setCell (Nat.le_refl _) _).setCell (Nat.le_refl _) _, ⟨(cc.set _ _).1, (cc.set _ _).2⟩, by have := g1.size; simp at this; simp; omega⟩
      clear cc0 cc1 cc2 cc3 cc
      generalize (u1.setCell ⟨w4.heap.size, 0, none⟩ (.int .i64 b.n)).setCell ⟨w4.heap.size, 1, none⟩ (.int .i64 V) = W at *
      generalize w4.heap.size = P at cQ pQ ⊢
      have x5 := x4.below bQ (by omega)
      have v5 := v4.below bQ (by omega)
      have b5 := b4.trans (bQ.mono b4.size)
      have z5 := Nat.lt_of_lt_of_le z4 bQ.size
      clear bQ g1 q1 zA rsA z0 H1
      obtain ⟨y3, y4, y5⟩ := id v5
      obtain ⟨y6, y7⟩ := id cQ
      go_wp2_with fail
      refine (K7.out _).mono ?_
      rintro e w6 ⟨rfl, hb6⟩
      have x6 := x5.below hb6 (by omega)
      have c6 := cQ.below hb6 pQ
      have b6 := b5.trans (hb6.mono b5.size)
      have z6 := Nat.lt_of_lt_of_le z5 hb6.size
      clear y3 y4 y5 y6 y7 hb6 x5 v5 z5 b5 cQ
      obtain ⟨y0, y1, y2⟩ := id x6
      obtain ⟨y6, y7⟩ := id c6
      go_wp2_with fail
      refine (K8.out _).mono ?_
      rintro e w7 ⟨rfl, hb7⟩
      have x7 := x6.below hb7 (by omega)
      have b7 := b6.trans (hb7.mono b6.size)
      clear y0 y1 y2 y6 y7 hb7 x6 z6 b6 c6
      obtain ⟨y0, y1, y2⟩ := id x7
      go_wp2_with fail
      refine (K5.out _).mono ?_
      rintro e w8 ⟨rfl, hb8⟩
      clear y0 y1 y2
      go_wp2
      go_ret
      exact ⟨rfl, b7.trans (hb8.mono b7.size)⟩
end Go.Proofs.Ytnojapffmcnbaaa
