/-
  The walk of the statement RectIs.
-/
import Derived.Test.YtnojapffmcnbaaaRefRect8
import Derived.Test.YtnojapffmcnbaaaRefRect10
import Derived.Deep.RegionHeld
import Derived.Deep.DrawnRows
namespace Go.Proofs.Ytnojapffmcnbaaa
open Go.RowKit
attribute [local go_sem ↓] Go.wp_at_zero Go.wp_at_succ

theorem start3 {w w1 : World} {r p : Rc} {cn cv : Int} (hb1 : Below (((w.alloc (.cells #[.int .i64 r.n, .int .i64 r.lo, .int .i64 r.hi] 23)).alloc (.cells #[.int .i64 p.n, .int .i64 p.lo, .int .i64 p.hi] 23)).alloc (.cells #[.int .i64 cn, .int .i64 cv] 25)).heap.size (((w.alloc (.cells #[.int .i64 r.n, .int .i64 r.lo, .int .i64 r.hi] 23)).alloc (.cells #[.int .i64 p.n, .int .i64 p.lo, .int .i64 p.hi] 23)).alloc (.cells #[.int .i64 cn, .int .i64 cv] 25)) w1) : Below w.heap.size w w1 ∧ Bx w1 w.heap.size r ∧ Bx w1 (w.heap.size + 1) p ∧ Bc2 w1 (w.heap.size + 1 + 1) cn cv ∧ w.heap.size + 1 + 1 < w1.heap.size := by
  have s1 : (w.alloc (.cells #[.int .i64 r.n, .int .i64 r.lo, .int .i64 r.hi] 23)).heap.size = w.heap.size + 1 := by simp
  have bA : Below w.heap.size w (w.alloc (.cells #[.int .i64 r.n, .int .i64 r.lo, .int .i64 r.hi] 23)) := (Below.refl _ _).alloc (Nat.le_refl _) _
  have xA := Bx.new w r 23
  generalize w.alloc (.cells #[.int .i64 r.n, .int .i64 r.lo, .int .i64 r.hi] 23) = wA at *
  have s2 : (wA.alloc (.cells #[.int .i64 p.n, .int .i64 p.lo, .int .i64 p.hi] 23)).heap.size = wA.heap.size + 1 := by simp
  have bB : Below wA.heap.size wA (wA.alloc (.cells #[.int .i64 p.n, .int .i64 p.lo, .int .i64 p.hi] 23)) := (Below.refl _ _).alloc (Nat.le_refl _) _
  have vB := Bx.new wA p 23
  generalize wA.alloc (.cells #[.int .i64 p.n, .int .i64 p.lo, .int .i64 p.hi] 23) = wB at *
  have bC := below_step (Below.refl wB.heap.size wB) (Nat.le_refl _) hb1
  have cC := Bc2.new wB hb1
  have zC := size_step hb1
  have xB := xA.below bB (by omega)
  have b2 : Below w.heap.size w wB := bA.trans (bB.mono (by omega))
  have b3 : Below w.heap.size w w1 := b2.trans (bC.mono (by omega))
  rw [s2, s1] at cC
  rw [s1] at vB
  exact ⟨b3, xB.below bC (by omega), vB.below bC (by omega), cC, by omega⟩
set_option maxRecDepth 100000 in
set_option maxHeartbeats 1000000 in
theorem is_long (r p : Rc) (cn cv : Int) (A : Option Addr) (c : Nat) (b : List UInt8) (k : Int) (w : World) (h : 100 < b.length) :
    Calls Try.prog 3 #[.agg #[.int .i64 r.n, .int .i64 r.lo, .int .i64 r.hi], .agg #[.int .i64 p.n, .int .i64 p.lo, .int .i64 p.hi], .agg #[.int .i64 cn, .int .i64 cv], .slice A b.length c, .int .i64 k] w fun e w' => e = .returned (.bool true) ∧ Below w.heap.size w w' := by
  have t0 : decide ((100 : Int) < (b.length : Int)) = true := decide_eq_true (by omega)
  go_enter Try.func3, Try.ntmps3
  go_wp2_with fail
  refine (awake_any _).mono ?_
  rintro e w1 ⟨rfl, hb1⟩
  go_wp2
  go_ret
  exact ⟨rfl, ((((Below.refl _ _).alloc (Nat.le_refl _) _).alloc (by simp) _).alloc (by simp; omega) _).trans (hb1.mono (by simp; omega))⟩
set_option maxRecDepth 100000 in
set_option maxHeartbeats 4000000 in
theorem is_short (r p : Rc) (cn cv : Int) (A : Option Addr) (c : Nat) (b : List UInt8) (k : Int) (w : World) (hA : Sl w w.heap.size A b) (h : b.length ≤ 100) (nn vv : Int) (ok : Bool)
    (n1 : ∀ W, Calls Try.prog 11 #[.agg #[.int .i64 r.n, .int .i64 r.lo, .int .i64 r.hi], .int .i64 k] W fun e w' => e = .returned (.tuple #[.agg #[.int .i64 nn, .int .i64 vv], .bool ok]) ∧ Below W.heap.size W w')
    (n2 : ∀ W, Calls Try.prog 12 #[.agg #[.int .i64 r.n, .int .i64 r.lo, .int .i64 r.hi], .int .i64 k] W fun e w' => e = .returned (.tuple #[.agg #[.int .i64 nn, .int .i64 vv], .bool ok]) ∧ Below W.heap.size W w') :
    Calls Try.prog 3 #[.agg #[.int .i64 r.n, .int .i64 r.lo, .int .i64 r.hi], .agg #[.int .i64 p.n, .int .i64 p.lo, .int .i64 p.hi], .agg #[.int .i64 cn, .int .i64 cv], .slice A b.length c, .int .i64 k] w fun e w' => e = .returned (.bool true) ∧ Below w.heap.size w w' := by
  have t0 : decide ((100 : Int) < (b.length : Int)) = false := decide_eq_false (by omega)
  have N1 := Lib.hid n1
  have N2 := Lib.hid n2
  have k1 := rcSane_any r
  have k2 := rcSaneR_any r
  have k3 := In_any r cn cv
  have k4 := rIn_any r cn cv
  have k5 := fun W hW => Fits_any r A c b W hW (by omega)
  have k6 := fun W hW => rFits_any r A c b W hW (by omega)
  have k7 := Size_any r
  have k8 := rSize_any r
  have k9 := Holds_any r p
  have k10 := rHolds_any r p
  generalize saneR r = sB at *
  generalize inC r cn cv = iB at *
  generalize fitC r b = fN at *
  generalize sizeR r = zN at *
  generalize hoC r p = hB at *
  have K1 := Lib.hid k1
  have K2 := Lib.hid k2
  have K3 := Lib.hid k3
  have K4 := Lib.hid k4
  have K5 := Lib.hid k5
  have K6 := Lib.hid k6
  have K7 := Lib.hid k7
  have K8 := Lib.hid k8
  have K9 := Lib.hid k9
  have K10 := Lib.hid k10
  have HA := Lib.hid hA
  have e1 : (sB == sB) = true := by simp
  have e2 : (iB == iB) = true := by simp
  have e3 : (hB == hB) = true := by simp
  have e4 : (ok == ok) = true := by simp
  clear k1 k2 k3 k4 k5 k6 k7 k8 k9 k10 n1 n2 hA
  go_enter Try.func3, Try.ntmps3
  go_wp2_with fail
  refine (awake_any _).mono ?_
  rintro e w1 ⟨rfl, hb1⟩
  obtain ⟨b1, x1, v1, c1, z1⟩ := start3 hb1
  clear hb1
  obtain ⟨y0, y1, y2⟩ := id x1
  go_wp2_with fail
  refine (N1.out _).mono ?_
  rintro e w2 ⟨rfl, hb2⟩
  have x2 := x1.below hb2 (by omega)
  have v2 := v1.below hb2 (by omega)
  have c2 := c1.below hb2 z1
  have b2 := b1.trans (hb2.mono b1.size)
  have z2 := Nat.lt_of_lt_of_le z1 hb2.size
  clear y0 y1 y2 hb2 x1 v1 c1 z1 b1
  have zz2 : w.heap.size < w2.heap.size := by omega
  obtain ⟨y0, y1, y2⟩ := id x2
  go_wp2_with fail
  refine (N2.out _).mono ?_
  rintro e w3 ⟨rfl, hb3⟩
  have x3 := x2.step (by omega) hb3
  have v3 := v2.step (by omega) hb3
  have c3 := c2.step z2 hb3
  have d3 := Bc2.new w2 hb3
  have b3 := below_step b2 b2.size hb3
  have z3 := Nat.lt_trans z2 (size_step hb3)
  have zd := size_step hb3
  clear y0 y1 y2 hb3 x2 v2 c2 b2
  go_wp2_with fail
  have hSS : ∀ w', Below (w3.alloc (.cells #[.int .i64 nn, .int .i64 vv] 25)).heap.size (w3.alloc (.cells #[.int .i64 nn, .int .i64 vv] 25)) w' → w'.cell? ⟨w.heap.size, 0, none⟩ = some (.int .i64 r.n) ∧ w'.cell? ⟨w.heap.size, 1, none⟩ = some (.int .i64 r.lo) ∧ w'.cell? ⟨w.heap.size, 2, none⟩ = some (.int .i64 r.hi) ∧ w'.cell? ⟨w.heap.size + 1, 0, none⟩ = some (.int .i64 p.n) ∧ w'.cell? ⟨w.heap.size + 1, 1, none⟩ = some (.int .i64 p.lo) ∧ w'.cell? ⟨w.heap.size + 1, 2, none⟩ = some (.int .i64 p.hi) ∧ w'.cell? ⟨w.heap.size + 1 + 1, 0, none⟩ = some (.int .i64 cn) ∧ w'.cell? ⟨w.heap.size + 1 + 1, 1, none⟩ = some (.int .i64 cv) ∧ w'.cell? ⟨w2.heap.size, 0, none⟩ = some (.int .i64 nn) ∧ w'.cell? ⟨w2.heap.size, 1, none⟩ = some (.int .i64 vv) ∧ w'.cell? ⟨w3.heap.size, 0, none⟩ = some (.int .i64 nn) ∧ w'.cell? ⟨w3.heap.size, 1, none⟩ = some (.int .i64 vv) := fun w' hw => by
    have g1 := x3.step (by omega) hw
    have g2 := v3.step (by omega) hw
    have g3 := c3.step z3 hw
    have g4 := d3.step zd hw
    have g5 := Bc2.new w3 hw
    exact ⟨g1.c0, g1.c1, g1.c2, g2.c0, g2.c1, g2.c2, g3.c0, g3.c1, g4.c0, g4.c1, g5.c0, g5.c1⟩
  have HH := Lib.hid hSS
  have b4 : Below w.heap.size w (w3.alloc (.cells #[.int .i64 nn, .int .i64 vv] 25)) := b3.alloc b3.size _
  clear hSS x3 v3 c3 d3
  generalize w3.alloc (.cells #[.int .i64 nn, .int .i64 vv] 25) = w4 at *
  have HSL : Hid (∀ W, Below w4.heap.size w4 W → Sl W W.heap.size A b) := Lib.hid (fun W hW => (HA.out.over b4).over hW)
  have z0 : Below w4.heap.size w4 w4.drew := (Below.refl _ _).drew
  go_region_held (fun w' => w'.cell? ⟨w.heap.size, 0, none⟩ = some (.int .i64 r.n) ∧ w'.cell? ⟨w.heap.size, 1, none⟩ = some (.int .i64 r.lo) ∧ w'.cell? ⟨w.heap.size, 2, none⟩ = some (.int .i64 r.hi) ∧ w'.cell? ⟨w.heap.size + 1, 0, none⟩ = some (.int .i64 p.n) ∧ w'.cell? ⟨w.heap.size + 1, 1, none⟩ = some (.int .i64 p.lo) ∧ w'.cell? ⟨w.heap.size + 1, 2, none⟩ = some (.int .i64 p.hi) ∧ w'.cell? ⟨w.heap.size + 1 + 1, 0, none⟩ = some (.int .i64 cn) ∧ w'.cell? ⟨w.heap.size + 1 + 1, 1, none⟩ = some (.int .i64 cv) ∧ w'.cell? ⟨w2.heap.size, 0, none⟩ = some (.int .i64 nn) ∧ w'.cell? ⟨w2.heap.size, 1, none⟩ = some (.int .i64 vv) ∧ w'.cell? ⟨w3.heap.size, 0, none⟩ = some (.int .i64 nn) ∧ w'.cell? ⟨w3.heap.size, 1, none⟩ = some (.int .i64 vv))
    (first | with_reducible exact HH.out _ q10 | with_reducible exact HH.out _ q9 | with_reducible exact HH.out _ q8 | with_reducible exact HH.out _ q7 | with_reducible exact HH.out _ q6 | with_reducible exact HH.out _ q5 | with_reducible exact HH.out _ q4 | with_reducible exact HH.out _ q3 | with_reducible exact HH.out _ q2 | with_reducible exact HH.out _ q1 | with_reducible exact HH.out _ z0)
    (first
              | (go_at_call 13; with_reducible refine (K1.out _).mono ?_; rintro e u1 ⟨rfl, g1⟩; have q1 := z0.trans (g1.mono z0.size))
              | (go_at_call 14; with_reducible refine (K2.out _).mono ?_; rintro e u2 ⟨rfl, g2⟩; have q2 := q1.trans (g2.mono q1.size))
              | (go_at_call 15; with_reducible refine (K3.out _).mono ?_; rintro e u3 ⟨rfl, g3⟩; have q3 := q2.trans (g3.mono q2.size))
              | (go_at_call 16; with_reducible refine (K4.out _).mono ?_; rintro e u4 ⟨rfl, g4⟩; have q4 := q3.trans (g4.mono q3.size))
              | (go_at_call 17; with_reducible refine (K5.out _ (HSL.out _ q4)).mono ?_; rintro e u5 ⟨rfl, g5⟩; have q5 := q4.trans (g5.mono q4.size))
              | (go_at_call 18; with_reducible refine (K6.out _ (HSL.out _ q5)).mono ?_; rintro e u6 ⟨rfl, g6⟩; have q6 := q5.trans (g6.mono q5.size))
              | (go_at_call 19; with_reducible refine (K7.out _).mono ?_; rintro e u7 ⟨rfl, g7⟩; have q7 := q6.trans (g7.mono q6.size))
              | (go_at_call 20; with_reducible refine (K8.out _).mono ?_; rintro e u8 ⟨rfl, g8⟩; have q8 := q7.trans (g8.mono q7.size))
              | (go_at_call 21; with_reducible refine (K9.out _).mono ?_; rintro e u9 ⟨rfl, g9⟩; have q9 := q8.trans (g9.mono q8.size))
              | (go_at_call 22; with_reducible refine (K10.out _).mono ?_; rintro e u10 ⟨rfl, g10⟩; have q10 := q9.trans (g10.mono q9.size)))
  all_goals
    go_wp2
    go_ret
    exact ⟨rfl, b4.trans (q10.mono b4.size)⟩
theorem is_walk (r p : Rc) (cn cv : Int) (A : Option Addr) (c : Nat) (b : List UInt8) (k : Int) (w : World) (hA : Sl w w.heap.size A b) :
    Calls Try.prog 3 #[.agg #[.int .i64 r.n, .int .i64 r.lo, .int .i64 r.hi], .agg #[.int .i64 p.n, .int .i64 p.lo, .int .i64 p.hi], .agg #[.int .i64 cn, .int .i64 cv], .slice A b.length c, .int .i64 k] w fun e w' => e = .returned (.bool true) ∧ Below w.heap.size w w' := by
  rcases Nat.lt_or_ge 100 b.length with h | h
  · exact is_long r p cn cv A c b k w h
  · by_cases hk : 0 ≤ k ∧ k < (sizeR r : Int)
    · obtain ⟨K, rfl⟩ := Int.eq_ofNat_of_zero_le hk.1
      have hK : K < sizeR r := by omega
      have hs : saneR r = true := by
        cases hs : saneR r with
        | true => rfl
        | false => unfold sizeR at hK; rw [hs] at hK; simp at hK
      exact is_short r p cn cv A c b K w hA h r.n (nthC r K) true (fun W => Nth_yes r K W hs hK) (fun W => rNth_yes r K W hs hK)
    · exact is_short r p cn cv A c b k w hA h 0 0 false (fun W => Nth_no r k W (by omega)) (fun W => rNth_no r k W (by omega))
end Go.Proofs.Ytnojapffmcnbaaa
