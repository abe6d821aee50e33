/-
  The walk of the statement RectFits.
-/
import Derived.Test.YtnojapffmcnbaaaRectFitP
import Derived.Deep.RegionHeld
import Derived.Deep.DrawnRows
namespace Go.Proofs.Ytnojapffmcnbaaa
open Go.RowKit
attribute [local go_sem ↓] Go.wp_at_zero Go.wp_at_succ

theorem infoB : (Try.prog.info? 5).map (fun i => (i.zero, i.size, i.bytes)) = some (some (.int .u8 0), 1, 1) := by kernel_rfl
set_option maxRecDepth 100000 in
set_option maxHeartbeats 1000000 in
theorem fits_long (r : Rc) (A A' : Option Addr) (c c' : Nat) (b d : List UInt8) (w : World) (h : 50 < b.length ∨ 50 < d.length) :
    Calls Try.prog 6 #[.agg #[.int .i64 r.n, .int .i64 r.lo, .int .i64 r.hi], .slice A b.length c, .slice A' d.length c'] w fun e w' => e = .returned (.bool true) ∧ Below w.heap.size w w' := by
  by_cases h1 : 50 < b.length
  · have t0 : decide ((50 : Int) < (b.length : Int)) = true := decide_eq_true (by omega)
    go_enter Try.func6, Try.ntmps6
    go_wp2_with fail
    refine (awake_any _).mono ?_
    rintro e w1 ⟨rfl, hb1⟩
    go_wp2
    go_ret
    exact ⟨rfl, below_step (Below.refl _ _) (Nat.le_refl _) hb1⟩
  · have t0 : decide ((50 : Int) < (b.length : Int)) = false := decide_eq_false (by omega)
    have t1 : decide ((50 : Int) < (d.length : Int)) = true := decide_eq_true (by omega)
    go_enter Try.func6, Try.ntmps6
    go_wp2_with fail
    refine (awake_any _).mono ?_
    rintro e w1 ⟨rfl, hb1⟩
    go_wp2
    go_ret
    exact ⟨rfl, below_step (Below.refl _ _) (Nat.le_refl _) hb1⟩
set_option maxRecDepth 100000 in
set_option maxHeartbeats 1500000 in
theorem fits_no (r : Rc) (A A' : Option Addr) (c c' : Nat) (b d : List UInt8) (w : World) (hA : Sl w w.heap.size A b) (hA' : Sl w w.heap.size A' d) (nA : A = none → c = 0) (nA' : A' = none → c' = 0) (h1 : b.length ≤ 50) (h2 : d.length ≤ 50) (hs : saneR r = false) :
    Calls Try.prog 6 #[.agg #[.int .i64 r.n, .int .i64 r.lo, .int .i64 r.hi], .slice A b.length c, .slice A' d.length c'] w fun e w' => e = .returned (.bool true) ∧ Below w.heap.size w w' := by
  obtain ⟨i0, hi, hz0, hz1, hz2⟩ := info_parts infoB
  have t0 : decide ((50 : Int) < (b.length : Int)) = false := decide_eq_false (by omega)
  have t1 : decide ((50 : Int) < (d.length : Int)) = false := decide_eq_false (by omega)
  have ks := rcSane_any r
  have hle := fitC_le r b
  have hmo := fit_more r b d
  obtain ⟨n, hnn⟩ : ∃ n, n = fitC r b := ⟨_, rfl⟩
  obtain ⟨m, hmm⟩ : ∃ m, m = fitC r (b ++ d) := ⟨_, rfl⟩
  rw [← hnn, ← hmm] at hmo
  rw [← hnn] at hle
  have n0 : n = 0 := by rw [hnn]; exact fit_no hs b
  have m0 : m = 0 := by rw [hmm]; exact fit_no hs _
  have t2 : decide ((n : Int) < 0) = false := decide_eq_false (by omega)
  have t3 : decide (b.length < n) = false := decide_eq_false (by omega)
  have t4 : decide (m < n) = false := decide_eq_false (by omega)
  have t5 : decide (n < m) = false := decide_eq_false (by omega)
  have t6 : ((m : Int) != 0) = false := by rw [m0]; rfl
  rw [hs] at ks
  clear n0 m0 hs
  have HA := Lib.hid hA
  have HA' := Lib.hid hA'
  have F1 : Hid (∀ W, Sl W W.heap.size A b → Calls Try.prog 17 #[.agg #[.int .i64 r.n, .int .i64 r.lo, .int .i64 r.hi], .slice A b.length c] W fun e w' => e = .returned (.int .i64 (n : Int)) ∧ Below W.heap.size W w') := Lib.hid (fun W hW => by rw [hnn]; exact Fits_any r A c b W hW (by omega))
  have F2 : Hid (∀ B k W, Sl W W.heap.size B (b ++ d) → Calls Try.prog 17 #[.agg #[.int .i64 r.n, .int .i64 r.lo, .int .i64 r.hi], .slice B (b.length + d.length) k] W fun e w' => e = .returned (.int .i64 (m : Int)) ∧ Below W.heap.size W w') := Lib.hid (fun B k W hW => by rw [hmm, ← List.length_append]; exact Fits_any r B k (b ++ d) W hW (by simp; omega))
  have KS := Lib.hid ks
  clear ks hA hA' hmo
  have HNN := Lib.hid hnn
  have HMM := Lib.hid hmm
  clear hnn hmm
  go_enter Try.func6, Try.ntmps6
  go_wp2_with fail
  refine (awake_any _).mono ?_
  rintro e w1 ⟨rfl, hb1⟩
  have x1 : Bx w1 w.heap.size r := (Bx.new w r _).below hb1 (by simp)
  have z1 : w.heap.size < w1.heap.size := size_step hb1
  have b1 : Below w.heap.size w w1 := below_step (Below.refl _ _) (Nat.le_refl _) hb1
  clear hb1
  obtain ⟨y0, y1, y2⟩ := id x1
  go_wp2_with fail
  refine (F1.out _ (HA.out.over b1)).mono ?_
  rintro e w2 ⟨rfl, hb2⟩
  have x2 := x1.below hb2 z1
  have b2 := b1.trans (hb2.mono b1.size)
  have z2 := Nat.lt_of_lt_of_le z1 hb2.size
  clear y0 y1 y2 hb2 x1 z1 b1
  have hS2 : Sl (w2.alloc (.cells #[] 5)) w2.heap.size A b := (HA.out.over b2).below ((Below.refl _ _).alloc (Nat.le_refl _) _)
  go_wp2_with (first
    | (at_builtin; refine app_bytes rfl _ _ _ rfl w2.heap.size 5 i0 Try.underlying26 hi hz0 hz1 hz2 _ [] rfl (own_emptyB w2 w2.heap.size _ (Nat.le_refl _)) w2.heap.size A c b rfl hS2 nA (by simp; omega) (by simp) ?_; intro v3 w3 hown3 hgrow3; have hb3 : Below w2.heap.size w2 w3 := ((Below.refl _ _).alloc (Nat.le_refl _) _).grown hgrow3 (by simp) (fun q hq => ((own_emptyB w2 w2.heap.size 5 (Nat.le_refl _)).lt q hq).1); rw [List.nil_append] at hown3)
    | (at_builtin; refine app_bytes rfl _ _ _ rfl w2.heap.size 5 i0 Try.underlying26 hi hz0 hz1 hz2 v3 b rfl hown3 w3.heap.size A' c' d rfl ((HA'.out.over b2).over hb3) nA' (by omega) hb3.size ?_; intro v4 w4 hown4 hgrow4; have hb4 : Below w2.heap.size w2 w4 := hb3.grown hgrow4 hb3.size (fun q hq => (hown3.lt q hq).1); have x4 := x2.below hb4 z2; obtain ⟨y0, y1, y2⟩ := id x4; obtain ⟨k4, _, hk4, A4, hv4, hs4⟩ := Sl.of_own hown4; subst hv4))
  have b4 := b2.trans (hb4.mono b2.size)
  have z4 := Nat.lt_of_lt_of_le z2 hb4.size
  refine (F2.out _ _ _ hs4).mono ?_
  rintro e w5 ⟨rfl, hb5⟩
  have x5 := x4.below hb5 z4
  have b5 := b4.trans (hb5.mono b4.size)
  have z5 := Nat.lt_of_lt_of_le z4 hb5.size
  clear y0 y1 y2 hb5 x4 z4 b4 hown4 hown3 hgrow3 hgrow4 hb3 hb4 x2 z2 b2 hS2 hs4
  obtain ⟨y0, y1, y2⟩ := id x5
  go_wp2_with fail
  refine (KS.out _).mono ?_
  rintro e w6 ⟨rfl, hb6⟩
  have x6 := x5.below hb6 z5
  have b6 := b5.trans (hb6.mono b5.size)
  have z6 := Nat.lt_of_lt_of_le z5 hb6.size
  clear y0 y1 y2 hb6 x5 z5 b5
  obtain ⟨y0, y1, y2⟩ := id x6
  go_wp2_with fail
  refine (KS.out _).mono ?_
  rintro e w7 ⟨rfl, hb7⟩
  have x7 := x6.below hb7 z6
  have b7 := b6.trans (hb7.mono b6.size)
  have z7 := Nat.lt_of_lt_of_le z6 hb7.size
  clear y0 y1 y2 hb7 x6 z6 b6
  obtain ⟨y0, y1, y2⟩ := id x7
  go_wp2_with fail
  refine (KS.out _).mono ?_
  rintro e w8 ⟨rfl, hb8⟩
  have x8 := x7.below hb8 z7
  have b8 := b7.trans (hb8.mono b7.size)
  have z8 := Nat.lt_of_lt_of_le z7 hb8.size
  clear y0 y1 y2 hb8 x7 z7 b7
  obtain ⟨y0, y1, y2⟩ := id x8
  go_wp2
  go_ret
  exact ⟨rfl, b8⟩
set_option maxRecDepth 100000 in
set_option maxHeartbeats 1500000 in
theorem fits_few (r : Rc) (A A' : Option Addr) (c c' : Nat) (b d : List UInt8) (w : World) (hA : Sl w w.heap.size A b) (hA' : Sl w w.heap.size A' d) (nA : A = none → c = 0) (nA' : A' = none → c' = 0) (h1 : b.length ≤ 50) (h2 : d.length ≤ 50) (hs : saneR r = true) (hN : (b.length : Int) < r.n) (hlt : fitC r b < fitC r (b ++ d)) :
    Calls Try.prog 6 #[.agg #[.int .i64 r.n, .int .i64 r.lo, .int .i64 r.hi], .slice A b.length c, .slice A' d.length c'] w fun e w' => e = .returned (.bool true) ∧ Below w.heap.size w w' := by
  obtain ⟨i0, hi, hz0, hz1, hz2⟩ := info_parts infoB
  have t0 : decide ((50 : Int) < (b.length : Int)) = false := decide_eq_false (by omega)
  have t1 : decide ((50 : Int) < (d.length : Int)) = false := decide_eq_false (by omega)
  have ks := rcSane_any r
  have hle := fitC_le r b
  have hmo := fit_more r b d
  obtain ⟨n, hnn⟩ : ∃ n, n = fitC r b := ⟨_, rfl⟩
  obtain ⟨m, hmm⟩ : ∃ m, m = fitC r (b ++ d) := ⟨_, rfl⟩
  rw [← hnn, ← hmm] at hlt
  rw [← hnn, ← hmm] at hmo
  rw [← hnn] at hle
  have hnN : (n : Int) ≤ r.n := by have q := fit_le_n hs b; have q2 := (saneB_iff _ _).1 ((saneR_iff r).1 hs).1; omega
  have t7 : decide (r.n < (n : Int)) = false := decide_eq_false (by omega)
  have t2 : decide ((n : Int) < 0) = false := decide_eq_false (by omega)
  have t3 : decide (b.length < n) = false := decide_eq_false (by omega)
  have t4 : decide (m < n) = false := decide_eq_false (by omega)
  have t5 : decide (n < m) = true := decide_eq_true hlt
  have hnb : n = b.length := Classical.byContradiction fun e => by have := hmo.2.1 e; omega
  have t6 : ((n : Int) != (b.length : Int)) = false := by rw [hnb]; simp
  have t8 : decide ((b.length : Int) < r.n) = true := decide_eq_true hN
  have HB := Lib.hid hnb
  rw [hs] at ks
  clear hs hN hlt hnb hnN
  have HA := Lib.hid hA
  have HA' := Lib.hid hA'
  have F1 : Hid (∀ W, Sl W W.heap.size A b → Calls Try.prog 17 #[.agg #[.int .i64 r.n, .int .i64 r.lo, .int .i64 r.hi], .slice A b.length c] W fun e w' => e = .returned (.int .i64 (n : Int)) ∧ Below W.heap.size W w') := Lib.hid (fun W hW => by rw [hnn]; exact Fits_any r A c b W hW (by omega))
  have F2 : Hid (∀ B k W, Sl W W.heap.size B (b ++ d) → Calls Try.prog 17 #[.agg #[.int .i64 r.n, .int .i64 r.lo, .int .i64 r.hi], .slice B (b.length + d.length) k] W fun e w' => e = .returned (.int .i64 (m : Int)) ∧ Below W.heap.size W w') := Lib.hid (fun B k W hW => by rw [hmm, ← List.length_append]; exact Fits_any r B k (b ++ d) W hW (by simp; omega))
  have KS := Lib.hid ks
  clear ks hA hA' hmo
  have HNN := Lib.hid hnn
  have HMM := Lib.hid hmm
  clear hnn hmm
  go_enter Try.func6, Try.ntmps6
  go_wp2_with fail
  refine (awake_any _).mono ?_
  rintro e w1 ⟨rfl, hb1⟩
  have x1 : Bx w1 w.heap.size r := (Bx.new w r _).below hb1 (by simp)
  have z1 : w.heap.size < w1.heap.size := size_step hb1
  have b1 : Below w.heap.size w w1 := below_step (Below.refl _ _) (Nat.le_refl _) hb1
  clear hb1
  obtain ⟨y0, y1, y2⟩ := id x1
  go_wp2_with fail
  refine (F1.out _ (HA.out.over b1)).mono ?_
  rintro e w2 ⟨rfl, hb2⟩
  have x2 := x1.below hb2 z1
  have b2 := b1.trans (hb2.mono b1.size)
  have z2 := Nat.lt_of_lt_of_le z1 hb2.size
  clear y0 y1 y2 hb2 x1 z1 b1
  have hS2 : Sl (w2.alloc (.cells #[] 5)) w2.heap.size A b := (HA.out.over b2).below ((Below.refl _ _).alloc (Nat.le_refl _) _)
  go_wp2_with (first
    | (at_builtin; refine app_bytes rfl _ _ _ rfl w2.heap.size 5 i0 Try.underlying26 hi hz0 hz1 hz2 _ [] rfl (own_emptyB w2 w2.heap.size _ (Nat.le_refl _)) w2.heap.size A c b rfl hS2 nA (by simp; omega) (by simp) ?_; intro v3 w3 hown3 hgrow3; have hb3 : Below w2.heap.size w2 w3 := ((Below.refl _ _).alloc (Nat.le_refl _) _).grown hgrow3 (by simp) (fun q hq => ((own_emptyB w2 w2.heap.size 5 (Nat.le_refl _)).lt q hq).1); rw [List.nil_append] at hown3)
    | (at_builtin; refine app_bytes rfl _ _ _ rfl w2.heap.size 5 i0 Try.underlying26 hi hz0 hz1 hz2 v3 b rfl hown3 w3.heap.size A' c' d rfl ((HA'.out.over b2).over hb3) nA' (by omega) hb3.size ?_; intro v4 w4 hown4 hgrow4; have hb4 : Below w2.heap.size w2 w4 := hb3.grown hgrow4 hb3.size (fun q hq => (hown3.lt q hq).1); have x4 := x2.below hb4 z2; obtain ⟨y0, y1, y2⟩ := id x4; obtain ⟨k4, _, hk4, A4, hv4, hs4⟩ := Sl.of_own hown4; subst hv4))
  have b4 := b2.trans (hb4.mono b2.size)
  have z4 := Nat.lt_of_lt_of_le z2 hb4.size
  refine (F2.out _ _ _ hs4).mono ?_
  rintro e w5 ⟨rfl, hb5⟩
  have x5 := x4.below hb5 z4
  have b5 := b4.trans (hb5.mono b4.size)
  have z5 := Nat.lt_of_lt_of_le z4 hb5.size
  clear y0 y1 y2 hb5 x4 z4 b4 hown4 hown3 hgrow3 hgrow4 hb3 hb4 x2 z2 b2 hS2 hs4
  obtain ⟨y0, y1, y2⟩ := id x5
  go_wp2_with fail
  refine (KS.out _).mono ?_
  rintro e w6 ⟨rfl, hb6⟩
  have x6 := x5.below hb6 z5
  have b6 := b5.trans (hb6.mono b5.size)
  have z6 := Nat.lt_of_lt_of_le z5 hb6.size
  clear y0 y1 y2 hb6 x5 z5 b5
  obtain ⟨y0, y1, y2⟩ := id x6
  go_wp2_with fail
  refine (KS.out _).mono ?_
  rintro e w7 ⟨rfl, hb7⟩
  have x7 := x6.below hb7 z6
  have b7 := b6.trans (hb7.mono b6.size)
  have z7 := Nat.lt_of_lt_of_le z6 hb7.size
  clear y0 y1 y2 hb7 x6 z6 b6
  obtain ⟨y0, y1, y2⟩ := id x7
  go_wp2_with fail
  refine (KS.out _).mono ?_
  rintro e w8 ⟨rfl, hb8⟩
  have x8 := x7.below hb8 z7
  have b8 := b7.trans (hb8.mono b7.size)
  have z8 := Nat.lt_of_lt_of_le z7 hb8.size
  clear y0 y1 y2 hb8 x7 z7 b7
  obtain ⟨y0, y1, y2⟩ := id x8
  go_wp2
  go_ret
  exact ⟨rfl, b8⟩
set_option maxRecDepth 100000 in
set_option maxHeartbeats 1500000 in
theorem fits_same (r : Rc) (A A' : Option Addr) (c c' : Nat) (b d : List UInt8) (w : World) (hA : Sl w w.heap.size A b) (hA' : Sl w w.heap.size A' d) (nA : A = none → c = 0) (nA' : A' = none → c' = 0) (h1 : b.length ≤ 50) (h2 : d.length ≤ 50) (hs : saneR r = true) (hN : (b.length : Int) < r.n) (hlt : ¬ fitC r b < fitC r (b ++ d)) :
    Calls Try.prog 6 #[.agg #[.int .i64 r.n, .int .i64 r.lo, .int .i64 r.hi], .slice A b.length c, .slice A' d.length c'] w fun e w' => e = .returned (.bool true) ∧ Below w.heap.size w w' := by
  obtain ⟨i0, hi, hz0, hz1, hz2⟩ := info_parts infoB
  have t0 : decide ((50 : Int) < (b.length : Int)) = false := decide_eq_false (by omega)
  have t1 : decide ((50 : Int) < (d.length : Int)) = false := decide_eq_false (by omega)
  have ks := rcSane_any r
  have hle := fitC_le r b
  have hmo := fit_more r b d
  obtain ⟨n, hnn⟩ : ∃ n, n = fitC r b := ⟨_, rfl⟩
  obtain ⟨m, hmm⟩ : ∃ m, m = fitC r (b ++ d) := ⟨_, rfl⟩
  rw [← hnn, ← hmm] at hlt
  rw [← hnn, ← hmm] at hmo
  rw [← hnn] at hle
  have hnN : (n : Int) ≤ r.n := by have q := fit_le_n hs b; have q2 := (saneB_iff _ _).1 ((saneR_iff r).1 hs).1; omega
  have t7 : decide (r.n < (n : Int)) = false := decide_eq_false (by omega)
  have t2 : decide ((n : Int) < 0) = false := decide_eq_false (by omega)
  have t3 : decide (b.length < n) = false := decide_eq_false (by omega)
  have t4 : decide (m < n) = false := decide_eq_false (by omega)
  have t5 : decide (n < m) = false := decide_eq_false hlt
  have t8 : decide ((b.length : Int) < r.n) = true := decide_eq_true hN
  rw [hs] at ks
  clear hs hN hlt hnN
  have HA := Lib.hid hA
  have HA' := Lib.hid hA'
  have F1 : Hid (∀ W, Sl W W.heap.size A b → Calls Try.prog 17 #[.agg #[.int .i64 r.n, .int .i64 r.lo, .int .i64 r.hi], .slice A b.length c] W fun e w' => e = .returned (.int .i64 (n : Int)) ∧ Below W.heap.size W w') := Lib.hid (fun W hW => by rw [hnn]; exact Fits_any r A c b W hW (by omega))
  have F2 : Hid (∀ B k W, Sl W W.heap.size B (b ++ d) → Calls Try.prog 17 #[.agg #[.int .i64 r.n, .int .i64 r.lo, .int .i64 r.hi], .slice B (b.length + d.length) k] W fun e w' => e = .returned (.int .i64 (m : Int)) ∧ Below W.heap.size W w') := Lib.hid (fun B k W hW => by rw [hmm, ← List.length_append]; exact Fits_any r B k (b ++ d) W hW (by simp; omega))
  have KS := Lib.hid ks
  clear ks hA hA' hmo
  have HNN := Lib.hid hnn
  have HMM := Lib.hid hmm
  clear hnn hmm
  go_enter Try.func6, Try.ntmps6
  go_wp2_with fail
  refine (awake_any _).mono ?_
  rintro e w1 ⟨rfl, hb1⟩
  have x1 : Bx w1 w.heap.size r := (Bx.new w r _).below hb1 (by simp)
  have z1 : w.heap.size < w1.heap.size := size_step hb1
  have b1 : Below w.heap.size w w1 := below_step (Below.refl _ _) (Nat.le_refl _) hb1
  clear hb1
  obtain ⟨y0, y1, y2⟩ := id x1
  go_wp2_with fail
  refine (F1.out _ (HA.out.over b1)).mono ?_
  rintro e w2 ⟨rfl, hb2⟩
  have x2 := x1.below hb2 z1
  have b2 := b1.trans (hb2.mono b1.size)
  have z2 := Nat.lt_of_lt_of_le z1 hb2.size
  clear y0 y1 y2 hb2 x1 z1 b1
  have hS2 : Sl (w2.alloc (.cells #[] 5)) w2.heap.size A b := (HA.out.over b2).below ((Below.refl _ _).alloc (Nat.le_refl _) _)
  go_wp2_with (first
    | (at_builtin; refine app_bytes rfl _ _ _ rfl w2.heap.size 5 i0 Try.underlying26 hi hz0 hz1 hz2 _ [] rfl (own_emptyB w2 w2.heap.size _ (Nat.le_refl _)) w2.heap.size A c b rfl hS2 nA (by simp; omega) (by simp) ?_; intro v3 w3 hown3 hgrow3; have hb3 : Below w2.heap.size w2 w3 := ((Below.refl _ _).alloc (Nat.le_refl _) _).grown hgrow3 (by simp) (fun q hq => ((own_emptyB w2 w2.heap.size 5 (Nat.le_refl _)).lt q hq).1); rw [List.nil_append] at hown3)
    | (at_builtin; refine app_bytes rfl _ _ _ rfl w2.heap.size 5 i0 Try.underlying26 hi hz0 hz1 hz2 v3 b rfl hown3 w3.heap.size A' c' d rfl ((HA'.out.over b2).over hb3) nA' (by omega) hb3.size ?_; intro v4 w4 hown4 hgrow4; have hb4 : Below w2.heap.size w2 w4 := hb3.grown hgrow4 hb3.size (fun q hq => (hown3.lt q hq).1); have x4 := x2.below hb4 z2; obtain ⟨y0, y1, y2⟩ := id x4; obtain ⟨k4, _, hk4, A4, hv4, hs4⟩ := Sl.of_own hown4; subst hv4))
  have b4 := b2.trans (hb4.mono b2.size)
  have z4 := Nat.lt_of_lt_of_le z2 hb4.size
  refine (F2.out _ _ _ hs4).mono ?_
  rintro e w5 ⟨rfl, hb5⟩
  have x5 := x4.below hb5 z4
  have b5 := b4.trans (hb5.mono b4.size)
  have z5 := Nat.lt_of_lt_of_le z4 hb5.size
  clear y0 y1 y2 hb5 x4 z4 b4 hown4 hown3 hgrow3 hgrow4 hb3 hb4 x2 z2 b2 hS2 hs4
  obtain ⟨y0, y1, y2⟩ := id x5
  go_wp2_with fail
  refine (KS.out _).mono ?_
  rintro e w6 ⟨rfl, hb6⟩
  have x6 := x5.below hb6 z5
  have b6 := b5.trans (hb6.mono b5.size)
  have z6 := Nat.lt_of_lt_of_le z5 hb6.size
  clear y0 y1 y2 hb6 x5 z5 b5
  obtain ⟨y0, y1, y2⟩ := id x6
  go_wp2_with fail
  refine (KS.out _).mono ?_
  rintro e w7 ⟨rfl, hb7⟩
  have x7 := x6.below hb7 z6
  have b7 := b6.trans (hb7.mono b6.size)
  have z7 := Nat.lt_of_lt_of_le z6 hb7.size
  clear y0 y1 y2 hb7 x6 z6 b6
  obtain ⟨y0, y1, y2⟩ := id x7
  go_wp2_with fail
  refine (KS.out _).mono ?_
  rintro e w8 ⟨rfl, hb8⟩
  have x8 := x7.below hb8 z7
  have b8 := b7.trans (hb8.mono b7.size)
  have z8 := Nat.lt_of_lt_of_le z7 hb8.size
  clear y0 y1 y2 hb8 x7 z7 b7
  obtain ⟨y0, y1, y2⟩ := id x8
  go_wp2
  go_ret
  exact ⟨rfl, b8⟩
set_option maxRecDepth 100000 in
set_option maxHeartbeats 1500000 in
theorem fits_all (r : Rc) (A A' : Option Addr) (c c' : Nat) (b d : List UInt8) (w : World) (hA : Sl w w.heap.size A b) (hA' : Sl w w.heap.size A' d) (nA : A = none → c = 0) (nA' : A' = none → c' = 0) (h1 : b.length ≤ 50) (h2 : d.length ≤ 50) (hs : saneR r = true) (hN : r.n ≤ (b.length : Int)) (hcap : b.length ≤ c) :
    Calls Try.prog 6 #[.agg #[.int .i64 r.n, .int .i64 r.lo, .int .i64 r.hi], .slice A b.length c, .slice A' d.length c'] w fun e w' => e = .returned (.bool true) ∧ Below w.heap.size w w' := by
  obtain ⟨i0, hi, hz0, hz1, hz2⟩ := info_parts infoB
  have t0 : decide ((50 : Int) < (b.length : Int)) = false := decide_eq_false (by omega)
  have t1 : decide ((50 : Int) < (d.length : Int)) = false := decide_eq_false (by omega)
  have ks := rcSane_any r
  have hle := fitC_le r b
  have hmo := fit_more r b d
  obtain ⟨n, hnn⟩ : ∃ n, n = fitC r b := ⟨_, rfl⟩
  obtain ⟨m, hmm⟩ : ∃ m, m = fitC r (b ++ d) := ⟨_, rfl⟩
  rw [← hnn, ← hmm] at hmo
  rw [← hnn] at hle
  have hnN : (n : Int) ≤ r.n := by have q := fit_le_n hs b; have q2 := (saneB_iff _ _).1 ((saneR_iff r).1 hs).1; omega
  have t7 : decide (r.n < (n : Int)) = false := decide_eq_false (by omega)
  have t2 : decide ((n : Int) < 0) = false := decide_eq_false (by omega)
  have t3 : decide (b.length < n) = false := decide_eq_false (by omega)
  have t4 : decide (m < n) = false := decide_eq_false (by omega)
  obtain ⟨q1, q4, _⟩ := (saneB_iff _ _).1 ((saneR_iff r).1 hs).1
  have hmn : m = n := hmo.2.2 hs (by omega)
  have t5 : decide (n < m) = false := decide_eq_false (by omega)
  have t8 : decide ((b.length : Int) < r.n) = false := decide_eq_false (by omega)
  have t9 : ((m : Int) == (n : Int)) = true := by rw [hmn]; simp
  have hfi := fit_in hs (l := b) (by omega)
  rw [← hnn] at hfi
  obtain ⟨V, hV⟩ : ∃ V, V = num (b.take r.n.toNat) := ⟨_, rfl⟩
  rw [← hV] at hfi
  have ki := In_any r r.n V
  rw [hfi] at ki
  have tq : ((n : Int) == r.n) = decide (n = r.n.toNat) := by rw [Bool.eq_iff_iff, beq_iff_eq, decide_eq_true_eq]; omega
  obtain ⟨qq, hqq⟩ : ∃ qq, qq = decide (n = r.n.toNat) := ⟨_, rfl⟩
  rw [← hqq] at tq ki
  have KI := Lib.hid ki
  have hbt : (b.take r.n.toNat).length = r.n.toNat := by rw [List.length_take]; omega
  have HBT := Lib.hid hbt
  have HV := Lib.hid hV
  have HQQ := Lib.hid hqq
  rw [hs] at ks
  clear hs hmn hfi ki hqq hbt hV hnN
  have HA := Lib.hid hA
  have HA' := Lib.hid hA'
  have F1 : Hid (∀ W, Sl W W.heap.size A b → Calls Try.prog 17 #[.agg #[.int .i64 r.n, .int .i64 r.lo, .int .i64 r.hi], .slice A b.length c] W fun e w' => e = .returned (.int .i64 (n : Int)) ∧ Below W.heap.size W w') := Lib.hid (fun W hW => by rw [hnn]; exact Fits_any r A c b W hW (by omega))
  have F2 : Hid (∀ B k W, Sl W W.heap.size B (b ++ d) → Calls Try.prog 17 #[.agg #[.int .i64 r.n, .int .i64 r.lo, .int .i64 r.hi], .slice B (b.length + d.length) k] W fun e w' => e = .returned (.int .i64 (m : Int)) ∧ Below W.heap.size W w') := Lib.hid (fun B k W hW => by rw [hmm, ← List.length_append]; exact Fits_any r B k (b ++ d) W hW (by simp; omega))
  have KS := Lib.hid ks
  clear ks hA hA' hmo
  have HNN := Lib.hid hnn
  have HMM := Lib.hid hmm
  clear hnn hmm
  go_enter Try.func6, Try.ntmps6
  go_wp2_with fail
  refine (awake_any _).mono ?_
  rintro e w1 ⟨rfl, hb1⟩
  have x1 : Bx w1 w.heap.size r := (Bx.new w r _).below hb1 (by simp)
  have z1 : w.heap.size < w1.heap.size := size_step hb1
  have b1 : Below w.heap.size w w1 := below_step (Below.refl _ _) (Nat.le_refl _) hb1
  clear hb1
  obtain ⟨y0, y1, y2⟩ := id x1
  go_wp2_with fail
  refine (F1.out _ (HA.out.over b1)).mono ?_
  rintro e w2 ⟨rfl, hb2⟩
  have x2 := x1.below hb2 z1
  have b2 := b1.trans (hb2.mono b1.size)
  have z2 := Nat.lt_of_lt_of_le z1 hb2.size
  clear y0 y1 y2 hb2 x1 z1 b1
  have hS2 : Sl (w2.alloc (.cells #[] 5)) w2.heap.size A b := (HA.out.over b2).below ((Below.refl _ _).alloc (Nat.le_refl _) _)
  go_wp2_with (first
    | (at_builtin; refine app_bytes rfl _ _ _ rfl w2.heap.size 5 i0 Try.underlying26 hi hz0 hz1 hz2 _ [] rfl (own_emptyB w2 w2.heap.size _ (Nat.le_refl _)) w2.heap.size A c b rfl hS2 nA (by simp; omega) (by simp) ?_; intro v3 w3 hown3 hgrow3; have hb3 : Below w2.heap.size w2 w3 := ((Below.refl _ _).alloc (Nat.le_refl _) _).grown hgrow3 (by simp) (fun q hq => ((own_emptyB w2 w2.heap.size 5 (Nat.le_refl _)).lt q hq).1); rw [List.nil_append] at hown3)
    | (at_builtin; refine app_bytes rfl _ _ _ rfl w2.heap.size 5 i0 Try.underlying26 hi hz0 hz1 hz2 v3 b rfl hown3 w3.heap.size A' c' d rfl ((HA'.out.over b2).over hb3) nA' (by omega) hb3.size ?_; intro v4 w4 hown4 hgrow4; have hb4 : Below w2.heap.size w2 w4 := hb3.grown hgrow4 hb3.size (fun q hq => (hown3.lt q hq).1); have x4 := x2.below hb4 z2; obtain ⟨y0, y1, y2⟩ := id x4; obtain ⟨k4, _, hk4, A4, hv4, hs4⟩ := Sl.of_own hown4; subst hv4))
  have b4 := b2.trans (hb4.mono b2.size)
  have z4 := Nat.lt_of_lt_of_le z2 hb4.size
  refine (F2.out _ _ _ hs4).mono ?_
  rintro e w5 ⟨rfl, hb5⟩
  have x5 := x4.below hb5 z4
  have b5 := b4.trans (hb5.mono b4.size)
  have z5 := Nat.lt_of_lt_of_le z4 hb5.size
  clear y0 y1 y2 hb5 x4 z4 b4 hown4 hown3 hgrow3 hgrow4 hb3 hb4 x2 z2 b2 hS2 hs4
  obtain ⟨y0, y1, y2⟩ := id x5
  go_wp2_with fail
  refine (KS.out _).mono ?_
  rintro e w6 ⟨rfl, hb6⟩
  have x6 := x5.below hb6 z5
  have b6 := b5.trans (hb6.mono b5.size)
  have z6 := Nat.lt_of_lt_of_le z5 hb6.size
  clear y0 y1 y2 hb6 x5 z5 b5
  obtain ⟨y0, y1, y2⟩ := id x6
  go_wp2_with fail
  refine (KS.out _).mono ?_
  rintro e w7 ⟨rfl, hb7⟩
  have x7 := x6.below hb7 z6
  have b7 := b6.trans (hb7.mono b6.size)
  have z7 := Nat.lt_of_lt_of_le z6 hb7.size
  clear y0 y1 y2 hb7 x6 z6 b6
  obtain ⟨y0, y1, y2⟩ := id x7
  go_wp2_with fail
  refine (KS.out _).mono ?_
  rintro e w8 ⟨rfl, hb8⟩
  have x8 := x7.below hb8 z7
  have b8 := b7.trans (hb8.mono b7.size)
  have z8 := Nat.lt_of_lt_of_le z7 hb8.size
  clear y0 y1 y2 hb8 x7 z7 b7
  obtain ⟨y0, y1, y2⟩ := id x8
  have hsl : Sl w8 w8.heap.size A (b.take r.n.toNat) := fun _ => by
    obtain ⟨bb, oo, e, hbb, hcc⟩ := (HA.out.over b8) (by omega)
    refine ⟨bb, oo, e, hbb, fun j hj => ?_⟩
    rw [HBT.out] at hj
    rw [List.getElem?_take_of_lt hj]
    exact hcc j (by omega)
  have hva := Val_yes A c (b.take r.n.toNat) w8 hsl (by rw [HBT.out]; omega) (by rw [HBT.out]; omega)
  rw [HBT.out, ← HV.out] at hva
  have er : ((r.n.toNat : Nat) : Int) = r.n := by omega
  rw [er] at hva
  have HVA := Lib.hid hva
  obtain ⟨bb, oo, eA, _, _⟩ := hsl (by rw [HBT.out]; omega)
  subst eA
  clear hva hsl er
  go_wp2_with fail
  refine HVA.out.mono ?_
  rintro e w9 ⟨rfl, hb9⟩
  have x9 := x8.below hb9 z8
  have b9 := b8.trans (hb9.mono b8.size)
  have z9 := Nat.lt_of_lt_of_le z8 hb9.size
  clear y0 y1 y2 hb9 x8 z8 b8
  go_wp2_with fail
  have hSS : ∀ w', Below (w9.alloc (.cells #[.int .i64 r.n, .int .i64 V] 25)).heap.size (w9.alloc (.cells #[.int .i64 r.n, .int .i64 V] 25)) w' → w'.cell? ⟨w.heap.size, 0, none⟩ = some (.int .i64 r.n) ∧ w'.cell? ⟨w.heap.size, 1, none⟩ = some (.int .i64 r.lo) ∧ w'.cell? ⟨w.heap.size, 2, none⟩ = some (.int .i64 r.hi) ∧ w'.cell? ⟨w9.heap.size, 0, none⟩ = some (.int .i64 r.n) ∧ w'.cell? ⟨w9.heap.size, 1, none⟩ = some (.int .i64 V) := fun w' hw => by
    have g1 := x9.step z9 hw
    have g2 := Bc2.new w9 hw
    exact ⟨g1.c0, g1.c1, g1.c2, g2.c0, g2.c1⟩
  have HH := Lib.hid hSS
  have bA : Below w.heap.size w (w9.alloc (.cells #[.int .i64 r.n, .int .i64 V] 25)) := b9.alloc b9.size _
  clear hSS
  generalize w9.alloc (.cells #[.int .i64 r.n, .int .i64 V] 25) = wA at *
  have z0 : Below wA.heap.size wA wA.drew := (Below.refl _ _).drew
  cases qq
  all_goals
    go_region_held (fun w' => w'.cell? ⟨w.heap.size, 0, none⟩ = some (.int .i64 r.n) ∧ w'.cell? ⟨w.heap.size, 1, none⟩ = some (.int .i64 r.lo) ∧ w'.cell? ⟨w.heap.size, 2, none⟩ = some (.int .i64 r.hi) ∧ w'.cell? ⟨w9.heap.size, 0, none⟩ = some (.int .i64 r.n) ∧ w'.cell? ⟨w9.heap.size, 1, none⟩ = some (.int .i64 V))
      (first | with_reducible exact HH.out _ z10 | with_reducible exact HH.out _ z0)
      ((go_at_call 15; with_reducible refine (KI.out _).mono ?_; rintro e u2 ⟨rfl, y8⟩; have z10 := z0.trans (y8.mono z0.size)))
    all_goals
      go_wp2
      go_ret
      exact ⟨rfl, bA.trans (z10.mono bA.size)⟩
theorem fits_walk (r : Rc) (A A' : Option Addr) (c c' : Nat) (b d : List UInt8) (w : World) (hA : Sl w w.heap.size A b) (hA' : Sl w w.heap.size A' d) (nA : A = none → c = 0) (nA' : A' = none → c' = 0) (hcap : b.length ≤ c) :
    Calls Try.prog 6 #[.agg #[.int .i64 r.n, .int .i64 r.lo, .int .i64 r.hi], .slice A b.length c, .slice A' d.length c'] w fun e w' => e = .returned (.bool true) ∧ Below w.heap.size w w' := by
  by_cases hl : 50 < b.length ∨ 50 < d.length
  · exact fits_long r A A' c c' b d w hl
  · cases hs : saneR r with
    | false => exact fits_no r A A' c c' b d w hA hA' nA nA' (by omega) (by omega) hs
    | true =>
      by_cases hN : (b.length : Int) < r.n
      · by_cases hlt : fitC r b < fitC r (b ++ d)
        · exact fits_few r A A' c c' b d w hA hA' nA nA' (by omega) (by omega) hs hN hlt
        · exact fits_same r A A' c c' b d w hA hA' nA nA' (by omega) (by omega) hs hN hlt
      · exact fits_all r A A' c c' b d w hA hA' nA nA' (by omega) (by omega) hs (by omega) hcap
end Go.Proofs.Ytnojapffmcnbaaa
