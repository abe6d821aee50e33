/-
  The walk of the statement SpanOrder.
-/
import Derived.Test.YtdlkgcbiekilhaaSpanAwake
import Derived.Test.YtdlkgcbiekilhaaSpanPut
import Derived.Test.YtdlkgcbiekilhaaSpanSame
namespace Go.Proofs.Ytdlkgcbiekilhaa
open Go.RowKit
attribute [local go_sem ↓] Go.wp_at_zero Go.wp_at_succ

theorem last_swap {st : Bool} {a b : Sp} (h : ¬ (a.n = b.n ∧ a.lo ≤ b.hi ∧ b.lo ≤ a.hi)) (l : List Sp) (n v : Int) : lastS st (l ++ [a] ++ [b]) n v = lastS st (l ++ [b] ++ [a]) n v := by
  simp only [lastS_append, lastS, Option.none_or]
  cases ha : toS st a n v with
  | none => simp
  | some x =>
    cases hb : toS st b n v with
    | none => simp
    | some y =>
      obtain ⟨_, a1, a2, a3, _⟩ := toS_some.1 ha
      obtain ⟨_, b1, b2, b3, _⟩ := toS_some.1 hb
      exact absurd ⟨by omega, by omega, by omega⟩ h
theorem last_put {st : Bool} {m l : List Sp} (h : ∀ n v, lastS st m n v = lastS st l n v) (a : Sp) (n v : Int) : lastS st (m ++ [a]) n v = lastS st (l ++ [a]) n v := by
  rw [lastS_append, lastS_append, h]
/-- Put and Put again. -/
theorem put_two (st : Bool) (l : List Sp) (a b : Sp) (A : Option Addr) (c : Nat) (w : World) (hA : Ss w w.heap.size A l) (hn : A = none → c = 0) (hl : l.length ≤ 60) :
    (∀ W, Below w.heap.size w W → Calls Try.prog 23 #[.slice A l.length c, sv a, .bool st] W (fun e w' => ∃ m A1 c1, Cn st m ∧ (∀ n v, lastS st m n v = lastS st (l ++ [a]) n v) ∧ e = .returned (.slice A1 m.length c1) ∧ (A1 = none → c1 = 0) ∧ Ss w' w'.heap.size A1 m ∧ Below W.heap.size W w')) ∧
    (∀ (m : List Sp) (A1 : Option Addr) (c1 : Nat) W, Cn st m → (∀ n v, lastS st m n v = lastS st (l ++ [a]) n v) → (A1 = none → c1 = 0) → Ss W W.heap.size A1 m → Calls Try.prog 23 #[.slice A1 m.length c1, sv b, .bool st] W (fun e w' => ∃ m2 A2 c2, Cn st m2 ∧ (∀ n v, lastS st m2 n v = lastS st (l ++ [a] ++ [b]) n v) ∧ e = .returned (.slice A2 m2.length c2) ∧ m2.length ≤ 1000 ∧ Ss w' w'.heap.size A2 m2 ∧ Below W.heap.size W w')) := by
  refine ⟨fun W hW => ?_, fun m A1 c1 W h1 h2 h3 h4 => ?_⟩
  · refine (Put_any st l a (by omega) A c W (hA.over hW) hn).mono ?_
    rintro e w' ⟨m, p1, p2, A1, c1, rfl, _, q2, q3, q4⟩
    exact ⟨m, A1, c1, p1, p2, rfl, q2, q3, q4⟩
  · have hf := h1.few h2
    rw [List.length_append, List.length_singleton] at hf
    refine (Put_any st m b (by omega) A1 c1 W h4 h3).mono ?_
    rintro e w' ⟨m2, p1, p2, A2, c2, rfl, _, _, q3, q4⟩
    have hf2 := p1.few p2
    rw [List.length_append, List.length_singleton] at hf2
    exact ⟨m2, A2, c2, p1, fun n v => by rw [p2, last_put h2], rfl, by omega, q3, q4⟩
set_option maxRecDepth 100000 in
set_option maxHeartbeats 8000000 in
theorem order_walk (A : Option Addr) (c : Nat) (l : List Sp) (a b : Sp) (st : Bool) (w : World) (hA : Ss w w.heap.size A l) (hn : A = none → c = 0) :
    Calls Try.prog 7 #[.slice A l.length c, sv a, sv b, .bool st] w fun e w' => e = .returned (.bool true) ∧ Below w.heap.size w w' := by
  have HA := Lib.hid hA
  obtain ⟨k, hk⟩ : ∃ k, k = l.length := ⟨_, rfl⟩
  have HK := Lib.hid hk
  rw [← hk]
  have ha0 : Bs ((w.alloc (.cells #[.int .i64 a.n, .int .i64 a.lo, .int .i64 a.hi, .int .i64 a.to] 24)).alloc (.cells #[.int .i64 b.n, .int .i64 b.lo, .int .i64 b.hi, .int .i64 b.to] 24)) w.heap.size a := ⟨by simp, by simp, by simp, by simp⟩
  have hb00 : Bs ((w.alloc (.cells #[.int .i64 a.n, .int .i64 a.lo, .int .i64 a.hi, .int .i64 a.to] 24)).alloc (.cells #[.int .i64 b.n, .int .i64 b.lo, .int .i64 b.hi, .int .i64 b.to] 24)) (w.heap.size + 1) b := ⟨by simp, by simp, by simp, by simp⟩
  have hb0 : Below w.heap.size w ((w.alloc (.cells #[.int .i64 a.n, .int .i64 a.lo, .int .i64 a.hi, .int .i64 a.to] 24)).alloc (.cells #[.int .i64 b.n, .int .i64 b.lo, .int .i64 b.hi, .int .i64 b.to] 24)) := ((Below.refl _ _).alloc (Nat.le_refl _) _).alloc (by simp) _
  have hz0 : w.heap.size + 1 < ((w.alloc (.cells #[.int .i64 a.n, .int .i64 a.lo, .int .i64 a.hi, .int .i64 a.to] 24)).alloc (.cells #[.int .i64 b.n, .int .i64 b.lo, .int .i64 b.hi, .int .i64 b.to] 24)).heap.size := by simp
  have HNR := Lib.hid hn
  clear hk hA hn
  unfold sv
  go_enter Try.func7, Try.ntmps7
  go_wp2_with fail
  refine (awake_any _).mono ?_
  rintro e w1 ⟨rfl, hb1⟩
  have bk1 := hb0.trans (hb1.mono (by omega))
  have a1 := ha0.below hb1 (by omega)
  have b1 := hb00.below hb1 hz0
  have z1 := Nat.lt_of_lt_of_le hz0 hb1.size
  have A1 := Lib.hid a1
  have B1 := Lib.hid b1
  obtain ⟨x0, x1, x2, x3⟩ := a1
  obtain ⟨y0, y1, y2, y3⟩ := b1
  simp only [Nat.zero_add] at x1 x2 x3 y1 y2 y3
  clear ha0 hb00 hb0 hz0 hb1
  by_cases hbig : 50 < k
  · have t0 : decide (50 < k) = true := decide_eq_true hbig
    go_wp2
    go_ret
    exact ⟨rfl, bk1⟩
  · have t0 : decide (50 < k) = false := decide_eq_false hbig
    cases tn : (a.n == b.n) with
    | true =>
      cases t1 : decide (a.lo ≤ b.hi) with
      | true =>
        cases t2 : decide (b.lo ≤ a.hi) with
        | true =>
          go_wp2
          go_ret
          exact ⟨rfl, bk1⟩
        | false =>
          have HOFF : Hid (¬ (a.n = b.n ∧ a.lo ≤ b.hi ∧ b.lo ≤ a.hi)) := Lib.hid fun h => of_decide_eq_false t2 h.2.2
          obtain ⟨P1, P2⟩ := put_two st l a b A c w HA.out HNR.out (by have := HK.out; omega)
          obtain ⟨R1, R2⟩ := put_two st l b a A c w HA.out HNR.out (by have := HK.out; omega)
          rw [← HK.out] at P1 R1
          unfold sv at P1 P2 R1 R2
          have P1 := Lib.hid P1
          have P2 := Lib.hid P2
          have R1 := Lib.hid R1
          have R2 := Lib.hid R2
          have HH : Hid (∀ w', Below w1.heap.size w1 w' → (fun w' => (w'.cell? ⟨w.heap.size, 0, none⟩ = some (.int .i64 a.n) ∧ w'.cell? ⟨w.heap.size, 1, none⟩ = some (.int .i64 a.lo) ∧ w'.cell? ⟨w.heap.size, 2, none⟩ = some (.int .i64 a.hi) ∧ w'.cell? ⟨w.heap.size, 3, none⟩ = some (.int .i64 a.to)) ∧ (w'.cell? ⟨w.heap.size + 1, 0, none⟩ = some (.int .i64 b.n) ∧ w'.cell? ⟨w.heap.size + 1, 1, none⟩ = some (.int .i64 b.lo) ∧ w'.cell? ⟨w.heap.size + 1, 2, none⟩ = some (.int .i64 b.hi) ∧ w'.cell? ⟨w.heap.size + 1, 3, none⟩ = some (.int .i64 b.to))) w') := Lib.hid fun w' hw => by
            have p := A1.out.below hw (by omega)
            have q := B1.out.below hw z1
            exact ⟨⟨p.c0, by simpa using p.c1, by simpa using p.c2, by simpa using p.c3⟩, q.c0, by simpa using q.c1, by simpa using q.c2, by simpa using q.c3⟩
          have e0 : Below w1.heap.size w1 w1.drew := (Below.refl _ _).drew
          go_wp2_with fail
          clear x0 x1 x2 x3 y0 y1 y2 y3
          go_region_held (fun w' => (w'.cell? ⟨w.heap.size, 0, none⟩ = some (.int .i64 a.n) ∧ w'.cell? ⟨w.heap.size, 1, none⟩ = some (.int .i64 a.lo) ∧ w'.cell? ⟨w.heap.size, 2, none⟩ = some (.int .i64 a.hi) ∧ w'.cell? ⟨w.heap.size, 3, none⟩ = some (.int .i64 a.to)) ∧ (w'.cell? ⟨w.heap.size + 1, 0, none⟩ = some (.int .i64 b.n) ∧ w'.cell? ⟨w.heap.size + 1, 1, none⟩ = some (.int .i64 b.lo) ∧ w'.cell? ⟨w.heap.size + 1, 2, none⟩ = some (.int .i64 b.hi) ∧ w'.cell? ⟨w.heap.size + 1, 3, none⟩ = some (.int .i64 b.to)))
            (first | with_reducible exact HH.out _ e2 | with_reducible exact HH.out _ e1 | with_reducible exact HH.out _ e0)
            (first
              | (go_at_call 23; (with_reducible refine (P1.out _ (bk1.trans (e0.mono bk1.size))).mono ?_); rintro e u1 ⟨m1, D1, d1, g1, g2, rfl, g3, g4, g5⟩; have e1 := e0.trans (g5.mono e0.size))
              | (go_at_call 23; refine (P2.out m1 _ _ _ g1 g2 g3 g4).mono ?_; rintro e u2 ⟨m2, D2, d2, h1, h2, rfl, h3, h4, h5⟩; have e2 := e1.trans (h5.mono e1.size)))
          have HX1 := Lib.hid h1
          have HX2 := Lib.hid h2
          have HX4 := Lib.hid h4
          have HX3 := Lib.hid h3
          have hu := bk1.trans (e2.mono bk1.size)
          have f0 : Below u2.heap.size u2 u2.drew := (Below.refl _ _).drew
          have HH2 : Hid (∀ w', Below u2.heap.size u2 w' → (fun w' => (w'.cell? ⟨w.heap.size, 0, none⟩ = some (.int .i64 a.n) ∧ w'.cell? ⟨w.heap.size, 1, none⟩ = some (.int .i64 a.lo) ∧ w'.cell? ⟨w.heap.size, 2, none⟩ = some (.int .i64 a.hi) ∧ w'.cell? ⟨w.heap.size, 3, none⟩ = some (.int .i64 a.to)) ∧ (w'.cell? ⟨w.heap.size + 1, 0, none⟩ = some (.int .i64 b.n) ∧ w'.cell? ⟨w.heap.size + 1, 1, none⟩ = some (.int .i64 b.lo) ∧ w'.cell? ⟨w.heap.size + 1, 2, none⟩ = some (.int .i64 b.hi) ∧ w'.cell? ⟨w.heap.size + 1, 3, none⟩ = some (.int .i64 b.to))) w') := Lib.hid fun w' hw => HH.out w' (e2.trans (hw.mono e2.size))
          obtain ⟨l2, hl2⟩ : ∃ l2, l2 = m2.length := ⟨_, rfl⟩
          have HL2 := Lib.hid hl2
          rw [← hl2]
          clear hl2 g1 g2 g3 g4 g5 h1 h2 h3 h4 h5 P1 P2 e0 e1
          go_wp2_with fail
          go_region_held (fun w' => (w'.cell? ⟨w.heap.size, 0, none⟩ = some (.int .i64 a.n) ∧ w'.cell? ⟨w.heap.size, 1, none⟩ = some (.int .i64 a.lo) ∧ w'.cell? ⟨w.heap.size, 2, none⟩ = some (.int .i64 a.hi) ∧ w'.cell? ⟨w.heap.size, 3, none⟩ = some (.int .i64 a.to)) ∧ (w'.cell? ⟨w.heap.size + 1, 0, none⟩ = some (.int .i64 b.n) ∧ w'.cell? ⟨w.heap.size + 1, 1, none⟩ = some (.int .i64 b.lo) ∧ w'.cell? ⟨w.heap.size + 1, 2, none⟩ = some (.int .i64 b.hi) ∧ w'.cell? ⟨w.heap.size + 1, 3, none⟩ = some (.int .i64 b.to)))
            (first | with_reducible exact HH2.out _ f2 | with_reducible exact HH2.out _ f1 | with_reducible exact HH2.out _ f0)
            (first
              | (go_at_call 23; (with_reducible refine (R1.out _ (hu.trans (f0.mono hu.size))).mono ?_); rintro e u3 ⟨m3, D3, d3, g1, g2, rfl, g3, g4, g5⟩; have f1 := f0.trans (g5.mono f0.size))
              | (go_at_call 23; refine (R2.out m3 _ _ _ g1 g2 g3 g4).mono ?_; rintro e u4 ⟨m4, D4, d4, h1, h2, rfl, h3, h4, h5⟩; have f2 := f1.trans (h5.mono f1.size)))
          obtain rfl : m4 = m2 := h1.one HX1.out fun n v => by rw [h2, HX2.out, last_swap HOFF.out]
          have K1 := Lib.hid (rSame_yes (c1 := d2) (c2 := d4) (HX4.out.over f2) h4 (by have := HX3.out; omega))
          have K2 : Hid (∀ W, Below u2.heap.size u2 W → Calls Try.prog 18 #[.slice D2 l2 d2, .bool st] W fun e w' => e = .returned (.bool true) ∧ Below W.heap.size W w') := Lib.hid fun W hW => by
            have := Canon_any st D2 d2 m4 W (HX4.out.over hW) (by have := HX3.out; omega)
            rw [decide_eq_true HX1.out] at this
            rwa [← HL2.out] at this
          rw [← HL2.out] at K1 ⊢
          clear g1 g2 g3 g4 g5 h1 h2 h3 h4 h5 R1 R2 f0 f1
          go_wp2_with fail
          refine K1.out.mono ?_
          rintro e u5 ⟨rfl, i5⟩
          have f5 := f2.trans (i5.mono f2.size)
          go_wp2_with fail
          refine (K2.out _ f5).mono ?_
          rintro e u6 ⟨rfl, i6⟩
          go_wp2
          go_ret
          exact ⟨rfl, hu.trans ((f5.trans (i6.mono f5.size)).mono hu.size)⟩
      | false =>
        have HOFF : Hid (¬ (a.n = b.n ∧ a.lo ≤ b.hi ∧ b.lo ≤ a.hi)) := Lib.hid fun h => of_decide_eq_false t1 h.2.1
        obtain ⟨P1, P2⟩ := put_two st l a b A c w HA.out HNR.out (by have := HK.out; omega)
        obtain ⟨R1, R2⟩ := put_two st l b a A c w HA.out HNR.out (by have := HK.out; omega)
        rw [← HK.out] at P1 R1
        unfold sv at P1 P2 R1 R2
        have P1 := Lib.hid P1
        have P2 := Lib.hid P2
        have R1 := Lib.hid R1
        have R2 := Lib.hid R2
        have HH : Hid (∀ w', Below w1.heap.size w1 w' → (fun w' => (w'.cell? ⟨w.heap.size, 0, none⟩ = some (.int .i64 a.n) ∧ w'.cell? ⟨w.heap.size, 1, none⟩ = some (.int .i64 a.lo) ∧ w'.cell? ⟨w.heap.size, 2, none⟩ = some (.int .i64 a.hi) ∧ w'.cell? ⟨w.heap.size, 3, none⟩ = some (.int .i64 a.to)) ∧ (w'.cell? ⟨w.heap.size + 1, 0, none⟩ = some (.int .i64 b.n) ∧ w'.cell? ⟨w.heap.size + 1, 1, none⟩ = some (.int .i64 b.lo) ∧ w'.cell? ⟨w.heap.size + 1, 2, none⟩ = some (.int .i64 b.hi) ∧ w'.cell? ⟨w.heap.size + 1, 3, none⟩ = some (.int .i64 b.to))) w') := Lib.hid fun w' hw => by
          have p := A1.out.below hw (by omega)
          have q := B1.out.below hw z1
          exact ⟨⟨p.c0, by simpa using p.c1, by simpa using p.c2, by simpa using p.c3⟩, q.c0, by simpa using q.c1, by simpa using q.c2, by simpa using q.c3⟩
        have e0 : Below w1.heap.size w1 w1.drew := (Below.refl _ _).drew
        go_wp2_with fail
        clear x0 x1 x2 x3 y0 y1 y2 y3
        go_region_held (fun w' => (w'.cell? ⟨w.heap.size, 0, none⟩ = some (.int .i64 a.n) ∧ w'.cell? ⟨w.heap.size, 1, none⟩ = some (.int .i64 a.lo) ∧ w'.cell? ⟨w.heap.size, 2, none⟩ = some (.int .i64 a.hi) ∧ w'.cell? ⟨w.heap.size, 3, none⟩ = some (.int .i64 a.to)) ∧ (w'.cell? ⟨w.heap.size + 1, 0, none⟩ = some (.int .i64 b.n) ∧ w'.cell? ⟨w.heap.size + 1, 1, none⟩ = some (.int .i64 b.lo) ∧ w'.cell? ⟨w.heap.size + 1, 2, none⟩ = some (.int .i64 b.hi) ∧ w'.cell? ⟨w.heap.size + 1, 3, none⟩ = some (.int .i64 b.to)))
          (first | with_reducible exact HH.out _ e2 | with_reducible exact HH.out _ e1 | with_reducible exact HH.out _ e0)
          (first
            | (go_at_call 23; (with_reducible refine (P1.out _ (bk1.trans (e0.mono bk1.size))).mono ?_); rintro e u1 ⟨m1, D1, d1, g1, g2, rfl, g3, g4, g5⟩; have e1 := e0.trans (g5.mono e0.size))
            | (go_at_call 23; refine (P2.out m1 _ _ _ g1 g2 g3 g4).mono ?_; rintro e u2 ⟨m2, D2, d2, h1, h2, rfl, h3, h4, h5⟩; have e2 := e1.trans (h5.mono e1.size)))
        have HX1 := Lib.hid h1
        have HX2 := Lib.hid h2
        have HX4 := Lib.hid h4
        have HX3 := Lib.hid h3
        have hu := bk1.trans (e2.mono bk1.size)
        have f0 : Below u2.heap.size u2 u2.drew := (Below.refl _ _).drew
        have HH2 : Hid (∀ w', Below u2.heap.size u2 w' → (fun w' => (w'.cell? ⟨w.heap.size, 0, none⟩ = some (.int .i64 a.n) ∧ w'.cell? ⟨w.heap.size, 1, none⟩ = some (.int .i64 a.lo) ∧ w'.cell? ⟨w.heap.size, 2, none⟩ = some (.int .i64 a.hi) ∧ w'.cell? ⟨w.heap.size, 3, none⟩ = some (.int .i64 a.to)) ∧ (w'.cell? ⟨w.heap.size + 1, 0, none⟩ = some (.int .i64 b.n) ∧ w'.cell? ⟨w.heap.size + 1, 1, none⟩ = some (.int .i64 b.lo) ∧ w'.cell? ⟨w.heap.size + 1, 2, none⟩ = some (.int .i64 b.hi) ∧ w'.cell? ⟨w.heap.size + 1, 3, none⟩ = some (.int .i64 b.to))) w') := Lib.hid fun w' hw => HH.out w' (e2.trans (hw.mono e2.size))
        obtain ⟨l2, hl2⟩ : ∃ l2, l2 = m2.length := ⟨_, rfl⟩
        have HL2 := Lib.hid hl2
        rw [← hl2]
        clear hl2 g1 g2 g3 g4 g5 h1 h2 h3 h4 h5 P1 P2 e0 e1
        go_wp2_with fail
        go_region_held (fun w' => (w'.cell? ⟨w.heap.size, 0, none⟩ = some (.int .i64 a.n) ∧ w'.cell? ⟨w.heap.size, 1, none⟩ = some (.int .i64 a.lo) ∧ w'.cell? ⟨w.heap.size, 2, none⟩ = some (.int .i64 a.hi) ∧ w'.cell? ⟨w.heap.size, 3, none⟩ = some (.int .i64 a.to)) ∧ (w'.cell? ⟨w.heap.size + 1, 0, none⟩ = some (.int .i64 b.n) ∧ w'.cell? ⟨w.heap.size + 1, 1, none⟩ = some (.int .i64 b.lo) ∧ w'.cell? ⟨w.heap.size + 1, 2, none⟩ = some (.int .i64 b.hi) ∧ w'.cell? ⟨w.heap.size + 1, 3, none⟩ = some (.int .i64 b.to)))
          (first | with_reducible exact HH2.out _ f2 | with_reducible exact HH2.out _ f1 | with_reducible exact HH2.out _ f0)
          (first
            | (go_at_call 23; (with_reducible refine (R1.out _ (hu.trans (f0.mono hu.size))).mono ?_); rintro e u3 ⟨m3, D3, d3, g1, g2, rfl, g3, g4, g5⟩; have f1 := f0.trans (g5.mono f0.size))
            | (go_at_call 23; refine (R2.out m3 _ _ _ g1 g2 g3 g4).mono ?_; rintro e u4 ⟨m4, D4, d4, h1, h2, rfl, h3, h4, h5⟩; have f2 := f1.trans (h5.mono f1.size)))
        obtain rfl : m4 = m2 := h1.one HX1.out fun n v => by rw [h2, HX2.out, last_swap HOFF.out]
        have K1 := Lib.hid (rSame_yes (c1 := d2) (c2 := d4) (HX4.out.over f2) h4 (by have := HX3.out; omega))
        have K2 : Hid (∀ W, Below u2.heap.size u2 W → Calls Try.prog 18 #[.slice D2 l2 d2, .bool st] W fun e w' => e = .returned (.bool true) ∧ Below W.heap.size W w') := Lib.hid fun W hW => by
          have := Canon_any st D2 d2 m4 W (HX4.out.over hW) (by have := HX3.out; omega)
          rw [decide_eq_true HX1.out] at this
          rwa [← HL2.out] at this
        rw [← HL2.out] at K1 ⊢
        clear g1 g2 g3 g4 g5 h1 h2 h3 h4 h5 R1 R2 f0 f1
        go_wp2_with fail
        refine K1.out.mono ?_
        rintro e u5 ⟨rfl, i5⟩
        have f5 := f2.trans (i5.mono f2.size)
        go_wp2_with fail
        refine (K2.out _ f5).mono ?_
        rintro e u6 ⟨rfl, i6⟩
        go_wp2
        go_ret
        exact ⟨rfl, hu.trans ((f5.trans (i6.mono f5.size)).mono hu.size)⟩
    | false =>
      have HOFF : Hid (¬ (a.n = b.n ∧ a.lo ≤ b.hi ∧ b.lo ≤ a.hi)) := Lib.hid fun h => by have := h.1; simp [this] at tn
      obtain ⟨P1, P2⟩ := put_two st l a b A c w HA.out HNR.out (by have := HK.out; omega)
      obtain ⟨R1, R2⟩ := put_two st l b a A c w HA.out HNR.out (by have := HK.out; omega)
      rw [← HK.out] at P1 R1
      unfold sv at P1 P2 R1 R2
      have P1 := Lib.hid P1
      have P2 := Lib.hid P2
      have R1 := Lib.hid R1
      have R2 := Lib.hid R2
      have HH : Hid (∀ w', Below w1.heap.size w1 w' → (fun w' => (w'.cell? ⟨w.heap.size, 0, none⟩ = some (.int .i64 a.n) ∧ w'.cell? ⟨w.heap.size, 1, none⟩ = some (.int .i64 a.lo) ∧ w'.cell? ⟨w.heap.size, 2, none⟩ = some (.int .i64 a.hi) ∧ w'.cell? ⟨w.heap.size, 3, none⟩ = some (.int .i64 a.to)) ∧ (w'.cell? ⟨w.heap.size + 1, 0, none⟩ = some (.int .i64 b.n) ∧ w'.cell? ⟨w.heap.size + 1, 1, none⟩ = some (.int .i64 b.lo) ∧ w'.cell? ⟨w.heap.size + 1, 2, none⟩ = some (.int .i64 b.hi) ∧ w'.cell? ⟨w.heap.size + 1, 3, none⟩ = some (.int .i64 b.to))) w') := Lib.hid fun w' hw => by
        have p := A1.out.below hw (by omega)
        have q := B1.out.below hw z1
        exact ⟨⟨p.c0, by simpa using p.c1, by simpa using p.c2, by simpa using p.c3⟩, q.c0, by simpa using q.c1, by simpa using q.c2, by simpa using q.c3⟩
      have e0 : Below w1.heap.size w1 w1.drew := (Below.refl _ _).drew
      go_wp2_with fail
      clear x0 x1 x2 x3 y0 y1 y2 y3
      go_region_held (fun w' => (w'.cell? ⟨w.heap.size, 0, none⟩ = some (.int .i64 a.n) ∧ w'.cell? ⟨w.heap.size, 1, none⟩ = some (.int .i64 a.lo) ∧ w'.cell? ⟨w.heap.size, 2, none⟩ = some (.int .i64 a.hi) ∧ w'.cell? ⟨w.heap.size, 3, none⟩ = some (.int .i64 a.to)) ∧ (w'.cell? ⟨w.heap.size + 1, 0, none⟩ = some (.int .i64 b.n) ∧ w'.cell? ⟨w.heap.size + 1, 1, none⟩ = some (.int .i64 b.lo) ∧ w'.cell? ⟨w.heap.size + 1, 2, none⟩ = some (.int .i64 b.hi) ∧ w'.cell? ⟨w.heap.size + 1, 3, none⟩ = some (.int .i64 b.to)))
        (first | with_reducible exact HH.out _ e2 | with_reducible exact HH.out _ e1 | with_reducible exact HH.out _ e0)
        (first
          | (go_at_call 23; (with_reducible refine (P1.out _ (bk1.trans (e0.mono bk1.size))).mono ?_); rintro e u1 ⟨m1, D1, d1, g1, g2, rfl, g3, g4, g5⟩; have e1 := e0.trans (g5.mono e0.size))
          | (go_at_call 23; refine (P2.out m1 _ _ _ g1 g2 g3 g4).mono ?_; rintro e u2 ⟨m2, D2, d2, h1, h2, rfl, h3, h4, h5⟩; have e2 := e1.trans (h5.mono e1.size)))
      have HX1 := Lib.hid h1
      have HX2 := Lib.hid h2
      have HX4 := Lib.hid h4
      have HX3 := Lib.hid h3
      have hu := bk1.trans (e2.mono bk1.size)
      have f0 : Below u2.heap.size u2 u2.drew := (Below.refl _ _).drew
      have HH2 : Hid (∀ w', Below u2.heap.size u2 w' → (fun w' => (w'.cell? ⟨w.heap.size, 0, none⟩ = some (.int .i64 a.n) ∧ w'.cell? ⟨w.heap.size, 1, none⟩ = some (.int .i64 a.lo) ∧ w'.cell? ⟨w.heap.size, 2, none⟩ = some (.int .i64 a.hi) ∧ w'.cell? ⟨w.heap.size, 3, none⟩ = some (.int .i64 a.to)) ∧ (w'.cell? ⟨w.heap.size + 1, 0, none⟩ = some (.int .i64 b.n) ∧ w'.cell? ⟨w.heap.size + 1, 1, none⟩ = some (.int .i64 b.lo) ∧ w'.cell? ⟨w.heap.size + 1, 2, none⟩ = some (.int .i64 b.hi) ∧ w'.cell? ⟨w.heap.size + 1, 3, none⟩ = some (.int .i64 b.to))) w') := Lib.hid fun w' hw => HH.out w' (e2.trans (hw.mono e2.size))
      obtain ⟨l2, hl2⟩ : ∃ l2, l2 = m2.length := ⟨_, rfl⟩
      have HL2 := Lib.hid hl2
      rw [← hl2]
      clear hl2 g1 g2 g3 g4 g5 h1 h2 h3 h4 h5 P1 P2 e0 e1
      go_wp2_with fail
      go_region_held (fun w' => (w'.cell? ⟨w.heap.size, 0, none⟩ = some (.int .i64 a.n) ∧ w'.cell? ⟨w.heap.size, 1, none⟩ = some (.int .i64 a.lo) ∧ w'.cell? ⟨w.heap.size, 2, none⟩ = some (.int .i64 a.hi) ∧ w'.cell? ⟨w.heap.size, 3, none⟩ = some (.int .i64 a.to)) ∧ (w'.cell? ⟨w.heap.size + 1, 0, none⟩ = some (.int .i64 b.n) ∧ w'.cell? ⟨w.heap.size + 1, 1, none⟩ = some (.int .i64 b.lo) ∧ w'.cell? ⟨w.heap.size + 1, 2, none⟩ = some (.int .i64 b.hi) ∧ w'.cell? ⟨w.heap.size + 1, 3, none⟩ = some (.int .i64 b.to)))
        (first | with_reducible exact HH2.out _ f2 | with_reducible exact HH2.out _ f1 | with_reducible exact HH2.out _ f0)
        (first
          | (go_at_call 23; (with_reducible refine (R1.out _ (hu.trans (f0.mono hu.size))).mono ?_); rintro e u3 ⟨m3, D3, d3, g1, g2, rfl, g3, g4, g5⟩; have f1 := f0.trans (g5.mono f0.size))
          | (go_at_call 23; refine (R2.out m3 _ _ _ g1 g2 g3 g4).mono ?_; rintro e u4 ⟨m4, D4, d4, h1, h2, rfl, h3, h4, h5⟩; have f2 := f1.trans (h5.mono f1.size)))
      obtain rfl : m4 = m2 := h1.one HX1.out fun n v => by rw [h2, HX2.out, last_swap HOFF.out]
      have K1 := Lib.hid (rSame_yes (c1 := d2) (c2 := d4) (HX4.out.over f2) h4 (by have := HX3.out; omega))
      have K2 : Hid (∀ W, Below u2.heap.size u2 W → Calls Try.prog 18 #[.slice D2 l2 d2, .bool st] W fun e w' => e = .returned (.bool true) ∧ Below W.heap.size W w') := Lib.hid fun W hW => by
        have := Canon_any st D2 d2 m4 W (HX4.out.over hW) (by have := HX3.out; omega)
        rw [decide_eq_true HX1.out] at this
        rwa [← HL2.out] at this
      rw [← HL2.out] at K1 ⊢
      clear g1 g2 g3 g4 g5 h1 h2 h3 h4 h5 R1 R2 f0 f1
      go_wp2_with fail
      refine K1.out.mono ?_
      rintro e u5 ⟨rfl, i5⟩
      have f5 := f2.trans (i5.mono f2.size)
      go_wp2_with fail
      refine (K2.out _ f5).mono ?_
      rintro e u6 ⟨rfl, i6⟩
      go_wp2
      go_ret
      exact ⟨rfl, hu.trans ((f5.trans (i6.mono f5.size)).mono hu.size)⟩
end Go.Proofs.Ytdlkgcbiekilhaa
