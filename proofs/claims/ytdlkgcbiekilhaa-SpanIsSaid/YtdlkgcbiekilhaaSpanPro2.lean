/-
  The program's own Sane, To.
-/
import Derived.Test.YtdlkgcbiekilhaaSpanPro1
import Derived.Handy
namespace Go.Proofs.Ytdlkgcbiekilhaa
open Go.RowKit
attribute [local go_sem ↓] Go.wp_at_zero Go.wp_at_succ

theorem Sn_eq (st : Bool) (s : Sp) : decide (Sn st s) = (saneB s.n s.lo && (saneB s.n s.hi && (decide (s.lo ≤ s.hi) && (decide (0 ≤ s.to) && (decide (s.to ≤ 65535) && decide (goesS st s s.hi ≤ 65535)))))) := by
  show decide (saneB s.n s.lo = true ∧ saneB s.n s.hi = true ∧ s.lo ≤ s.hi ∧ 0 ≤ s.to ∧ s.to ≤ 65535 ∧ goesS st s s.hi ≤ 65535) = _
  rw [Bool.eq_iff_iff]
  simp
set_option maxHeartbeats 4000000 in
theorem SSane_any (st : Bool) (s : Sp) (w : World) :
    Calls Try.prog 16 #[sv s, .bool st] w fun e w' => e = .returned (.bool (decide (Sn st s))) ∧ Below w.heap.size w w' := by
  have hs := Bs.new w s 24
  have hb0 : Below w.heap.size w (w.alloc (.cells #[.int .i64 s.n, .int .i64 s.lo, .int .i64 s.hi, .int .i64 s.to] 24)) := (Below.refl _ _).alloc (Nat.le_refl _) _
  have hz0 : w.heap.size < (w.alloc (.cells #[.int .i64 s.n, .int .i64 s.lo, .int .i64 s.hi, .int .i64 s.to] 24)).heap.size := by simp
  have K1 := Lib.hid (fun W => Sane_any s.n s.lo W)
  have K2 := Lib.hid (fun W => Sane_any s.n s.hi W)
  have K3 : Hid (Sn st s ∨ ¬ Sn st s → ∀ W, saneB s.n s.lo = true → saneB s.n s.hi = true → 0 ≤ s.to → s.to ≤ 65535 → Calls Try.prog 25 #[sv s, .int .i64 s.hi, .bool st] W fun e w' => e = .returned (.int .i64 (goesS st s s.hi)) ∧ Below W.heap.size W w') := Lib.hid fun _ W h1 h2 h3 h4 => by
    have a := saneB_top h1
    have b := saneB_top h2
    exact goes_any st s s.hi W a.1 a.2.1 h3 h4 b.1 (by omega)
  rw [Sn_eq]
  cases d1 : saneB s.n s.lo with
  | false =>
    rw [d1] at K1
    unfold sv at *
    go_enter Try.func16, Try.ntmps16
    go_wp2_with ((go_at_call 31; refine (K1.out _).mono ?_; rintro e w1 ⟨rfl, hb1⟩))
    go_ret
    exact ⟨rfl, hb0.trans (hb1.mono (by omega))⟩
  | true =>
    cases d2 : saneB s.n s.hi with
    | false =>
      rw [d1] at K1
      rw [d2] at K2
      unfold sv at *
      go_enter Try.func16, Try.ntmps16
      go_wp2_with fail
      refine (K1.out _).mono ?_
      rintro e w1 ⟨rfl, hb1⟩
      obtain ⟨c0, c1, c2, c3⟩ := hs.below hb1 hz0
      rw [Nat.zero_add] at c1 c2 c3
      go_wp2_with fail
      refine (K2.out _).mono ?_
      rintro e w2 ⟨rfl, hb2⟩
      go_wp2
      go_ret
      exact ⟨rfl, (hb0.trans (hb1.mono (by omega))).trans (hb2.mono (by have := hb1.size; omega))⟩
    | true =>
      have K4 : Hid (∀ W, 0 ≤ s.to → s.to ≤ 65535 → Calls Try.prog 25 #[sv s, .int .i64 s.hi, .bool st] W fun e w' => e = .returned (.int .i64 (goesS st s s.hi)) ∧ Below W.heap.size W w') := Lib.hid fun W h3 h4 => K3.out (Classical.em _) W d1 d2 h3 h4
      rw [d1] at K1
      rw [d2] at K2
      clear K3
      generalize goesS st s s.hi = g at *
      unfold sv at *
      have key : ∀ w1 w2, Below (w.alloc (.cells #[.int .i64 s.n, .int .i64 s.lo, .int .i64 s.hi, .int .i64 s.to] 24)).heap.size (w.alloc (.cells #[.int .i64 s.n, .int .i64 s.lo, .int .i64 s.hi, .int .i64 s.to] 24)) w1 → Below w1.heap.size w1 w2 → Below w.heap.size w w2 ∧ w.heap.size < w2.heap.size := fun w1 w2 hb1 hb2 => by
        have a := hb1.size
        have b := hb2.size
        exact ⟨(hb0.trans (hb1.mono (by omega))).trans (hb2.mono (by omega)), by omega⟩
      go_enter Try.func16, Try.ntmps16
      go_wp2_with fail
      refine (K1.out _).mono ?_
      rintro e w1 ⟨rfl, hb1⟩
      obtain ⟨c0, c1, c2, c3⟩ := hs.below hb1 hz0
      rw [Nat.zero_add] at c1 c2 c3
      go_wp2_with fail
      refine (K2.out _).mono ?_
      rintro e w2 ⟨rfl, hb2⟩
      obtain ⟨hbk, hz2⟩ := key _ _ hb1 hb2
      obtain ⟨c0, c1, c2, c3⟩ := (hs.below hb1 hz0).below hb2 (by have := hb1.size; omega)
      rw [Nat.zero_add] at c1 c2 c3
      clear hb1 hb2 key hs hb0
      by_cases h3 : s.lo ≤ s.hi
      · have d3 : decide (s.lo ≤ s.hi) = true := decide_eq_true h3
        have d3' : decide (s.hi < s.lo) = false := decide_eq_false (by omega)
        by_cases h4 : 0 ≤ s.to
        · have d4 : decide (0 ≤ s.to) = true := decide_eq_true h4
          by_cases h5 : s.to ≤ 65535
          · have d5 : decide (s.to ≤ 65535) = true := decide_eq_true h5
            have K5 := Lib.hid fun W => K4.out W h4 h5
            clear K4 h3 h4 h5
            go_wp2_with ((go_at_call 25; refine (K5.out _).mono ?_; rintro e w3 ⟨rfl, hb3⟩))
            go_ret
            exact ⟨by (first | (rw [d3, d4, d5]; rfl) | rfl), hbk.trans (hb3.mono (by omega))⟩
          · have d5 : decide (s.to ≤ 65535) = false := decide_eq_false h5
            clear K4 h3 h4 h5
            go_wp2_with fail
            go_ret
            exact ⟨by (first | (rw [d3, d4, d5]; rfl) | rfl), hbk⟩
        · have d4 : decide (0 ≤ s.to) = false := decide_eq_false h4
          clear K4 h3 h4
          go_wp2_with fail
          go_ret
          exact ⟨by (first | (rw [d3, d4]; rfl) | rfl), hbk⟩
      · have d3 : decide (s.lo ≤ s.hi) = false := decide_eq_false h3
        have d3' : decide (s.hi < s.lo) = true := decide_eq_true (by omega)
        clear K4 h3
        go_wp2_with fail
        go_ret
        exact ⟨by (first | (rw [d3]; rfl) | rfl), hbk⟩
/-- Two results: a number, and whether it is one. -/
def oV (o : Option Int) : Value := .tuple #[.int .i64 (o.getD 0), .bool o.isSome]
set_option maxHeartbeats 4000000 in
theorem To_any (st : Bool) (s : Sp) (n v : Int) (w : World) :
    Calls Try.prog 10 #[sv s, .agg #[.int .i64 n, .int .i64 v], .bool st] w fun e w' => e = .returned (oV (toS st s n v)) ∧ Below w.heap.size w w' := by
  have K1 := Lib.hid (fun W => SSane_any st s W)
  have hs0 := Bs.new w s 24
  have hb0 : Below w.heap.size w ((w.alloc (.cells #[.int .i64 s.n, .int .i64 s.lo, .int .i64 s.hi, .int .i64 s.to] 24)).alloc (.cells #[.int .i64 n, .int .i64 v] 26)) := ((Below.refl _ _).alloc (Nat.le_refl _) _).alloc (by simp) _
  have hs : Bs ((w.alloc (.cells #[.int .i64 s.n, .int .i64 s.lo, .int .i64 s.hi, .int .i64 s.to] 24)).alloc (.cells #[.int .i64 n, .int .i64 v] 26)) w.heap.size s := ⟨by simp, by simp, by simp, by simp⟩
  have hd : Bd ((w.alloc (.cells #[.int .i64 s.n, .int .i64 s.lo, .int .i64 s.hi, .int .i64 s.to] 24)).alloc (.cells #[.int .i64 n, .int .i64 v] 26)) (w.heap.size + 1) n v := ⟨by simp, by simp⟩
  have hz0 : w.heap.size + 1 < ((w.alloc (.cells #[.int .i64 s.n, .int .i64 s.lo, .int .i64 s.hi, .int .i64 s.to] 24)).alloc (.cells #[.int .i64 n, .int .i64 v] 26)).heap.size := by simp
  clear hs0
  by_cases h0 : Sn st s
  · have K2 := Lib.hid (fun (h : s.lo ≤ v ∧ v ≤ s.hi) (W : World) => goes_any st s v W (Sn.nr h0).l0 (Sn.nr h0).l1 (Sn.nr h0).t0 (Sn.nr h0).t1 (by have := (Sn.nr h0).l0; omega) (by have := (Sn.nr h0).h1; omega))
    have e : toS st s n v = if (n == s.n && (decide (s.lo ≤ v) && decide (v ≤ s.hi))) = true then some (goesS st s v) else none := by
      unfold toS
      congr 1
      simp [h0]
    generalize goesS st s v = g at *
    obtain ⟨r, hr⟩ : ∃ r, r = toS st s n v := ⟨_, rfl⟩
    rw [← hr]
    have HR := Lib.hid (hr.trans e)
    rw [decide_eq_true h0] at K1
    clear e h0 hr
    unfold sv at *
    go_enter Try.func10, Try.ntmps10
    go_wp2_with fail
    refine (K1.out _).mono ?_
    rintro e w1 ⟨rfl, hb1⟩
    obtain ⟨c0, c1, c2, c3⟩ := hs.below hb1 (by omega)
    obtain ⟨f0, f1⟩ := hd.below hb1 hz0
    rw [Nat.zero_add] at c1 c2 c3
    have hbk : Below w.heap.size w w1 := hb0.trans (hb1.mono (by omega))
    have hz1 : w.heap.size < w1.heap.size := by have := hb1.size; omega
    clear hb1 hb0 hs hd hz0
    by_cases h1 : n = s.n
    · have d1 : (n == s.n) = true := by simp [h1]
      have d1' : (n != s.n) = false := by simp [h1]
      have H1 := Lib.hid h1
      clear h1
      by_cases h2 : s.lo ≤ v
      · have d2 : decide (v < s.lo) = false := decide_eq_false (by omega)
        by_cases h3 : v ≤ s.hi
        · have d3 : decide (s.hi < v) = false := decide_eq_false (by omega)
          have e2 : (if (n == s.n && (decide (s.lo ≤ v) && decide (v ≤ s.hi))) = true then some g else none) = some g := by simp [d1, h2, h3]
          have E2 := Lib.hid e2
          have K3 := Lib.hid (fun W => K2.out ⟨h2, h3⟩ W)
          clear K2 h2 h3 e2
          go_wp2_with ((go_at_call 25; refine (K3.out _).mono ?_; rintro e w3 ⟨rfl, hb3⟩))
          go_returns
          exact ⟨by first | rfl | (rw [HR.out, E2.out]; rfl), hbk.trans (hb3.mono (by omega))⟩
        · have d3 : decide (s.hi < v) = true := decide_eq_true (by omega)
          have e2 : (if (n == s.n && (decide (s.lo ≤ v) && decide (v ≤ s.hi))) = true then some g else none) = none := by simp [h3]
          have E2 := Lib.hid e2
          clear K2 h2 h3 e2
          go_wp2_with fail
          go_returns
          exact ⟨by first | rfl | (rw [HR.out, E2.out]; rfl), hbk⟩
      · have d2 : decide (v < s.lo) = true := decide_eq_true (by omega)
        have e2 : (if (n == s.n && (decide (s.lo ≤ v) && decide (v ≤ s.hi))) = true then some g else none) = none := by simp [h2]
        have E2 := Lib.hid e2
        clear K2 h2 e2
        go_wp2_with fail
        go_returns
        exact ⟨by first | rfl | (rw [HR.out, E2.out]; rfl), hbk⟩
    · have d1 : (n != s.n) = true := by simp [h1]
      have d1' : (n == s.n) = false := by simp [h1]
      have e2 : (if (n == s.n && (decide (s.lo ≤ v) && decide (v ≤ s.hi))) = true then some g else none) = none := by simp [h1]
      have E2 := Lib.hid e2
      clear K2 h1 e2
      go_wp2_with fail
      go_returns
      exact ⟨by first | rfl | (rw [HR.out, E2.out]; rfl), hbk⟩
  · have e : toS st s n v = none := by
      unfold toS
      rw [if_neg (fun k => h0 k.1)]
    rw [e]
    rw [decide_eq_false h0] at K1
    clear e h0
    unfold sv at *
    go_enter Try.func10, Try.ntmps10
    go_wp2_with ((go_at_call 16; refine (K1.out _).mono ?_; rintro e w3 ⟨rfl, hb3⟩))
    go_returns
    exact ⟨rfl, hb0.trans (hb3.mono (by omega))⟩
end Go.Proofs.Ytdlkgcbiekilhaa
