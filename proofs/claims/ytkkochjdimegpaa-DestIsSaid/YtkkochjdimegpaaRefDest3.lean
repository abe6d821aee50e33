/-
  The document's own To, joins (hornbookref08).
-/
import Derived.Test.YtkkochjdimegpaaRefDest1
import Derived.Test.YtkkochjdimegpaaRefDest2
namespace Go.Proofs.Ytkkochjdimegpaa
open Go.RowKit
attribute [local go_sem ↓] Go.wp_at_zero Go.wp_at_succ

set_option maxRecDepth 100000 in
set_option maxHeartbeats 4000000 in
theorem rDTo_any (x : Me) (n v : Int) (w : World) (hu : Un w x.a x.c x.b.u) (hln : x.b.u.length ≤ 9223372036854775807) :
    Calls Try.prog 13 #[fv x, .agg #[.int .i64 n, .int .i64 v]] w (RetO w (toB x.b n v)) := by
  have K1 := Lib.hid (fun W (hW : Below w.heap.size w W) => rDSane_any x W (hu.over hW) hln)
  have KN := Lib.hid (fun W => rSane_any n v W)
  have hb0 : Below w.heap.size w ((w.alloc (.cells #[.int .i64 x.b.n, .int .i64 x.b.lo, .int .i64 x.b.hi, .slice x.a x.b.u.length x.c] 25)).alloc (.cells #[.int .i64 n, .int .i64 v] 27)) := ((Below.refl _ _).alloc (Nat.le_refl _) _).alloc (by simp) _
  have hs : Fb ((w.alloc (.cells #[.int .i64 x.b.n, .int .i64 x.b.lo, .int .i64 x.b.hi, .slice x.a x.b.u.length x.c] 25)).alloc (.cells #[.int .i64 n, .int .i64 v] 27)) w.heap.size x := ⟨by simp, by simp, by simp, by simp⟩
  have hd : Cd ((w.alloc (.cells #[.int .i64 x.b.n, .int .i64 x.b.lo, .int .i64 x.b.hi, .slice x.a x.b.u.length x.c] 25)).alloc (.cells #[.int .i64 n, .int .i64 v] 27)) (w.heap.size + 1) n v := ⟨by simp, by simp⟩
  have hz0 : w.heap.size + 1 < ((w.alloc (.cells #[.int .i64 x.b.n, .int .i64 x.b.lo, .int .i64 x.b.hi, .slice x.a x.b.u.length x.c] 25)).alloc (.cells #[.int .i64 n, .int .i64 v] 27)).heap.size := by simp
  obtain ⟨r, hr⟩ : ∃ r, r = toB x.b n v := ⟨_, rfl⟩
  rw [← hr]
  have HR := Lib.hid hr
  clear hr
  by_cases h0 : Sb x.b
  · have HSB := Lib.hid h0
    have h0' := id h0
    obtain ⟨s1, s2, s3, s4, s5⟩ := h0'
    have a1 := saneB_top s1
    have a2 := saneB_top s2
    have hlu := s4.last
    have K2 : Hid (∀ W, Below w.heap.size w W → x.b.lo ≤ v → v ≤ x.b.hi → Calls Try.prog 30 #[.slice x.a x.b.u.length x.c, .int .i64 (v - x.b.lo)] W fun e w' => ∃ r, e = .returned r ∧ w'.ownsRow W.heap.size 3 1 r x.b.u.length (ivs (goB x.b v)) ∧ Below W.heap.size W w') := Lib.hid fun W hW h2 h3 => further_any x.a x.c x.b.u (v - x.b.lo) W (hu.over hW) (by have := s4.1; omega) (by have := s4.2.1; omega) (by omega) (by omega)
    have hsub : x.b.lo ≤ v → v ≤ x.b.hi → IntKind.i64.wrap (v - x.b.lo) = v - x.b.lo := fun h1 h2 => IntWalk.i64_in _ (by omega)
    have HSUB := Lib.hid hsub
    have HGL : Hid ((goB x.b v).length = x.b.u.length) := Lib.hid (addU_length _ _)
    rw [decide_eq_true h0] at K1
    clear h0 s1 s2 s3 s4 s5 a1 a2 hu hlu hsub
    unfold fv at *
    go_enter Try.func13, Try.ntmps13
    go_wp2_with fail
    refine (K1.out _ hb0).mono ?_
    rintro e w1 ⟨rfl, hb1⟩
    have s1 := hs.below hb1 (by omega)
    have d1 := hd.below hb1 hz0
    have hbk1 : Below w.heap.size w w1 := hb0.trans (hb1.mono (by omega))
    have hz1 : w.heap.size + 1 < w1.heap.size := by have := hb1.size; omega
    clear hb1 hb0 hs hd hz0
    obtain ⟨f0, f1⟩ := id d1
    cases hsv : saneB n v with
    | false =>
      rw [hsv] at KN
      have hrn : r = none := by
        rw [HR.out]
        refine toB_none fun q => ?_
        have h2 := saneB_mid HSB.out.1 HSB.out.2.1 q.2.1 q.2.2
        rw [← q.1, hsv] at h2
        cases h2
      have HN := Lib.hid hrn
      clear hrn hsv
      go_wp2_with ((go_at_call 29; refine (KN.out _).mono ?_; rintro e w2 ⟨rfl, hb2⟩))
      go_returns
      rw [HN.out]
      exact ⟨rfl, hbk1.trans (hb2.mono (by omega))⟩
    | true =>
      rw [hsv] at KN
      clear hsv
      go_wp2_with fail
      refine (KN.out _).mono ?_
      rintro e w2 ⟨rfl, hb2⟩
      have s2 := s1.below hb2 (by omega)
      have d2 := d1.below hb2 hz1
      have hbk2 : Below w.heap.size w w2 := hbk1.trans (hb2.mono (by omega))
      clear hb2 hbk1 s1 d1 f0 f1
      obtain ⟨f0, f1⟩ := d2
      obtain ⟨c0, c1, c2, c3⟩ := s2
      rw [Nat.zero_add] at c1 c2 c3
      by_cases h1 : n = x.b.n
      · have e1 : (n == x.b.n) = true := by simp [h1]
        have e1' : (n != x.b.n) = false := by simp [h1]
        by_cases h2 : x.b.lo ≤ v
        · have e2 : decide (v < x.b.lo) = false := decide_eq_false (by omega)
          by_cases h3 : v ≤ x.b.hi
          · have e3 : decide (x.b.hi < v) = false := decide_eq_false (by omega)
            have hrn : r = some (goB x.b v) := by rw [HR.out]; exact toB_some.2 ⟨HSB.out, h1, h2, h3, rfl⟩
            have HN := Lib.hid hrn
            have K3 := Lib.hid (fun W hW => K2.out W hW h2 h3)
            have hw := HSUB.out h2 h3
            clear K2 h1 h2 h3 hrn
            go_wp2_with fail
            refine (K3.out _ hbk2).mono ?_
            rintro e w3 ⟨rU, rfl, hown, hb3⟩
            obtain ⟨rA, rC, rfl, hut, hle⟩ := Ut.of_own hown
            go_wp2
            go_returns
            rw [HN.out]
            exact ⟨⟨rA, rC, rfl, hut⟩, hbk2.trans (hb3.mono (by have := hbk2.size; omega))⟩
          · have e3 : decide (x.b.hi < v) = true := decide_eq_true (by omega)
            have hrn : r = none := by rw [HR.out]; exact toB_none (by omega)
            have HN := Lib.hid hrn
            clear hrn h1 h2 h3 K2
            go_wp2_with fail
            go_returns
            rw [HN.out]
            exact ⟨rfl, hbk2⟩
        · have e2 : decide (v < x.b.lo) = true := decide_eq_true (by omega)
          have hrn : r = none := by rw [HR.out]; exact toB_none (by omega)
          have HN := Lib.hid hrn
          clear hrn h1 h2 K2
          go_wp2_with fail
          go_returns
          rw [HN.out]
          exact ⟨rfl, hbk2⟩
      · have e1 : (n == x.b.n) = false := by simp [h1]
        have e1' : (n != x.b.n) = true := by simp [h1]
        have hrn : r = none := by rw [HR.out]; exact toB_none (by omega)
        have HN := Lib.hid hrn
        clear hrn h1 K2
        go_wp2_with fail
        go_returns
        rw [HN.out]
        exact ⟨rfl, hbk2⟩
  · have hrn : r = none := by
      rw [HR.out]
      unfold toB
      rw [if_neg (fun k => h0 k.1)]
    have HN := Lib.hid hrn
    rw [decide_eq_false h0] at K1
    clear hrn h0 hu
    unfold fv at *
    go_enter Try.func13, Try.ntmps13
    go_wp2_with ((go_at_call 20; refine (K1.out _ hb0).mono ?_; rintro e w3 ⟨rfl, hb3⟩))
    go_returns
    rw [HN.out]
    exact ⟨rfl, hb0.trans (hb3.mono (by omega))⟩
end Go.Proofs.Ytkkochjdimegpaa
