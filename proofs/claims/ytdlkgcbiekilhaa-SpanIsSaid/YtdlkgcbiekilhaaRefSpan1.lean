/-
  The document's own more, Sane, To, joins (hornbookref07).
-/
import Derived.Test.YtdlkgcbiekilhaaSpanPro2
import Derived.Test.YtdlkgcbiekilhaaRefSane
namespace Go.Proofs.Ytdlkgcbiekilhaa
open Go.RowKit
attribute [local go_sem ↓] Go.wp_at_zero Go.wp_at_succ

/-- What is added. -/
def moreS (st : Bool) (d : Int) : Int := if st = true then d else 0
theorem rMore_any (d : Int) (st : Bool) (w : World) : Calls Try.prog 27 #[.int .i64 d, .bool st] w fun e w' => e = .returned (.int .i64 (moreS st d)) ∧ w' = w := by
  cases st with
  | true =>
    go_enter Try.func27, Try.ntmps27
    go_wp2
    go_ret
    exact ⟨rfl, rfl⟩
  | false =>
    go_enter Try.func27, Try.ntmps27
    go_wp2
    go_ret
    exact ⟨rfl, rfl⟩
theorem goes_more (st : Bool) (s : Sp) (v : Int) : goesS st s v = s.to + moreS st (v - s.lo) := by
  unfold goesS moreS
  split <;> omega
set_option maxHeartbeats 4000000 in
theorem rSSane_any (st : Bool) (s : Sp) (w : World) :
    Calls Try.prog 17 #[sv s, .bool st] w fun e w' => e = .returned (.bool (decide (Sn st s))) ∧ Below w.heap.size w w' := by
  have hs := Bs.new w s 24
  have hb0 : Below w.heap.size w (w.alloc (.cells #[.int .i64 s.n, .int .i64 s.lo, .int .i64 s.hi, .int .i64 s.to] 24)) := (Below.refl _ _).alloc (Nat.le_refl _) _
  have hz0 : w.heap.size < (w.alloc (.cells #[.int .i64 s.n, .int .i64 s.lo, .int .i64 s.hi, .int .i64 s.to] 24)).heap.size := by simp
  have K1 := Lib.hid (fun W => rSane_any s.n s.lo W)
  have K2 := Lib.hid (fun W => rSane_any s.n s.hi W)
  obtain ⟨R, hR⟩ : ∃ R, R = decide (Sn st s) := ⟨_, rfl⟩
  rw [← hR]
  rw [Sn_eq] at hR
  cases d1 : saneB s.n s.lo with
  | false =>
    rw [d1] at K1 hR
    unfold sv at *
    go_enter Try.func17, Try.ntmps17
    go_wp2_with ((go_at_call 26; refine (K1.out _).mono ?_; rintro e w1 ⟨rfl, hb1⟩))
    go_ret
    exact ⟨by rw [hR]; rfl, hb0.trans (hb1.mono (by omega))⟩
  | true =>
    cases d2 : saneB s.n s.hi with
    | false =>
      rw [d1] at K1
      rw [d2] at K2
      rw [d1, d2] at hR
      have HR := Lib.hid hR
      clear hR
      unfold sv at *
      go_enter Try.func17, Try.ntmps17
      go_wp2_with fail
      refine (K1.out _).mono ?_
      rintro e w1 ⟨rfl, hb1⟩
      obtain ⟨c0, c1, c2, c3⟩ := hs.below hb1 hz0
      rw [Nat.zero_add] at c1 c2 c3
      go_wp2_with fail
      refine (K2.out _).mono ?_
      rintro e w2 ⟨rfl, hb2⟩
      go_wp2
      go_ret
      exact ⟨by rw [HR.out]; rfl, (hb0.trans (hb1.mono (by omega))).trans (hb2.mono (by have := hb1.size; omega))⟩
    | true =>
      have a1 := saneB_top d1
      have a2 := saneB_top d2
      obtain ⟨a10, a11, _, _⟩ := a1
      obtain ⟨a20, a21, _, _⟩ := a2
      rw [d1] at K1
      rw [d2] at K2
      rw [d1, d2, goes_more] at hR
      have KM := Lib.hid (fun W => rMore_any (s.hi - s.lo) st W)
      have hM : moreS st (s.hi - s.lo) = s.hi - s.lo ∨ moreS st (s.hi - s.lo) = 0 := by unfold moreS; split <;> simp
      have hsub : IntKind.i64.wrap (s.hi - s.lo) = s.hi - s.lo := IntWalk.i64_in _ (by omega)
      generalize moreS st (s.hi - s.lo) = M at *
      have hsub2 : IntKind.i64.wrap (65535 - M) = 65535 - M := IntWalk.i64_in _ (by omega)
      have HR := Lib.hid hR
      have HMM := Lib.hid hM
      clear hR hM
      have key : ∀ w1 w2, Below (w.alloc (.cells #[.int .i64 s.n, .int .i64 s.lo, .int .i64 s.hi, .int .i64 s.to] 24)).heap.size (w.alloc (.cells #[.int .i64 s.n, .int .i64 s.lo, .int .i64 s.hi, .int .i64 s.to] 24)) w1 → Below w1.heap.size w1 w2 → Below w.heap.size w w2 ∧ w.heap.size < w2.heap.size := fun w1 w2 hb1 hb2 => by
        have a := hb1.size
        have b := hb2.size
        exact ⟨(hb0.trans (hb1.mono (by omega))).trans (hb2.mono (by omega)), by omega⟩
      unfold sv
      go_enter Try.func17, Try.ntmps17
      go_wp2_with fail
      refine (K1.out _).mono ?_
      rintro e w1 ⟨rfl, hb1⟩
      obtain ⟨c0, c1, c2, c3⟩ := hs.below hb1 hz0
      rw [Nat.zero_add] at c1 c2 c3
      go_wp2_with fail
      refine (K2.out _).mono ?_
      rintro e w2 ⟨rfl, hb2⟩
      obtain ⟨hbk, hz2⟩ := key _ _ hb1 hb2
      obtain ⟨c0, c1, c2, c3⟩ := (hs.below hb1 hz0).below hb2 (by have := hb1.size; omega)
      rw [Nat.zero_add] at c1 c2 c3
      clear hb1 hb2 key hs hb0
      by_cases h3 : s.lo ≤ s.hi
      · have d3 : decide (s.lo ≤ s.hi) = true := decide_eq_true h3
        have d3' : decide (s.hi < s.lo) = false := decide_eq_false (by omega)
        by_cases h4 : 0 ≤ s.to
        · have d4 : decide (0 ≤ s.to) = true := decide_eq_true h4
          have hfin : R = decide (s.to ≤ 65535 - M) := by
            rw [HR.out, d3, d4, Bool.eq_iff_iff]
            have := HMM.out
            simp
            omega
          have HF := Lib.hid hfin
          clear hfin h3 h4
          go_wp2_with fail
          go_quiet ((go_at_call 27; exact Calls.quiet_of_same (KM.out _)))
          go_wp2
          go_ret
          exact ⟨by rw [HF.out]; rfl, below_drewN hbk _⟩
        · have d4 : decide (0 ≤ s.to) = false := decide_eq_false h4
          have hfin : R = false := by rw [HR.out, d3, d4]; rfl
          have HF := Lib.hid hfin
          clear hfin h3 h4
          go_wp2_with fail
          go_quiet (fail)
          go_wp2
          go_ret
          exact ⟨by rw [HF.out]; rfl, below_drewN hbk _⟩
      · have d3 : decide (s.lo ≤ s.hi) = false := decide_eq_false h3
        have d3' : decide (s.hi < s.lo) = true := decide_eq_true (by omega)
        have hfin : R = false := by rw [HR.out, d3]; rfl
        have HF := Lib.hid hfin
        clear hfin h3
        go_wp2_with fail
        go_ret
        exact ⟨by rw [HF.out]; rfl, hbk⟩
set_option maxHeartbeats 4000000 in
theorem rTo_any (st : Bool) (s : Sp) (n v : Int) (w : World) :
    Calls Try.prog 11 #[sv s, .agg #[.int .i64 n, .int .i64 v], .bool st] w fun e w' => e = .returned (oV (toS st s n v)) ∧ Below w.heap.size w w' := by
  have K1 := Lib.hid (fun W => rSSane_any st s W)
  have K2 := Lib.hid (fun W => rSane_any n v W)
  have hb0 : Below w.heap.size w ((w.alloc (.cells #[.int .i64 s.n, .int .i64 s.lo, .int .i64 s.hi, .int .i64 s.to] 24)).alloc (.cells #[.int .i64 n, .int .i64 v] 26)) := ((Below.refl _ _).alloc (Nat.le_refl _) _).alloc (by simp) _
  have hs : Bs ((w.alloc (.cells #[.int .i64 s.n, .int .i64 s.lo, .int .i64 s.hi, .int .i64 s.to] 24)).alloc (.cells #[.int .i64 n, .int .i64 v] 26)) w.heap.size s := ⟨by simp, by simp, by simp, by simp⟩
  have hd : Bd ((w.alloc (.cells #[.int .i64 s.n, .int .i64 s.lo, .int .i64 s.hi, .int .i64 s.to] 24)).alloc (.cells #[.int .i64 n, .int .i64 v] 26)) (w.heap.size + 1) n v := ⟨by simp, by simp⟩
  have hz0 : w.heap.size + 1 < ((w.alloc (.cells #[.int .i64 s.n, .int .i64 s.lo, .int .i64 s.hi, .int .i64 s.to] 24)).alloc (.cells #[.int .i64 n, .int .i64 v] 26)).heap.size := by simp
  obtain ⟨r, hr⟩ : ∃ r, r = toS st s n v := ⟨_, rfl⟩
  rw [← hr]
  by_cases h0 : Sn st s
  · have HSN := Lib.hid h0
    rw [decide_eq_true h0] at K1
    have HR := Lib.hid hr
    have hnr := Sn.nr h0
    clear h0 hr
    unfold sv at *
    go_enter Try.func11, Try.ntmps11
    go_wp2_with fail
    refine (K1.out _).mono ?_
    rintro e w1 ⟨rfl, hb1⟩
    have s1 := hs.below hb1 (by omega)
    have d1 := hd.below hb1 hz0
    have hbk1 : Below w.heap.size w w1 := hb0.trans (hb1.mono (by omega))
    have hz1 : w.heap.size + 1 < w1.heap.size := by have := hb1.size; omega
    clear hb1 hb0 hs hd hz0
    obtain ⟨f0, f1⟩ := id d1
    cases hsv : saneB n v with
    | false =>
      rw [hsv] at K2
      have hrn : r = none := by
        rw [HR.out]
        refine toS_none fun q => ?_
        have h2 := saneB_mid HSN.out.1 HSN.out.2.1 q.2.1 q.2.2
        rw [← q.1, hsv] at h2
        cases h2
      have HN := Lib.hid hrn
      clear hrn hsv
      go_wp2_with ((go_at_call 26; refine (K2.out _).mono ?_; rintro e w2 ⟨rfl, hb2⟩))
      go_returns
      exact ⟨by rw [HN.out]; rfl, hbk1.trans (hb2.mono (by omega))⟩
    | true =>
      rw [hsv] at K2
      have hvt := saneB_top hsv
      obtain ⟨hv0, hv1, _, _⟩ := hvt
      clear hsv
      go_wp2_with fail
      refine (K2.out _).mono ?_
      rintro e w2 ⟨rfl, hb2⟩
      have s2 := s1.below hb2 (by omega)
      have d2 := d1.below hb2 hz1
      have hbk2 : Below w.heap.size w w2 := hbk1.trans (hb2.mono (by omega))
      clear hb2 hbk1 s1 d1 f0 f1
      obtain ⟨f0, f1⟩ := d2
      obtain ⟨c0, c1, c2, c3⟩ := s2
      rw [Nat.zero_add] at c1 c2 c3
      by_cases h1 : n = s.n
      · have e1 : (n == s.n) = true := by simp [h1]
        have e1' : (n != s.n) = false := by simp [h1]
        by_cases h2 : s.lo ≤ v
        · have e2 : decide (v < s.lo) = false := decide_eq_false (by omega)
          by_cases h3 : v ≤ s.hi
          · have e3 : decide (s.hi < v) = false := decide_eq_false (by omega)
            have hrn : r = some (goesS st s v) := by rw [HR.out]; exact toS_some.2 ⟨HSN.out, h1, h2, h3, rfl⟩
            have hg := HSN.out.goes h2 h3
            rw [goes_more] at hrn hg
            have KM := Lib.hid (fun W => rMore_any (v - s.lo) st W)
            obtain ⟨n0, n1, n2, n3, n4, n5⟩ := hnr
            have hsub : IntKind.i64.wrap (v - s.lo) = v - s.lo := IntWalk.i64_in _ (by omega)
            generalize moreS st (v - s.lo) = M at *
            obtain ⟨hg0, hg1⟩ := hg
            have hadd : IntKind.i64.wrap (s.to + M) = s.to + M := IntWalk.i64_in _ (by omega)
            have HN := Lib.hid hrn
            clear hrn h1 h2 h3
            go_wp2_with fail
            go_quiet ((go_at_call 27; exact Calls.quiet_of_same (KM.out _)))
            go_wp2
            go_returns
            exact ⟨by rw [HN.out]; rfl, below_drewN hbk2 _⟩
          · have e3 : decide (s.hi < v) = true := decide_eq_true (by omega)
            have hrn : r = none := by rw [HR.out]; exact toS_none (by omega)
            have HN := Lib.hid hrn
            clear hrn h1 h2 h3
            go_wp2_with fail
            go_returns
            exact ⟨by rw [HN.out]; rfl, hbk2⟩
        · have e2 : decide (v < s.lo) = true := decide_eq_true (by omega)
          have hrn : r = none := by rw [HR.out]; exact toS_none (by omega)
          have HN := Lib.hid hrn
          clear hrn h1 h2
          go_wp2_with fail
          go_returns
          exact ⟨by rw [HN.out]; rfl, hbk2⟩
      · have e1 : (n == s.n) = false := by simp [h1]
        have e1' : (n != s.n) = true := by simp [h1]
        have hrn : r = none := by rw [HR.out]; exact toS_none (by omega)
        have HN := Lib.hid hrn
        clear hrn h1
        go_wp2_with fail
        go_returns
        exact ⟨by rw [HN.out]; rfl, hbk2⟩
  · have hrn : r = none := by
      rw [hr]
      unfold toS
      rw [if_neg (fun k => h0 k.1)]
    rw [decide_eq_false h0] at K1
    have HN := Lib.hid hrn
    clear hrn h0 hr
    unfold sv at *
    go_enter Try.func11, Try.ntmps11
    go_wp2_with ((go_at_call 17; refine (K1.out _).mono ?_; rintro e w3 ⟨rfl, hb3⟩))
    go_returns
    exact ⟨by rw [HN.out]; rfl, hb0.trans (hb3.mono (by omega))⟩
set_option maxHeartbeats 2000000 in
theorem rjoins_any (st : Bool) (a b : Sp) (w : World) (ha : Nr a) (hb : Nr b) :
    Calls Try.prog 33 #[sv a, sv b, .bool st] w fun e w' => e = .returned (.bool (decide (jnS st a b))) ∧ Below w.heap.size w w' := by
  obtain ⟨R, hR⟩ : ∃ R, R = decide (jnS st a b) := ⟨_, rfl⟩
  rw [← hR]
  rw [jnS_eq, goes_more] at hR
  obtain ⟨a0, a1, a2, a3, a4, a5⟩ := ha
  obtain ⟨b0, b1, b2, b3, b4, b5⟩ := hb
  have KM := Lib.hid (fun W => rMore_any (b.lo - a.lo) st W)
  have hM : moreS st (b.lo - a.lo) = b.lo - a.lo ∨ moreS st (b.lo - a.lo) = 0 := by unfold moreS; split <;> simp
  have hsub : IntKind.i64.wrap (b.lo - a.lo) = b.lo - a.lo := IntWalk.i64_in _ (by omega)
  generalize moreS st (b.lo - a.lo) = M at *
  have hadd : IntKind.i64.wrap (a.to + M) = a.to + M := IntWalk.i64_in _ (by omega)
  have hwr : IntKind.i64.wrap (a.hi + 1) = a.hi + 1 := IntWalk.i64_in _ (by omega)
  clear hM
  unfold sv
  cases d2 : (a.n == b.n) with
  | true =>
    cases d3 : (b.lo == a.hi + 1) with
    | true =>
      rw [d2, d3] at hR
      have HR := Lib.hid hR
      clear hR
      go_enter Try.func33, Try.ntmps33
      go_wp2_with fail
      go_quiet ((go_at_call 27; exact Calls.quiet_of_same (KM.out _)))
      go_wp2
      go_ret
      exact ⟨by rw [HR.out]; rfl, below_drewN (((Below.refl _ _).alloc (Nat.le_refl _) _).alloc (by simp) _) _⟩
    | false =>
      rw [d2, d3] at hR
      have HR := Lib.hid hR
      clear hR
      go_enter Try.func33, Try.ntmps33
      go_wp2
      go_quiet (fail)
      go_wp2
      go_ret
      exact ⟨by rw [HR.out]; rfl, below_drewN (((Below.refl _ _).alloc (Nat.le_refl _) _).alloc (by simp) _) _⟩
  | false =>
    rw [d2] at hR
    have HR := Lib.hid hR
    clear hR
    go_enter Try.func33, Try.ntmps33
    go_wp2
    go_quiet (fail)
    go_wp2
    go_ret
    exact ⟨by rw [HR.out]; rfl, below_drewN (((Below.refl _ _).alloc (Nat.le_refl _) _).alloc (by simp) _) _⟩
end Go.Proofs.Ytdlkgcbiekilhaa
