/-
  The walk of the statement SpanOverrides.
-/
import Derived.Test.YtdlkgcbiekilhaaSpanAwake
import Derived.Test.YtdlkgcbiekilhaaSpanPut
namespace Go.Proofs.Ytdlkgcbiekilhaa
open Go.RowKit
attribute [local go_sem ↓] Go.wp_at_zero Go.wp_at_succ

set_option maxRecDepth 100000 in
set_option maxHeartbeats 8000000 in
theorem over_walk (A : Option Addr) (c : Nat) (l : List Sp) (s : Sp) (n v : Int) (st : Bool) (w : World) (hA : Ss w w.heap.size A l) :
    Calls Try.prog 5 #[.slice A l.length c, sv s, .agg #[.int .i64 n, .int .i64 v], .bool st] w fun e w' => e = .returned (.bool true) ∧ Below w.heap.size w w' := by
  have HA := Lib.hid hA
  obtain ⟨k, hk⟩ : ∃ k, k = l.length := ⟨_, rfl⟩
  have HK := Lib.hid hk
  rw [← hk]
  have hs0 : Bs ((w.alloc (.cells #[.int .i64 s.n, .int .i64 s.lo, .int .i64 s.hi, .int .i64 s.to] 24)).alloc (.cells #[.int .i64 n, .int .i64 v] 26)) w.heap.size s := ⟨by simp, by simp, by simp, by simp⟩
  have hd0 : Bd ((w.alloc (.cells #[.int .i64 s.n, .int .i64 s.lo, .int .i64 s.hi, .int .i64 s.to] 24)).alloc (.cells #[.int .i64 n, .int .i64 v] 26)) (w.heap.size + 1) n v := ⟨by simp, by simp⟩
  have hb0 : Below w.heap.size w ((w.alloc (.cells #[.int .i64 s.n, .int .i64 s.lo, .int .i64 s.hi, .int .i64 s.to] 24)).alloc (.cells #[.int .i64 n, .int .i64 v] 26)) := ((Below.refl _ _).alloc (Nat.le_refl _) _).alloc (by simp) _
  have hz0 : w.heap.size + 1 < ((w.alloc (.cells #[.int .i64 s.n, .int .i64 s.lo, .int .i64 s.hi, .int .i64 s.to] 24)).alloc (.cells #[.int .i64 n, .int .i64 v] 26)).heap.size := by simp
  clear hk hA
  unfold sv
  go_enter Try.func5, Try.ntmps5
  go_wp2_with fail
  refine (awake_any _).mono ?_
  rintro e w1 ⟨rfl, hb1⟩
  have bk1 := hb0.trans (hb1.mono (by omega))
  have d1 := hd0.below hb1 hz0
  have s1 := hs0.below hb1 (by omega)
  have z1 := Nat.lt_of_lt_of_le hz0 hb1.size
  clear hd0 hs0 hb0 hz0 hb1
  by_cases hbig : 60 < k
  · have t0 : decide (60 < k) = true := decide_eq_true hbig
    clear d1 s1
    go_wp2
    go_ret
    exact ⟨rfl, bk1⟩
  · have t0 : decide (60 < k) = false := decide_eq_false hbig
    have K1 : Hid (Calls Try.prog 21 #[.slice A k c, .bool st] w1 (Bld w1 st l)) := Lib.hid (by
      have := Build_any st l (by have := HK.out; omega) A c w1 (HA.out.over bk1)
      rwa [← HK.out] at this)
    have D1 := Lib.hid d1
    have S1 := Lib.hid s1
    clear d1 s1
    go_wp2_with fail
    refine K1.out.mono ?_
    rintro e w2 ⟨m, p1, p2, A1, c1, rfl, h2, h3, h4, h5⟩
    have bk2 := bk1.trans (h5.mono bk1.size)
    have d2 := D1.out.below h5 z1
    have s2 := S1.out.below h5 (by omega)
    have z2 := Nat.lt_of_lt_of_le z1 h5.size
    have hfew := p1.few p2
    have HM := Lib.hid h4
    have HP := Lib.hid p1
    have HP2 := Lib.hid p2
    obtain ⟨f, hf⟩ : ∃ f, f = m.length := ⟨_, rfl⟩
    have HF := Lib.hid hf
    have hfk : f ≤ 2 * k := by have := HK.out; omega
    rw [← hf] at hfew ⊢
    have K3 : Hid (∀ W, Below w2.heap.size w2 W → Calls Try.prog 14 #[.slice A1 f c1, .agg #[.int .i64 n, .int .i64 v], .bool st] W fun e w' => e = .returned (oV (lastS st m n v)) ∧ Below W.heap.size W w') := Lib.hid fun W hW => by
      have := Find_any st A1 c1 m n v W (HM.out.over hW) (by have := HF.out; have := HK.out; omega)
      rw [findS, if_pos HP.out] at this
      rwa [← HF.out] at this
    have K4 : Hid (∀ W, Below w2.heap.size w2 W → Calls Try.prog 23 #[.slice A1 f c1, sv s, .bool st] W (Bld W st (m ++ [s]))) := Lib.hid fun W hW => by
      have := Put_any st m s (by have := HF.out; have := HK.out; omega) A1 c1 W (HM.out.over hW) h3
      rwa [← HF.out] at this
    have K5 : Hid (∀ (m2 : List Sp) (A2 : Option Addr) (c2 : Nat) W, Ss W W.heap.size A2 m2 → m2.length ≤ 1048576 → Cn st m2 → (∀ n v, lastS st m2 n v = lastS st (m ++ [s]) n v) → Calls Try.prog 14 #[.slice A2 m2.length c2, .agg #[.int .i64 n, .int .i64 v], .bool st] W fun e w' => e = .returned (oV ((toS st s n v).or (lastS st m n v))) ∧ Below W.heap.size W w') := Lib.hid fun m2 A2 c2 W h1 h2 h3 h4 => by
      have := Find_any st A2 c2 m2 n v W h1 h2
      rw [findS, if_pos h3, h4, lastS_append] at this
      simpa [lastS] using this
    have K6 := Lib.hid (fun W => To_any st s n v W)
    unfold sv at K4 K6
    have D2 := Lib.hid d2
    obtain ⟨y0, y1, y2, y3⟩ := id s2
    simp only [Nat.zero_add] at y1 y2 y3
    clear p1 p2 h2 h4 hf K1 d2
    go_wp2_with fail
    refine (K4.out _ (Below.refl _ _)).mono ?_
    rintro e w3 ⟨m2, q1, q2, A2, c2, rfl, _, _, h6, hb3⟩
    have hfew2 := q1.few q2
    have hml : m2.length ≤ 1048576 := by
      rw [List.length_append, List.length_singleton] at hfew2
      have := HF.out
      omega
    have bk3 := bk2.trans (hb3.mono bk2.size)
    have d3 := D2.out.below hb3 z2
    have s3 := s2.below hb3 (by omega)
    have z3 := Nat.lt_of_lt_of_le z2 hb3.size
    have K7 := Lib.hid (K5.out m2 A2 c2 w3 h6 hml q1 q2)
    obtain ⟨f2, hf2⟩ : ∃ f2, f2 = m2.length := ⟨_, rfl⟩
    rw [← hf2] at K7 ⊢
    clear hf2 y0 y1 y2 y3 q1 q2 h6 hfew2 hml s2 h3 h5
    obtain ⟨f0, f1⟩ := id d3
    go_wp2_with fail
    refine K7.out.mono ?_
    rintro e w4 ⟨rfl, hb4⟩
    have c4 := hb3.trans (hb4.mono hb3.size)
    have bk4 := bk3.trans (hb4.mono bk3.size)
    have d4 := d3.below hb4 z3
    have s4 := s3.below hb4 (by omega)
    have z4 := Nat.lt_of_lt_of_le z3 hb4.size
    clear f0 f1 d3 s3
    obtain ⟨f0, f1⟩ := id d4
    obtain ⟨y0, y1, y2, y3⟩ := id s4
    simp only [Nat.zero_add] at y1 y2 y3
    unfold oV at K3 K6 ⊢
    cases ht : toS st s n v with
    | some x =>
      rw [ht] at K6
      simp only [Option.some_or, Option.getD_some, Option.isSome_some] at K6 ⊢
      clear ht
      go_wp2_with fail
      refine (K6.out _).mono ?_
      rintro e w5 ⟨rfl, hb5⟩
      clear f0 f1 y0 y1 y2 y3
      go_wp2
      go_ret
      exact ⟨rfl, bk4.trans (hb5.mono bk4.size)⟩
    | none =>
      rw [ht] at K6
      simp only [Option.none_or, Option.getD_none, Option.isSome_none] at K6 ⊢
      clear ht
      generalize lastS st m n v = r at *
      generalize r.getD 0 = ra at *
      generalize r.isSome = rb at *
      go_wp2_with fail
      refine (K6.out _).mono ?_
      rintro e w5 ⟨rfl, hb5⟩
      have c5 := c4.trans (hb5.mono c4.size)
      have d5 := d4.below hb5 z4
      clear f0 f1 y0 y1 y2 y3
      obtain ⟨f0, f1⟩ := id d5
      go_wp2_with fail
      refine (K3.out _ c5).mono ?_
      rintro e w6 ⟨rfl, hb6⟩
      have c6 := c5.trans (hb6.mono c5.size)
      clear f0 f1
      go_wp2
      go_ret
      exact ⟨rfl, bk2.trans (c6.mono bk2.size)⟩
end Go.Proofs.Ytdlkgcbiekilhaa
