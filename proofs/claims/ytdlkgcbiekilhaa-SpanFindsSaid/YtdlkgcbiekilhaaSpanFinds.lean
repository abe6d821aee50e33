/-
  The walk of the statement SpanFinds.
-/
import Derived.Test.YtdlkgcbiekilhaaSpanAwake
import Derived.Test.YtdlkgcbiekilhaaSpanLast
import Derived.Test.YtdlkgcbiekilhaaSpanSame
namespace Go.Proofs.Ytdlkgcbiekilhaa
open Go.RowKit
attribute [local go_sem ↓] Go.wp_at_zero Go.wp_at_succ

set_option maxRecDepth 100000 in
set_option maxHeartbeats 8000000 in
theorem finds_walk (A : Option Addr) (c : Nat) (l : List Sp) (n v : Int) (st : Bool) (w : World) (hA : Ss w w.heap.size A l) :
    Calls Try.prog 4 #[.slice A l.length c, .agg #[.int .i64 n, .int .i64 v], .bool st] w fun e w' => e = .returned (.bool true) ∧ Below w.heap.size w w' := by
  have HA := Lib.hid hA
  obtain ⟨k, hk⟩ : ∃ k, k = l.length := ⟨_, rfl⟩
  have HK := Lib.hid hk
  rw [← hk]
  have hd0 := Bd.new w n v 26
  have hb0 : Below w.heap.size w (w.alloc (.cells #[.int .i64 n, .int .i64 v] 26)) := (Below.refl _ _).alloc (Nat.le_refl _) _
  have hz0 : w.heap.size < (w.alloc (.cells #[.int .i64 n, .int .i64 v] 26)).heap.size := by simp
  clear hk hA
  go_enter Try.func4, Try.ntmps4
  go_wp2_with fail
  refine (awake_any _).mono ?_
  rintro e w1 ⟨rfl, hb1⟩
  have bk1 := hb0.trans (hb1.mono (Nat.le_of_lt hz0))
  have d1 := hd0.below hb1 hz0
  have z1 := Nat.lt_of_lt_of_le hz0 hb1.size
  clear hd0 hb0 hz0 hb1
  by_cases hbig : 60 < k
  · have t0 : decide (60 < k) = true := decide_eq_true hbig
    clear d1
    go_wp2
    go_ret
    exact ⟨rfl, bk1⟩
  · have t0 : decide (60 < k) = false := decide_eq_false hbig
    have K1 : Hid (Calls Try.prog 21 #[.slice A k c, .bool st] w1 (Bld w1 st l)) := Lib.hid (by
      have := Build_any st l (by have := HK.out; omega) A c w1 (HA.out.over bk1)
      rwa [← HK.out] at this)
    have K2 : Hid (∀ W, Below w.heap.size w W → Calls Try.prog 12 #[.slice A k c, .agg #[.int .i64 n, .int .i64 v], .bool st] W fun e w' => e = .returned (oV (lastS st l n v)) ∧ Below W.heap.size W w') := Lib.hid fun W hW => by
      have := Last_any st A c l n v W (HA.out.over hW) (by have := HK.out; omega)
      rwa [← HK.out] at this
    go_wp2_with fail
    refine K1.out.mono ?_
    rintro e w2 ⟨m, p1, p2, A1, c1, rfl, h2, h3, h4, h5⟩
    have bk2 := bk1.trans (h5.mono bk1.size)
    have d2 := d1.below h5 z1
    have z2 := Nat.lt_of_lt_of_le z1 h5.size
    have hfew := p1.few p2
    have HM := Lib.hid h4
    have HP := Lib.hid p1
    have HP2 := Lib.hid p2
    obtain ⟨f, hf⟩ : ∃ f, f = m.length := ⟨_, rfl⟩
    have HF := Lib.hid hf
    have hfk : f ≤ 2 * k := by have := HK.out; omega
    rw [← hf] at hfew ⊢
    have K3 : Hid (∀ W, Below w2.heap.size w2 W → Calls Try.prog 14 #[.slice A1 f c1, .agg #[.int .i64 n, .int .i64 v], .bool st] W fun e w' => e = .returned (oV (lastS st l n v)) ∧ Below W.heap.size W w') := Lib.hid fun W hW => by
      have := Find_any st A1 c1 m n v W (HM.out.over hW) (by have := HF.out; have := HK.out; omega)
      rw [findS, if_pos HP.out, HP2.out] at this
      rwa [← HF.out] at this
    have K4 : Hid (∀ W, Below w2.heap.size w2 W → Calls Try.prog 18 #[.slice A1 f c1, .bool st] W fun e w' => e = .returned (.bool true) ∧ Below W.heap.size W w') := Lib.hid fun W hW => by
      have := Canon_any st A1 c1 m W (HM.out.over hW) (by have := HF.out; have := HK.out; omega)
      rw [decide_eq_true HP.out] at this
      rwa [← HF.out] at this
    have K5 : Hid (∀ W, Below w2.heap.size w2 W → Calls Try.prog 21 #[.slice A1 f c1, .bool st] W (RetS W m)) := Lib.hid fun W hW => by
      have := Build_any st m (by have := HF.out; have := HK.out; omega) A1 c1 W (HM.out.over hW)
      rw [← HF.out] at this
      refine this.mono ?_
      rintro e x ⟨m2, q1, q2, q3⟩
      obtain rfl : m2 = m := q1.one HP.out q2
      exact q3
    have K6 : Hid (∀ (A2 : Option Addr) (c2 : Nat) W, Below w2.heap.size w2 W → Ss W W.heap.size A2 m → Calls Try.prog 20 #[.slice A2 f c2, .slice A1 f c1] W fun e w' => e = .returned (.bool true) ∧ Below W.heap.size W w') := Lib.hid fun A2 c2 W hW h2 => by
      have := rSame_yes (c1 := c2) (c2 := c1) h2 (HM.out.over hW) (by have := HF.out; have := HK.out; omega)
      rwa [← HF.out] at this
    generalize lastS st l n v = r at *
    unfold oV at K2 K3
    generalize r.getD 0 = ra at *
    generalize r.isSome = rb at *
    obtain ⟨f0, f1⟩ := d2
    clear p1 p2 h2 h3 h4 h5 hf hfew K1 d1
    go_wp2_with fail
    refine (K3.out _ (Below.refl _ _)).mono ?_
    rintro e w3 ⟨rfl, hb3⟩
    have bk3 := bk2.trans (hb3.mono bk2.size)
    have d3 := Bd.below (Bd.mk f0 f1) hb3 z2
    clear f0 f1
    obtain ⟨f0, f1⟩ := d3
    go_wp2_with fail
    refine (K2.out _ bk3).mono ?_
    rintro e w4 ⟨rfl, hb4⟩
    have c4 := hb3.trans (hb4.mono hb3.size)
    clear f0 f1
    go_wp2_with fail
    refine (K4.out _ c4).mono ?_
    rintro e w5 ⟨rfl, hb5⟩
    have c5 := c4.trans (hb5.mono c4.size)
    go_wp2_with fail
    refine (K5.out _ c5).mono ?_
    rintro e w6 ⟨A2, c2, rfl, _, _, h6, hb6⟩
    have c6 := c5.trans (hb6.mono c5.size)
    rw [← HF.out]
    go_wp2_with fail
    refine (K6.out _ _ _ c6 h6).mono ?_
    rintro e w7 ⟨rfl, hb7⟩
    have c7 := c6.trans (hb7.mono c6.size)
    have t1 : decide (f ≤ 2 * k) = true := decide_eq_true hfk
    have t2 : decide ((f : Int) ≤ 2 * (k : Int)) = true := decide_eq_true (by omega)
    go_wp2
    go_ret
    exact ⟨rfl, bk2.trans (c7.mono bk2.size)⟩
end Go.Proofs.Ytdlkgcbiekilhaa
