/-
  The walk of the statement DestRows.
-/
import Derived.Test.YtpcaipifppnfdaaDestFinds
import Derived.Test.YtpcaipifppnfdaaDestShort
namespace Go.Proofs.Ytpcaipifppnfdaa
open Go.RowKit
attribute [local go_sem ↓] Go.wp_at_zero Go.wp_at_succ

set_option maxRecDepth 100000 in
set_option maxHeartbeats 8000000 in
theorem drows_walk (A : Option Addr) (c : Nat) (l : List Me) (n v : Int) (w : World) (hA : Sd w A l) (hm : l.length ≤ maxLen) (hmu : ∀ m ∈ l, m.b.u.length ≤ maxLen) :
    Calls Try.prog 5 #[.slice A l.length c, .agg #[.int .i64 n, .int .i64 v]] w fun e w' => e = .returned (.bool true) ∧ Below w.heap.size w w' := by
  unfold maxLen at hm hmu
  have HA := Lib.hid hA
  have HMU := Lib.hid hmu
  obtain ⟨k, hk⟩ : ∃ k, k = l.length := ⟨_, rfl⟩
  have HK := Lib.hid hk
  have KF : Hid (∀ W, Below w.heap.size w W → Calls Try.prog 10 #[.slice A k c] W fun e w' => e = .returned (.bool (decide (fewB (pl l)))) ∧ Below W.heap.size W w') := Lib.hid fun W hW => by
    have := Few_any A c l W (HA.out.over hW) (by omega) (fun m hm => by have := HMU.out m hm; omega)
    rwa [← hk] at this
  have KSH : Hid (∀ W, Below w.heap.size w W → Calls Try.prog 11 #[.slice A k c] W fun e w' => (∃ b, e = .returned (.bool b)) ∧ Below W.heap.size W w') := Lib.hid fun W hW => by
    have := Short_any A c l W (HA.out.over hW)
    rwa [← hk] at this
  rw [← hk] at hm ⊢
  have hd0 := Cd.new w n v 27
  have hb0 : Below w.heap.size w (w.alloc (.cells #[.int .i64 n, .int .i64 v] 27)) := (Below.refl _ _).alloc (Nat.le_refl _) _
  have hz0 : w.heap.size < (w.alloc (.cells #[.int .i64 n, .int .i64 v] 27)).heap.size := by simp
  clear hk hA hmu
  go_enter Try.func5, Try.ntmps5
  go_wp2_with fail
  refine (awake_any _).mono ?_
  rintro e w1 ⟨rfl, hb1⟩
  have bk1 := hb0.trans (hb1.mono (Nat.le_of_lt hz0))
  have d1 := hd0.below hb1 hz0
  have z1 := Nat.lt_of_lt_of_le hz0 hb1.size
  clear hd0 hb0 hz0 hb1
  cases hfew : decide (fewB (pl l)) with
  | false =>
    rw [hfew] at KF
    clear d1 hfew
    go_wp2_with ((go_at_call 10; refine (KF.out _ bk1).mono ?_; rintro e w1' ⟨rfl, hb1'⟩))
    go_ret
    exact ⟨rfl, bk1.trans (hb1'.mono bk1.size)⟩
  | true =>
    rw [hfew] at KF
    have HFEW := Lib.hid (of_decide_eq_true hfew)
    clear hfew
    have hk60 : k ≤ 60 := by have := HFEW.out.2; rw [pl_length, ← HK.out] at this; exact this
    go_wp2_with fail
    refine (KF.out _ bk1).mono ?_
    rintro e w2 ⟨rfl, hb2⟩
    have bk2 := bk1.trans (hb2.mono bk1.size)
    have d2 := d1.below hb2 z1
    have z2 := Nat.lt_of_lt_of_le z1 hb2.size
    clear hb2 KF d1
    go_wp2_with fail
    refine (KSH.out _ bk2).mono ?_
    rintro e w3 ⟨⟨sb, rfl⟩, hb3⟩
    have bk3 := bk2.trans (hb3.mono bk2.size)
    have d3 := d2.below hb3 z2
    have z3 := Nat.lt_of_lt_of_le z2 hb3.size
    clear hb3 KSH d2
    cases sb with
    | false =>
      clear d3
      go_wp2
      go_ret
      exact ⟨rfl, bk3⟩
    | true =>
      have K1 : Hid (Calls Try.prog 21 #[.slice A k c] w3 (BuiltB w3 (pl l))) := Lib.hid (by
        have := DBuild_any l (by have := HK.out; omega) A c w3 (HA.out.over bk3)
        rwa [← HK.out] at this)
      go_wp2_with fail
      refine K1.out.mono ?_
      rintro e w4 ⟨m, A1, c1, rfl, h2, h3, h4, h5, h6, h7, h8⟩
      have bk4 := bk3.trans (h8.mono bk3.size)
      have d4 := d3.below h8 z3
      have z4 := Nat.lt_of_lt_of_le z3 h8.size
      have hfew2 := h6.few h7
      rw [pl_length, pl_length] at hfew2
      have HM := Lib.hid h4
      have HP := Lib.hid h6
      obtain ⟨f, hf⟩ : ∃ f, f = m.length := ⟨_, rfl⟩
      have HF := Lib.hid hf
      have hfk : f ≤ 120 := by have := HK.out; omega
      rw [← hf] at hfew2 ⊢
      have K2 : Hid (Calls Try.prog 26 #[.slice A1 f c1] w4 fun e w' => ∃ m2 A' c', e = .returned (.slice A' m2.length c') ∧ m2.length ≤ c' ∧ (A' = none → c' = 0) ∧ Sd w' A' m2 ∧ Utl w' m2 ∧ pl m2 = rowsC (pl m) ∧ Below w4.heap.size w4 w') := Lib.hid (by
        have := DRows_any A1 c1 m w4 HM.out (by have := HF.out; omega)
        rwa [← HF.out] at this)
      clear h2 h3 h4 h5 h6 h7 h8 K1 d3 hf hfew2
      go_wp2_with fail
      refine K2.out.mono ?_
      rintro e w5 ⟨r, A2, c2, rfl, p2, p3, p4, p5, p6, p7⟩
      rw [rowsC, if_pos HP.out] at p6
      have hrl := rowsB_len HP.out.1
      rw [← p6, pl_length, pl_length] at hrl
      have bk5 := bk4.trans (p7.mono bk4.size)
      have d5 := d4.below p7 z4
      have z5 := Nat.lt_of_lt_of_le z4 p7.size
      have HR := Lib.hid p4
      have HPR := Lib.hid p6
      have HM5 := Lib.hid (HM.out.over p7)
      obtain ⟨g, hg⟩ : ∃ g, g = r.length := ⟨_, rfl⟩
      have HGL := Lib.hid hg
      rw [← hg] at hrl ⊢
      have hgk : g ≤ 72000 := by have := HF.out; omega
      have HGF : Hid (f ≤ g) := Lib.hid (by have := HF.out; omega)
      clear p2 p3 p4 p5 p6 p7 hg hrl d4 K2
      go_wp2
      go_loopw [8] (fun i wr => ∃ j : Nat, j ≤ g ∧ i = .int .i64 (j : Int) ∧ Below w5.heap.size w5 wr) (fun i _ => g - (intOf i).toNat)
      case atStart => exact ⟨0, Nat.zero_le _, rfl, Below.refl _ _⟩
      case round =>
        obtain ⟨j, hj, rfl, hbel⟩ := hrel
        have hsz := hbel.size
        by_cases hlt : j < g
        · have t0 : decide (j < g) = true := decide_eq_true hlt
          have hx := List.getElem?_eq_getElem (l := r) (i := j) (by have := HGL.out; omega)
          generalize r[j]'(by have := HGL.out; omega) = x at *
          have hux := HR.out.ul x (List.mem_of_getElem? hx)
          have hxr : x.b ∈ rowsB (pl m) := by rw [← HPR.out]; exact List.mem_map.2 ⟨x, List.mem_of_getElem? hx, rfl⟩
          obtain ⟨hsx, hro⟩ := rowsB_ok HP.out.1 x.b hxr
          obtain ⟨b, o, rfl, hb, ⟨y0, y1, y2, y3⟩⟩ := (HR.out.over hbel).rd.at hx
          obtain ⟨q, hq⟩ : ∃ q, x.b.u.length = q + 1 := ⟨x.b.u.length - 1, by have := hsx.2.2.2.1.1; omega⟩
          have hq64 : q < 64 := by have := hsx.2.2.2.1.2.1; omega
          have hlu := hsx.2.2.2.1.last
          have pb1 := saneB_top hsx.1
          have pb2 := saneB_top hsx.2.1
          have KS : Hid (∀ W, Below w5.heap.size w5 W → Calls Try.prog 19 #[fv x] W fun e w' => e = .returned (.bool true) ∧ Below W.heap.size W w') := Lib.hid fun W hW => by
            have := DSane_any x W (hux.over hW)
            rwa [decide_eq_true hsx] at this
          have HCU : Hid (∀ W, Below w5.heap.size w5 W → ∃ b2 o2, x.a = some ⟨b2, o2, none⟩ ∧ W.cell? ⟨b2, o2 + q, none⟩ = some (.int .i64 (lastU x.b.u))) := Lib.hid fun W hW => by
            obtain ⟨b2, o2, e2, _, hc2⟩ := (hux.over hW).si (by omega)
            have := hc2 q (by omega)
            rw [lastU_at hq] at this
            exact ⟨b2, o2, e2, this⟩
          unfold fv at KS
          obtain ⟨r1, r2⟩ := hro
          rw [show lastU x.b.u + (x.b.hi - x.b.lo) = lastU x.b.u + x.b.hi - x.b.lo by omega] at r2
          generalize lastU x.b.u = L at *
          have s1 : (x.b.lo / 256 != x.b.hi / 256) = false := by simp [r1]
          have s2 : (L / 256 != (L + x.b.hi - x.b.lo) / 256) = false := by rw [← r2]; simp
          have e1 : IntKind.i64.wrap (L + x.b.hi) = L + x.b.hi := IntWalk.i64_in _ (by omega)
          have e2 : IntKind.i64.wrap (L + x.b.hi - x.b.lo) = L + x.b.hi - x.b.lo := IntWalk.i64_in _ (by omega)
          have hwq : IntKind.i64.wrap (q : Int) = (q : Int) := IntWalk.i64_in _ (by omega)
          have tq0 : ((q : Int) + 1 == 0) = false := by simp; omega
          have f1 : (0 : Int) ≤ (q : Int) := by omega
          have hbx := Fb.new wr x 25
          have hbA : Below w5.heap.size w5 (wr.alloc (.cells #[.int .i64 x.b.n, .int .i64 x.b.lo, .int .i64 x.b.hi, .slice x.a x.b.u.length x.c] 25)) := hbel.alloc hsz _
          have hszA : (wr.alloc (.cells #[.int .i64 x.b.n, .int .i64 x.b.lo, .int .i64 x.b.hi, .slice x.a x.b.u.length x.c] 25)).heap.size = wr.heap.size + 1 := by simp
          have HQ := Lib.hid hq
          clear hx hux hxr hsx hlu r1 r2 hq pb1 pb2
          go_wp2_with fail
          refine (KS.out _ hbA).mono ?_
          rintro e w6 ⟨rfl, hb6⟩
          obtain ⟨x0, x1, x2, x3⟩ := hbx.below hb6 (by omega)
          simp only [Nat.zero_add] at x1 x2 x3
          have k6 := hbA.trans (hb6.mono (by omega))
          obtain ⟨b2, o2, ea, gc⟩ := HCU.out _ k6
          rw [HQ.out, ea] at x3
          clear hb6 hbx hbA hszA y0 y1 y2 y3 ea
          go_wp2
          exact ⟨⟨j + 1, by omega, by first | rfl | go_num, k6⟩, by simp [intOf]; omega⟩
        · have t0 : decide (j < g) = false := decide_eq_false hlt
          obtain rfl : j = g := by omega
          have bkr := bk5.trans (hbel.mono bk5.size)
          have dr := d5.below hbel z5
          have zr := Nat.lt_of_lt_of_le z5 hbel.size
          have KL : Hid (∀ W, Below w5.heap.size w5 W → Calls Try.prog 14 #[.slice A2 j c2, .agg #[.int .i64 n, .int .i64 v]] W (RetO W (lastB (pl m) n v))) := Lib.hid fun W hW => by
            have := dLast_any A2 c2 r n v W (HR.out.over hW) (by have := HGL.out; omega)
            rw [HPR.out, rowsB_last HP.out.1, ← HGL.out] at this
            exact this
          have KD : Hid (∀ W, Below w5.heap.size w5 W → Calls Try.prog 16 #[.slice A1 f c1, .agg #[.int .i64 n, .int .i64 v]] W (RetO W (lastB (pl m) n v))) := Lib.hid fun W hW => by
            have := dFind_any A1 c1 m n v W (HM5.out.over hW) (by have := HF.out; omega)
            rw [findB, if_pos HP.out] at this
            rwa [← HF.out] at this
          have KB : Hid (∀ W, Below w5.heap.size w5 W → Calls Try.prog 21 #[.slice A2 j c2] W (BuiltB W (rowsB (pl m)))) := Lib.hid fun W hW => by
            have := DBuild_any r (by have := HGL.out; omega) A2 c2 W (HR.out.over hW)
            rw [HPR.out, ← HGL.out] at this
            exact this
          have hsh : ((lastB (pl m) n v).getD []).length ≤ 1000 := lastB_short (ct_short HP.out)
          have HSH := Lib.hid hsh
          clear hsh d5
          obtain ⟨f0, f1⟩ := id dr
          go_wp2_with fail
          refine (KL.out _ hbel).mono ?_
          intro e w6 hre
          obtain ⟨a3, c3, u3, b3, rfl, hu3, hb3, hun3, k3⟩ := retO_same hre
          have hb6 := hbel.trans (k3.mono hbel.size)
          have d6 := dr.below k3 zr
          have bk6 := bkr.trans (k3.mono bkr.size)
          have HU3 := Lib.hid hu3
          have HB3 := Lib.hid hb3
          clear f0 f1 dr hre hu3 hb3
          obtain ⟨f0, f1⟩ := id d6
          go_wp2_with fail
          refine (KD.out _ hb6).mono ?_
          intro e w7 hre
          obtain ⟨a4, c4, u4, b4, rfl, hu4, hb4, hun4, k4⟩ := retO_same hre
          obtain rfl : u3 = u4 := HU3.out.trans hu4.symm
          obtain rfl : b3 = b4 := HB3.out.trans hb4.symm
          have bk7 := bk6.trans (k4.mono bk6.size)
          have hl3 : u3.length ≤ 1000 := by rw [HU3.out]; exact HSH.out
          have hm7 : Below w5.heap.size w5 w7 := hb6.trans (k4.mono hb6.size)
          have K6 : Hid (Calls Try.prog 18 #[.slice a3 u3.length c3, .slice a4 u3.length c4] w7 fun e w' => e = .returned (.bool true) ∧ ∃ q, w' = w7.drewN q) := Lib.hid (by
            have := iSame_any a3 a4 c3 c4 u3.length u3.length u3 u3 w7 rfl rfl (by omega) (by omega) (hun3.si.over k4) hun4.si
            rwa [decide_eq_true rfl] at this)
          have HM7 := Lib.hid hm7
          clear f0 f1 d6 hre hu4 hb4 hun3 hun4 k3 k4 hm7
          generalize u3.length = q3 at *
          have t1 : (b3 == b3) = true := by simp
          have t2 : decide (f ≤ j) = true := decide_eq_true HGF.out
          go_wp2_with fail
          refine K6.out.mono ?_
          rintro e w8 ⟨rfl, q5, rfl⟩
          have k8 : Below w5.heap.size w5 (w7.drewN q5) := below_drewN HM7.out _
          have bk8 : Below w.heap.size w (w7.drewN q5) := below_drewN bk7 _
          generalize w7.drewN q5 = w8 at *
          go_wp2_with fail
          refine (KB.out _ k8).mono ?_
          rintro e w9 ⟨m2, A9, c9, rfl, p2, p3, p4, p5, p6, p7, p8⟩
          have em : pl m2 = pl m := p6.one HP.out fun n v => (p7 n v).trans (rowsB_last HP.out.1 n v)
          have k9 := k8.trans (p8.mono k8.size)
          have bk9 := bk8.trans (p8.mono bk8.size)
          have K7 : Hid (Calls Try.prog 24 #[.slice A9 m2.length c9, .slice A1 f c1] w9 fun r w' => r = .returned (.bool true) ∧ Below w9.heap.size w9 w') := Lib.hid (by
            have hl2 : m2.length = m.length := by rw [← pl_length, em, pl_length]
            have := dSame_yes (c1 := c9) (c2 := c1) p4 (HM5.out.over k9) em (by have := HF.out; omega) (fun x hx => ct_short p6 x.b (List.mem_map.2 ⟨x, hx, rfl⟩))
            rwa [← HF.out] at this)
          clear p2 p3 p4 p5 p6 p7 em
          go_wp2_with fail
          refine K7.out.mono ?_
          rintro e w10 ⟨rfl, hb10⟩
          go_wp2
          go_ret
          exact ⟨rfl, bk9.trans (hb10.mono bk9.size)⟩
end Go.Proofs.Ytpcaipifppnfdaa
