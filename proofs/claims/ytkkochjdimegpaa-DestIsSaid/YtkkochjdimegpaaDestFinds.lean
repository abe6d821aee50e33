/-
  The walk of the statement DestFinds.
-/
import Derived.Test.YtkkochjdimegpaaDestAwake
import Derived.Test.YtkkochjdimegpaaDestLast
import Derived.Test.YtkkochjdimegpaaDestSame
namespace Go.Proofs.Ytkkochjdimegpaa
open Go.RowKit
attribute [local go_sem ↓] Go.wp_at_zero Go.wp_at_succ

/-- What two tell of one code is the same. -/
theorem retO_same {w : World} {o : Option (List Int)} {e : Ending} {w' : World} (h : RetO w o e w') : ∃ a c u b, e = .returned (.tuple #[.slice a u.length c, .bool b]) ∧ u = o.getD [] ∧ b = o.isSome ∧ Un w' a c u ∧ Below w.heap.size w w' := by
  obtain ⟨h, hb⟩ := h
  cases o with
  | none => exact ⟨none, 0, [], false, h, rfl, rfl, ⟨Nat.le_refl _, fun _ => rfl, Si.nil⟩, hb⟩
  | some u =>
    obtain ⟨a, c, e, hu⟩ := h
    exact ⟨a, c, u, true, e, rfl, rfl, hu.un, hb⟩
theorem goB_len (s : Bp) (v : Int) : (goB s v).length = s.u.length := addU_length _ _
theorem lastB_short {l : List Bp} {n v : Int} (h : ∀ b ∈ l, b.u.length ≤ 1000) : ((lastB l n v).getD []).length ≤ 1000 := by
  cases e : lastB l n v with
  | none => simp
  | some x =>
    obtain ⟨s, hs, hx⟩ := lastB_mem e
    obtain ⟨_, _, _, _, rfl⟩ := toB_some.1 hx
    show (goB s v).length ≤ 1000
    rw [goB_len]
    exact h s hs
theorem ct_short {l : List Bp} (h : Ct l) : ∀ b ∈ l, b.u.length ≤ 1000 := fun b hb => by have := (h.1 b hb).2.2.2.1.2.1; omega
set_option maxRecDepth 100000 in
set_option maxHeartbeats 8000000 in
theorem dfinds_walk (A : Option Addr) (c : Nat) (l : List Me) (n v : Int) (w : World) (hA : Sd w A l) (hm : l.length ≤ maxLen) (hmu : ∀ m ∈ l, m.b.u.length ≤ maxLen) :
    Calls Try.prog 4 #[.slice A l.length c, .agg #[.int .i64 n, .int .i64 v]] w fun e w' => e = .returned (.bool true) ∧ Below w.heap.size w w' := by
  unfold maxLen at hm hmu
  have HA := Lib.hid hA
  have HMU := Lib.hid hmu
  obtain ⟨k, hk⟩ : ∃ k, k = l.length := ⟨_, rfl⟩
  have HK := Lib.hid hk
  have KF : Hid (∀ W, Below w.heap.size w W → Calls Try.prog 10 #[.slice A k c] W fun e w' => e = .returned (.bool (decide (fewB (pl l)))) ∧ Below W.heap.size W w') := Lib.hid fun W hW => by
    have := Few_any A c l W (HA.out.over hW) (by omega) (fun m hm => by have := HMU.out m hm; omega)
    rwa [← hk] at this
  rw [← hk] at hm ⊢
  have hd0 := Cd.new w n v 27
  have hb0 : Below w.heap.size w (w.alloc (.cells #[.int .i64 n, .int .i64 v] 27)) := (Below.refl _ _).alloc (Nat.le_refl _) _
  have hz0 : w.heap.size < (w.alloc (.cells #[.int .i64 n, .int .i64 v] 27)).heap.size := by simp
  clear hk hA hmu
  go_enter Try.func4, Try.ntmps4
  go_wp2_with fail
  refine (awake_any _).mono ?_
  rintro e w1 ⟨rfl, hb1⟩
  have bk1 := hb0.trans (hb1.mono (Nat.le_of_lt hz0))
  have d1 := hd0.below hb1 hz0
  have z1 := Nat.lt_of_lt_of_le hz0 hb1.size
  clear hd0 hb0 hz0 hb1
  go_wp2_with fail
  refine (KF.out _ bk1).mono ?_
  rintro e w1' ⟨rfl, hb1'⟩
  have bk1 := bk1.trans (hb1'.mono bk1.size)
  have d1 := d1.below hb1' z1
  have z1 := Nat.lt_of_lt_of_le z1 hb1'.size
  clear hb1' KF
  cases hfew : decide (fewB (pl l)) with
  | false =>
    clear d1
    go_wp2
    go_ret
    exact ⟨rfl, bk1⟩
  | true =>
    have HFEW := Lib.hid (of_decide_eq_true hfew)
    clear hfew
    have hk60 : k ≤ 60 := by have := HFEW.out.2; rw [pl_length, ← HK.out] at this; exact this
    have K1 : Hid (Calls Try.prog 21 #[.slice A k c] w1' (BuiltB w1' (pl l))) := Lib.hid (by
      have := DBuild_any l (by have := HK.out; omega) A c w1' (HA.out.over bk1)
      rwa [← HK.out] at this)
    have K2 : Hid (∀ W, Below w.heap.size w W → Calls Try.prog 14 #[.slice A k c, .agg #[.int .i64 n, .int .i64 v]] W (RetO W (lastB (pl l) n v))) := Lib.hid fun W hW => by
      have := dLast_any A c l n v W (HA.out.over hW) (by have := HK.out; omega)
      rwa [← HK.out] at this
    have hsh : ((lastB (pl l) n v).getD []).length ≤ 1000 := lastB_short fun b hb => by have := HFEW.out.all b hb; omega
    have HSH := Lib.hid hsh
    clear hsh
    go_wp2_with fail
    refine K1.out.mono ?_
    rintro e w2 ⟨m, A1, c1, rfl, h2, h3, h4, h5, h6, h7, h8⟩
    have bk2 := bk1.trans (h8.mono bk1.size)
    have d2 := d1.below h8 z1
    have z2 := Nat.lt_of_lt_of_le z1 h8.size
    have hfew2 := h6.few h7
    rw [pl_length, pl_length] at hfew2
    have HM := Lib.hid h4
    have HP := Lib.hid h6
    have HP2 := Lib.hid h7
    obtain ⟨f, hf⟩ : ∃ f, f = m.length := ⟨_, rfl⟩
    have HF := Lib.hid hf
    have hfk : f ≤ 2 * k := by have := HK.out; omega
    rw [← hf] at hfew2 ⊢
    have K3 : Hid (∀ W, Below w2.heap.size w2 W → Calls Try.prog 16 #[.slice A1 f c1, .agg #[.int .i64 n, .int .i64 v]] W (RetO W (lastB (pl l) n v))) := Lib.hid fun W hW => by
      have := dFind_any A1 c1 m n v W (HM.out.over hW) (by have := HF.out; have := HK.out; omega)
      rw [findB, if_pos HP.out, HP2.out] at this
      rwa [← HF.out] at this
    have K4 : Hid (∀ W, Below w2.heap.size w2 W → Calls Try.prog 22 #[.slice A1 f c1] W fun e w' => e = .returned (.bool true) ∧ Below W.heap.size W w') := Lib.hid fun W hW => by
      have := dCanon_any A1 c1 m W (HM.out.over hW) (by have := HF.out; have := HK.out; omega)
      rw [decide_eq_true HP.out] at this
      rwa [← HF.out] at this
    have K5 : Hid (∀ W, Below w2.heap.size w2 W → Calls Try.prog 21 #[.slice A1 f c1] W (BuiltB W (pl m))) := Lib.hid fun W hW => by
      have := DBuild_any m (by have := HF.out; have := HK.out; omega) A1 c1 W (HM.out.over hW)
      rwa [← HF.out] at this
    clear h2 h3 h4 h5 h6 h7 h8 K1 d1 hf hfew2
    obtain ⟨f0, f1⟩ := id d2
    go_wp2_with fail
    refine (K3.out _ (Below.refl _ _)).mono ?_
    intro e w3 hr
    obtain ⟨a3, c3, u3, b3, rfl, hu3, hb3, hun3, k3⟩ := retO_same hr
    have d3 := d2.below k3 z2
    have z3 := Nat.lt_of_lt_of_le z2 k3.size
    have bk3 := bk2.trans (k3.mono bk2.size)
    have HU3 := Lib.hid hu3
    have HB3 := Lib.hid hb3
    clear f0 f1 d2 hr hu3 hb3
    obtain ⟨f0, f1⟩ := id d3
    go_wp2_with fail
    refine (K2.out _ bk3).mono ?_
    intro e w4 hr
    obtain ⟨a4, c4, u4, b4, rfl, hu4, hb4, hun4, k4⟩ := retO_same hr
    obtain rfl : u3 = u4 := HU3.out.trans hu4.symm
    obtain rfl : b3 = b4 := HB3.out.trans hb4.symm
    have bk4 := bk3.trans (k4.mono bk3.size)
    have hl3 : u3.length ≤ 1000 := by rw [HU3.out]; exact HSH.out
    have hm4 : Below w2.heap.size w2 w4 := k3.trans (k4.mono k3.size)
    have K6 : Hid (Calls Try.prog 18 #[.slice a3 u3.length c3, .slice a4 u3.length c4] w4 fun e w' => e = .returned (.bool true) ∧ ∃ q, w' = w4.drewN q) := Lib.hid (by
      have := iSame_any a3 a4 c3 c4 u3.length u3.length u3 u3 w4 rfl rfl (by omega) (by omega) (hun3.si.over k4) hun4.si
      rwa [decide_eq_true rfl] at this)
    have HM4 := Lib.hid hm4
    clear f0 f1 d3 hr hu4 hb4 hun3 hun4 k3 k4 hm4
    generalize u3.length = q3 at *
    go_wp2_with fail
    refine K6.out.mono ?_
    rintro e w5 ⟨rfl, q5, rfl⟩
    have k5 : Below w2.heap.size w2 (w4.drewN q5) := below_drewN HM4.out _
    have bk5 : Below w.heap.size w (w4.drewN q5) := below_drewN bk4 _
    generalize w4.drewN q5 = w5 at *
    have t1 : (b3 == b3) = true := by simp
    have t2 : decide ((f : Int) ≤ 2 * (k : Int)) = true := decide_eq_true (by omega)
    go_wp2_with fail
    refine (K4.out _ k5).mono ?_
    rintro e w6 ⟨rfl, hb6⟩
    have k6 := k5.trans (hb6.mono k5.size)
    have bk6 := bk5.trans (hb6.mono bk5.size)
    go_wp2_with fail
    refine (K5.out _ k6).mono ?_
    rintro e w7 ⟨m2, A2, c2, rfl, p2, p3, p4, p5, p6, p7, p8⟩
    have em : pl m2 = pl m := p6.one HP.out p7
    have k7 := k6.trans (p8.mono k6.size)
    have bk7 := bk6.trans (p8.mono bk6.size)
    have K7 : Hid (Calls Try.prog 24 #[.slice A2 m2.length c2, .slice A1 f c1] w7 fun r w' => r = .returned (.bool true) ∧ Below w7.heap.size w7 w') := Lib.hid (by
      have hl2 : m2.length = m.length := by rw [← pl_length, em, pl_length]
      have := dSame_yes (c1 := c2) (c2 := c1) p4 (HM.out.over k7) em (by have := HF.out; have := HK.out; omega) (fun x hx => ct_short p6 x.b (List.mem_map.2 ⟨x, hx, rfl⟩))
      rwa [← HF.out] at this)
    clear p2 p3 p4 p5 p6 p7 em hb6
    go_wp2_with fail
    refine K7.out.mono ?_
    rintro e w8 ⟨rfl, hb8⟩
    go_wp2
    go_ret
    exact ⟨rfl, bk7.trans (hb8.mono bk7.size)⟩
end Go.Proofs.Ytkkochjdimegpaa
