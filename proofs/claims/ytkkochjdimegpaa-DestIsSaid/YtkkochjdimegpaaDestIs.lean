/-
  The walk of the statement DestIs.
-/
import Derived.Test.YtkkochjdimegpaaDestFinds
import Derived.Test.YtkkochjdimegpaaDestShort
import Derived.Test.YtkkochjdimegpaaRefDest8
import Derived.Test.YtkkochjdimegpaaRefDest9
namespace Go.Proofs.Ytkkochjdimegpaa
open Go.RowKit
attribute [local go_sem ↓] Go.wp_at_zero Go.wp_at_succ

theorem rowsC_short {t : List Bp} (h : t.length ≤ 1000) : (rowsC t).length ≤ 1048576 ∧ ∀ x ∈ rowsC t, x.u.length ≤ 1000 := by
  unfold rowsC
  split
  · rename_i hc
    refine ⟨by have := (rowsB_len hc.1).2; omega, fun x hx => ?_⟩
    have := (rowsB_ok hc.1 x hx).1.2.2.2.1.2.1
    omega
  · exact ⟨by simp, fun x hx => by cases hx⟩
theorem findB_short {l : List Bp} {n v : Int} (h : ∀ b ∈ l, b.u.length ≤ 1000) : ((findB l n v).getD []).length ≤ 1000 := by
  unfold findB
  split
  · exact lastB_short h
  · simp
theorem toB_short {b : Bp} {n v : Int} (h : b.u.length ≤ 1000) : ((toB b n v).getD []).length ≤ 1000 := by
  cases e : toB b n v with
  | none => simp
  | some x =>
    obtain ⟨_, _, _, _, rfl⟩ := toB_some.1 e
    show (goB b v).length ≤ 1000
    rw [goB_len]
    exact h
/-- What is told, with a length of its own. -/
def RetU (U : List Int) (k : Nat) (t : Bool) (W : World) (e : Ending) (w' : World) : Prop := ∃ a c, e = .returned (.tuple #[.slice a k c, .bool t]) ∧ Un w' a c U ∧ Below W.heap.size W w'
theorem RetO.u {W w' : World} {o : Option (List Int)} {e : Ending} (h : RetO W o e w') : RetU (o.getD []) (o.getD []).length o.isSome W e w' := by
  obtain ⟨a, c, u, t, rfl, rfl, rfl, hu, hb⟩ := retO_same h
  exact ⟨a, c, rfl, hu, hb⟩
theorem same_u {U : List Int} (hU : U.length ≤ 1000) (W : World) (a1 a2 : Option Addr) (c1 c2 : Nat) (h1 : Un W a1 c1 U) (h2 : Un W a2 c2 U) :
    Calls Try.prog 18 #[.slice a1 U.length c1, .slice a2 U.length c2] W fun e w' => e = .returned (.bool true) ∧ Below W.heap.size W w' := by
  have := iSame_any a1 a2 c1 c2 U.length U.length U U W rfl rfl (by omega) (by omega) h1.si h2.si
  rw [decide_eq_true rfl] at this
  refine this.mono ?_
  rintro e w' ⟨rfl, k, rfl⟩
  exact ⟨rfl, below_drewN (Below.refl _ _) _⟩
set_option maxRecDepth 100000 in
set_option maxHeartbeats 16000000 in
theorem dis_walk (A : Option Addr) (c : Nat) (l : List Me) (b : Me) (n v : Int) (w : World) (hA : Sd w A l) (hm : l.length ≤ maxLen) (hmu : ∀ m ∈ l, m.b.u.length ≤ maxLen) (hub : Un w b.a b.c b.b.u) (hbu : b.b.u.length ≤ maxLen) :
    Calls Try.prog 3 #[.slice A l.length c, fv b, .agg #[.int .i64 n, .int .i64 v]] w fun e w' => e = .returned (.bool true) ∧ Below w.heap.size w w' := by
  unfold maxLen at hm hmu hbu
  have HA := Lib.hid hA
  have HUB := Lib.hid hub
  have HMU : Hid (∀ m ∈ l, m.b.u.length ≤ 9223372036854775807) := Lib.hid fun m hm => by have := hmu m hm; omega
  obtain ⟨k, hk⟩ : ∃ k, k = l.length := ⟨_, rfl⟩
  have HK := Lib.hid hk
  have KFEW : Hid (∀ W, Below w.heap.size w W → Calls Try.prog 10 #[.slice A k c] W fun e w' => e = .returned (.bool (decide (fewB (pl l)))) ∧ Below W.heap.size W w') := Lib.hid fun W hW => by
    have := Few_any A c l W (HA.out.over hW) (by omega) HMU.out
    rwa [← hk] at this
  have KSH : Hid (∀ W, Below w.heap.size w W → Calls Try.prog 11 #[.slice A k c] W fun e w' => (∃ t, e = .returned (.bool t)) ∧ Below W.heap.size W w') := Lib.hid fun W hW => by
    have := Short_any A c l W (HA.out.over hW)
    rwa [← hk] at this
  rw [← hk] at hm ⊢
  have hs0 : Fb ((w.alloc (.cells #[.int .i64 b.b.n, .int .i64 b.b.lo, .int .i64 b.b.hi, .slice b.a b.b.u.length b.c] 25)).alloc (.cells #[.int .i64 n, .int .i64 v] 27)) w.heap.size b := ⟨by simp, by simp, by simp, by simp⟩
  have hd0 : Cd ((w.alloc (.cells #[.int .i64 b.b.n, .int .i64 b.b.lo, .int .i64 b.b.hi, .slice b.a b.b.u.length b.c] 25)).alloc (.cells #[.int .i64 n, .int .i64 v] 27)) (w.heap.size + 1) n v := ⟨by simp, by simp⟩
  have hb0 : Below w.heap.size w ((w.alloc (.cells #[.int .i64 b.b.n, .int .i64 b.b.lo, .int .i64 b.b.hi, .slice b.a b.b.u.length b.c] 25)).alloc (.cells #[.int .i64 n, .int .i64 v] 27)) := ((Below.refl _ _).alloc (Nat.le_refl _) _).alloc (by simp) _
  have hz0 : w.heap.size + 1 < ((w.alloc (.cells #[.int .i64 b.b.n, .int .i64 b.b.lo, .int .i64 b.b.hi, .slice b.a b.b.u.length b.c] 25)).alloc (.cells #[.int .i64 n, .int .i64 v] 27)).heap.size := by simp
  clear hk hA hmu hub
  unfold fv
  go_enter Try.func3, Try.ntmps3
  go_wp2_with fail
  refine (awake_any _).mono ?_
  rintro e w1 ⟨rfl, hb1⟩
  have bk1 := hb0.trans (hb1.mono (by omega))
  have d1 := hd0.below hb1 hz0
  have s1 := hs0.below hb1 (by omega)
  have z1 := Nat.lt_of_lt_of_le hz0 hb1.size
  clear hd0 hs0 hb0 hz0 hb1
  go_wp2_with fail
  refine (KFEW.out _ bk1).mono ?_
  rintro e w2 ⟨rfl, hb2⟩
  have bk2 := bk1.trans (hb2.mono bk1.size)
  have d2 := d1.below hb2 z1
  have s2 := s1.below hb2 (by omega)
  have z2 := Nat.lt_of_lt_of_le z1 hb2.size
  clear hb2 KFEW bk1 d1 s1 z1
  cases hfew : decide (fewB (pl l)) with
  | false =>
    clear d2 s2
    go_wp2
    go_ret
    exact ⟨rfl, bk2⟩
  | true =>
    have HFEW := Lib.hid (of_decide_eq_true hfew)
    clear hfew
    have hk60 : k ≤ 60 := by have := HFEW.out.2; rw [pl_length, ← HK.out] at this; exact this
    have HK60 := Lib.hid hk60
    go_wp2_with fail
    refine (KSH.out _ bk2).mono ?_
    rintro e w3 ⟨⟨tsh, rfl⟩, hb3⟩
    have bk3 := bk2.trans (hb3.mono bk2.size)
    have d3 := d2.below hb3 z2
    have s3 := s2.below hb3 (by omega)
    have z3 := Nat.lt_of_lt_of_le z2 hb3.size
    clear hb3 KSH bk2 d2 s2 z2 hk60
    cases tsh with
    | false =>
      clear d3 s3
      go_wp2
      go_ret
      exact ⟨rfl, bk3⟩
    | true =>
      have HH : Hid (∀ W, Below w3.heap.size w3 W → (W.cell? ⟨w.heap.size, 0, none⟩ = some (.int .i64 b.b.n) ∧ W.cell? ⟨w.heap.size, 1, none⟩ = some (.int .i64 b.b.lo) ∧ W.cell? ⟨w.heap.size, 2, none⟩ = some (.int .i64 b.b.hi) ∧ W.cell? ⟨w.heap.size, 3, none⟩ = some (.slice b.a b.b.u.length b.c)) ∧ W.cell? ⟨w.heap.size + 1, 0, none⟩ = some (.int .i64 n) ∧ W.cell? ⟨w.heap.size + 1, 1, none⟩ = some (.int .i64 v)) := Lib.hid fun W hW => by
        have p := s3.below hW (by omega)
        have q := d3.below hW z3
        exact ⟨⟨p.c0, by simpa using p.c1, by simpa using p.c2, by simpa using p.c3⟩, q.c0, q.c1⟩
      have HL : Hid (∀ W, Below w3.heap.size w3 W → Below w.heap.size w W) := Lib.hid fun W hW => bk3.trans (hW.mono bk3.size)
      have x0 : Below w3.heap.size w3 w3 := Below.refl _ _
      obtain ⟨⟨y0, y1, y2, y3⟩, f0, f1⟩ := HH.out _ x0
      clear d3 s3 z3
      by_cases h70 : 70 < b.b.u.length
      · have t70 : decide ((70 : Int) < (b.b.u.length : Int)) = true := decide_eq_true (by omega)
        clear h70
        go_wp2
        go_ret
        exact ⟨rfl, bk3⟩
      · have t70 : decide ((70 : Int) < (b.b.u.length : Int)) = false := decide_eq_false (by omega)
        have KT : Hid (∀ W, Below w3.heap.size w3 W → Calls Try.prog 12 #[.agg #[.int .i64 b.b.n, .int .i64 b.b.lo, .int .i64 b.b.hi, .slice b.a b.b.u.length b.c], .agg #[.int .i64 n, .int .i64 v]] W (RetU ((toB b.b n v).getD []) ((toB b.b n v).getD []).length (toB b.b n v).isSome W)) := Lib.hid fun W hW => (DTo_any b n v W (HUB.out.over (HL.out W hW))).mono fun e w' h => h.u
        have KT2 : Hid (∀ W, Below w3.heap.size w3 W → Calls Try.prog 13 #[.agg #[.int .i64 b.b.n, .int .i64 b.b.lo, .int .i64 b.b.hi, .slice b.a b.b.u.length b.c], .agg #[.int .i64 n, .int .i64 v]] W (RetU ((toB b.b n v).getD []) ((toB b.b n v).getD []).length (toB b.b n v).isSome W)) := Lib.hid fun W hW => (rDTo_any b n v W (HUB.out.over (HL.out W hW)) (by omega)).mono fun e w' h => h.u
        have KL : Hid (∀ W, Below w3.heap.size w3 W → Calls Try.prog 14 #[.slice A k c, .agg #[.int .i64 n, .int .i64 v]] W (RetU ((lastB (pl l) n v).getD []) ((lastB (pl l) n v).getD []).length (lastB (pl l) n v).isSome W)) := Lib.hid fun W hW => by
          have h := dLast_any A c l n v W (HA.out.over (HL.out W hW)) (by have := HK.out; have := HK60.out; omega)
          rw [← HK.out] at h
          exact h.mono fun e w' h => h.u
        have KL2 : Hid (∀ W, Below w3.heap.size w3 W → Calls Try.prog 15 #[.slice A k c, .agg #[.int .i64 n, .int .i64 v]] W (RetU ((lastB (pl l) n v).getD []) ((lastB (pl l) n v).getD []).length (lastB (pl l) n v).isSome W)) := Lib.hid fun W hW => by
          have h := rDLast_any A c l n v W (HA.out.over (HL.out W hW)) (by have := HK.out; have := HK60.out; omega) HMU.out
          rw [← HK.out] at h
          exact h.mono fun e w' h => h.u
        have KF : Hid (∀ W, Below w3.heap.size w3 W → Calls Try.prog 16 #[.slice A k c, .agg #[.int .i64 n, .int .i64 v]] W (RetU ((findB (pl l) n v).getD []) ((findB (pl l) n v).getD []).length (findB (pl l) n v).isSome W)) := Lib.hid fun W hW => by
          have h := dFind_any A c l n v W (HA.out.over (HL.out W hW)) (by have := HK.out; have := HK60.out; omega)
          rw [← HK.out] at h
          exact h.mono fun e w' h => h.u
        have KF2 : Hid (∀ W, Below w3.heap.size w3 W → Calls Try.prog 17 #[.slice A k c, .agg #[.int .i64 n, .int .i64 v]] W (RetU ((findB (pl l) n v).getD []) ((findB (pl l) n v).getD []).length (findB (pl l) n v).isSome W)) := Lib.hid fun W hW => by
          have h := rDFind_any A c l n v W (HA.out.over (HL.out W hW)) (by have := HK.out; have := HK60.out; omega) HMU.out
          rw [← HK.out] at h
          exact h.mono fun e w' h => h.u
        have KS : Hid (∀ W, Below w3.heap.size w3 W → Calls Try.prog 19 #[.agg #[.int .i64 b.b.n, .int .i64 b.b.lo, .int .i64 b.b.hi, .slice b.a b.b.u.length b.c]] W fun e w' => e = .returned (.bool (decide (Sb b.b))) ∧ Below W.heap.size W w') := Lib.hid fun W hW => DSane_any b W (HUB.out.over (HL.out W hW))
        have KS2 : Hid (∀ W, Below w3.heap.size w3 W → Calls Try.prog 20 #[.agg #[.int .i64 b.b.n, .int .i64 b.b.lo, .int .i64 b.b.hi, .slice b.a b.b.u.length b.c]] W fun e w' => e = .returned (.bool (decide (Sb b.b))) ∧ Below W.heap.size W w') := Lib.hid fun W hW => rDSane_any b W (HUB.out.over (HL.out W hW)) (by omega)
        have KC : Hid (∀ W, Below w3.heap.size w3 W → Calls Try.prog 22 #[.slice A k c] W fun e w' => e = .returned (.bool (decide (Ct (pl l)))) ∧ Below W.heap.size W w') := Lib.hid fun W hW => by
          have h := dCanon_any A c l W (HA.out.over (HL.out W hW)) (by have := HK.out; have := HK60.out; omega)
          rwa [← HK.out] at h
        have KC2 : Hid (∀ W, Below w3.heap.size w3 W → Calls Try.prog 23 #[.slice A k c] W fun e w' => e = .returned (.bool (decide (Ct (pl l)))) ∧ Below W.heap.size W w') := Lib.hid fun W hW => by
          have h := rDCanon_any A c l W (HA.out.over (HL.out W hW)) (by have := HK.out; have := HK60.out; omega) HMU.out
          rwa [← HK.out] at h
        have KB : Hid (∀ W, Below w3.heap.size w3 W → Calls Try.prog 21 #[.slice A k c] W (BuiltB W (pl l))) := Lib.hid fun W hW => by
          have h := DBuild_any l (by have := HK.out; have := HK60.out; omega) A c W (HA.out.over (HL.out W hW))
          rwa [← HK.out] at h
        have KB2 : Hid (∀ W, Below w3.heap.size w3 W → Calls Try.prog 25 #[.slice A k c] W (BuiltB W (pl l))) := Lib.hid fun W hW => by
          have h := rDBuild_any A c l W (HA.out.over (HL.out W hW)) (by have := HK.out; have := HK60.out; omega) HMU.out
          rwa [← HK.out] at h
        have KR : Hid (∀ W, Below w3.heap.size w3 W → Calls Try.prog 26 #[.slice A k c] W fun e w' => ∃ m A' c', e = .returned (.slice A' m.length c') ∧ Sd w' A' m ∧ pl m = rowsC (pl l) ∧ Below W.heap.size W w') := Lib.hid fun W hW => by
          have h := DRows_any A c l W (HA.out.over (HL.out W hW)) (by have := HK.out; have := HK60.out; omega)
          rw [← HK.out] at h
          refine h.mono ?_
          rintro e w' ⟨m, A', c', rfl, _, _, h1, _, h2, h3⟩
          exact ⟨m, A', c', rfl, h1, h2, h3⟩
        have KR2 : Hid (∀ W, Below w3.heap.size w3 W → Calls Try.prog 27 #[.slice A k c] W fun e w' => ∃ m A' c', e = .returned (.slice A' m.length c') ∧ Sd w' A' m ∧ pl m = rowsC (pl l) ∧ Below W.heap.size W w') := Lib.hid fun W hW => by
          have h := rDRows_any A c l W (HA.out.over (HL.out W hW)) (by have := HK.out; have := HK60.out; omega) HMU.out
          rw [← HK.out] at h
          refine h.mono ?_
          rintro e w' ⟨m, A', c', rfl, _, h1, h2, h3⟩
          exact ⟨m, A', c', rfl, h1, h2, h3⟩
        have KRL := Lib.hid (rowsC_short (t := pl l) (by rw [pl_length]; have := HK.out; have := HK60.out; omega))
        have hs1 : ((toB b.b n v).getD []).length ≤ 1000 := toB_short (by omega)
        have hs2 : ((lastB (pl l) n v).getD []).length ≤ 1000 := lastB_short fun b hb => by have := HFEW.out.all b hb; omega
        have hs3 : ((findB (pl l) n v).getD []).length ≤ 1000 := findB_short fun b hb => by have := HFEW.out.all b hb; omega
        have G1 := Lib.hid (same_u hs1)
        have G2 := Lib.hid (same_u hs2)
        have G3 := Lib.hid (same_u hs3)
        clear hs1 hs2 hs3
        generalize (toB b.b n v).isSome = t1 at *
        generalize (toB b.b n v).getD [] = U1 at *
        generalize (lastB (pl l) n v).isSome = t2 at *
        generalize (lastB (pl l) n v).getD [] = U2 at *
        generalize (findB (pl l) n v).isSome = t3 at *
        generalize (findB (pl l) n v).getD [] = U3 at *
        generalize U1.length = N1 at *
        generalize U2.length = N2 at *
        generalize U3.length = N3 at *
        generalize hds : decide (Sb b.b) = ds at KS KS2
        generalize hdc : decide (Ct (pl l)) = dc at KC KC2
        have e1 : (t1 != t1) = false := by simp
        have e2 : (t2 != t2) = false := by simp
        have e3 : (t3 != t3) = false := by simp
        have e4 : (ds != ds) = false := by simp
        have e5 : (dc == dc) = true := by simp
        clear hds hdc h70 bk3
        go_wp2_with fail
        refine (KT.out _ x0).mono ?_
        rintro e v1 ⟨a1, g1, rfl, h1, hb1⟩
        have x1 := x0.trans (hb1.mono x0.size)
        clear y0 y1 y2 y3 f0 f1
        obtain ⟨⟨y0, y1, y2, y3⟩, f0, f1⟩ := HH.out _ x1
        go_wp2_with fail
        refine (KT2.out _ x1).mono ?_
        rintro e v2 ⟨a2, g2, rfl, h2, hb2⟩
        have x2 := x1.trans (hb2.mono x1.size)
        have h1 := h1.over hb2
        clear y0 y1 y2 y3 f0 f1
        obtain ⟨⟨y0, y1, y2, y3⟩, f0, f1⟩ := HH.out _ x2
        go_wp2_with fail
        refine (KL.out _ x2).mono ?_
        rintro e v3 ⟨a3, g3, rfl, h3, hb3⟩
        have x3 := x2.trans (hb3.mono x2.size)
        have h1 := h1.over hb3
        have h2 := h2.over hb3
        clear y0 y1 y2 y3 f0 f1
        obtain ⟨⟨y0, y1, y2, y3⟩, f0, f1⟩ := HH.out _ x3
        go_wp2_with fail
        refine (KL2.out _ x3).mono ?_
        rintro e v4 ⟨a4, g4, rfl, h4, hb4⟩
        have x4 := x3.trans (hb4.mono x3.size)
        have h1 := h1.over hb4
        have h2 := h2.over hb4
        have h3 := h3.over hb4
        clear y0 y1 y2 y3 f0 f1
        obtain ⟨⟨y0, y1, y2, y3⟩, f0, f1⟩ := HH.out _ x4
        go_wp2_with fail
        refine (KF.out _ x4).mono ?_
        rintro e v5 ⟨a5, g5, rfl, h5, hb5⟩
        have x5 := x4.trans (hb5.mono x4.size)
        have h1 := h1.over hb5
        have h2 := h2.over hb5
        have h3 := h3.over hb5
        have h4 := h4.over hb5
        clear y0 y1 y2 y3 f0 f1
        obtain ⟨⟨y0, y1, y2, y3⟩, f0, f1⟩ := HH.out _ x5
        go_wp2_with fail
        refine (KF2.out _ x5).mono ?_
        rintro e v6 ⟨a6, g6, rfl, h6, hb6⟩
        have x6 := x5.trans (hb6.mono x5.size)
        have h1 := h1.over hb6
        have h2 := h2.over hb6
        have h3 := h3.over hb6
        have h4 := h4.over hb6
        have h5 := h5.over hb6
        clear y0 y1 y2 y3 f0 f1
        obtain ⟨⟨y0, y1, y2, y3⟩, f0, f1⟩ := HH.out _ x6
        clear y0 y1 y2 y3 f0 f1
        have z0 : Below w3.heap.size w3 v6.drew := x6.drew
        have hdr : Below v6.heap.size v6 v6.drew := (Below.refl _ _).drew
        have j1 := h1.over hdr
        have j2 := h2.over hdr
        have j3 := h3.over hdr
        have j4 := h4.over hdr
        have j5 := h5.over hdr
        have j6 := h6.over hdr
        go_wp2_with fail
        refine wp_region_held_drew (S := fun w' => w'.cell? ⟨w.heap.size, 0, none⟩ = some (.int .i64 b.b.n) ∧ w'.cell? ⟨w.heap.size, 1, none⟩ = some (.int .i64 b.b.lo) ∧ w'.cell? ⟨w.heap.size, 2, none⟩ = some (.int .i64 b.b.hi) ∧ w'.cell? ⟨w.heap.size, 3, none⟩ = some (.slice b.a b.b.u.length b.c)) (by kernel_rfl) ((HH.out _ z0).1) (fun hS0 => ?_)
        try dsimp only at hS0
        refine wpAnyH_take (i := 0) (oi := { dst := some 73, op := Op.move (Operand.tmp 8), type := 23, pos := "law.go:31", after := #[], guard := none }) (v := ?_) rfl (by kernel_rfl) (by kernel_rfl) (by kernel_rfl) (fun _ _ _ h => h) (Or.inl ⟨by rfl, ?_⟩) (by assumption) ?_
        rotate_left
        · intro w' hSw; obtain ⟨y0, y1, y2, y3⟩ := hSw; go_simp; try with_reducible rfl
        simp only [Act.put, List.setIfInBounds_toArray, List.set_cons_zero, List.set_cons_succ]
        refine wpAnyH_take (i := 1) (oi := { dst := some 74, op := Op.move (Operand.tmp 10), type := 23, pos := "law.go:31", after := #[], guard := none }) (v := ?_) rfl (by kernel_rfl) (by kernel_rfl) (by kernel_rfl) (fun _ _ _ h => h) (Or.inl ⟨by rfl, ?_⟩) (by assumption) ?_
        rotate_left
        · intro w' hSw; obtain ⟨y0, y1, y2, y3⟩ := hSw; go_simp; try with_reducible rfl
        simp only [Act.put, List.setIfInBounds_toArray, List.set_cons_zero, List.set_cons_succ]
        refine wpAnyH_ready (rs := [2]) (by kernel_rfl) (by simp) (AllReadyH.cons rfl (fun K hK => ?_) AllReadyH.nil)
        go_simp
        go_wp2_with ((go_at_call 18; (with_reducible refine (G1.out _ a1 a2 g1 g2 j1 j2).mono ?_); rintro e q1 ⟨rfl, gb1⟩))
        have z1 := z0.trans (gb1.mono z0.size)
        have j3 := j3.over gb1
        have j4 := j4.over gb1
        have j5 := j5.over gb1
        have j6 := j6.over gb1
        refine hK.out _ _ (HH.out _ z1).1 (fun hS2 => ?_)
        clear hK K
        try dsimp only at hS2
        refine wpAnyH_take (i := 3) (oi := { dst := some 76, op := Op.unOp UnOp.not 4 (Operand.tmp 75), type := 4, pos := "law.go:31", after := #[{ on := 2, ground := Ground.data }], guard := none }) (v := ?_) rfl (by kernel_rfl) (by kernel_rfl) (by kernel_rfl) (fun _ _ _ h => h) (Or.inl ⟨by rfl, ?_⟩) (by assumption) ?_
        rotate_left
        · intro w' hSw; obtain ⟨y0, y1, y2, y3⟩ := hSw; go_simp; try with_reducible rfl
        simp only [Act.put, List.setIfInBounds_toArray, List.set_cons_zero, List.set_cons_succ]
        refine wpAnyH_take (i := 4) (oi := { dst := some 77, op := Op.move (Operand.tmp 76), type := 4, pos := "law.go:31", after := #[{ on := 3, ground := Ground.data }, { on := 2, ground := Ground.chain }], guard := none }) (v := ?_) rfl (by kernel_rfl) (by kernel_rfl) (by kernel_rfl) (fun _ _ _ h => h) (Or.inl ⟨by rfl, ?_⟩) (by assumption) ?_
        rotate_left
        · intro w' hSw; obtain ⟨y0, y1, y2, y3⟩ := hSw; go_simp; try with_reducible rfl
        simp only [Act.put, List.setIfInBounds_toArray, List.set_cons_zero, List.set_cons_succ]
        refine wpAnyH_take (i := 5) (oi := { dst := some 78, op := Op.move (Operand.tmp 9), type := 4, pos := "law.go:31", after := #[{ on := 4, ground := Ground.guard }], guard := some (4, false) }) (v := ?_) rfl (by kernel_rfl) (by kernel_rfl) (by kernel_rfl) (fun _ _ _ h => h) (Or.inl ⟨by rfl, ?_⟩) (by assumption) ?_
        rotate_left
        · intro w' hSw; obtain ⟨y0, y1, y2, y3⟩ := hSw; go_simp; try with_reducible rfl
        simp only [Act.put, List.setIfInBounds_toArray, List.set_cons_zero, List.set_cons_succ]
        refine wpAnyH_take (i := 6) (oi := { dst := some 79, op := Op.move (Operand.tmp 11), type := 4, pos := "law.go:31", after := #[{ on := 4, ground := Ground.guard }], guard := some (4, false) }) (v := ?_) rfl (by kernel_rfl) (by kernel_rfl) (by kernel_rfl) (fun _ _ _ h => h) (Or.inl ⟨by rfl, ?_⟩) (by assumption) ?_
        rotate_left
        · intro w' hSw; obtain ⟨y0, y1, y2, y3⟩ := hSw; go_simp; try with_reducible rfl
        simp only [Act.put, List.setIfInBounds_toArray, List.set_cons_zero, List.set_cons_succ]
        refine wpAnyH_take (i := 7) (oi := { dst := some 80, op := Op.binOp BinOp.neq 4 (Operand.tmp 78) (Operand.tmp 79) 4, type := 4, pos := "law.go:31", after := #[{ on := 5, ground := Ground.data }, { on := 6, ground := Ground.data }, { on := 4, ground := Ground.guard }], guard := some (4, false) }) (v := ?_) rfl (by kernel_rfl) (by kernel_rfl) (by kernel_rfl) (fun _ _ _ h => h) (Or.inl ⟨by rfl, ?_⟩) (by assumption) ?_
        rotate_left
        · intro w' hSw; obtain ⟨y0, y1, y2, y3⟩ := hSw; go_simp; try with_reducible rfl
        simp only [Act.put, List.setIfInBounds_toArray, List.set_cons_zero, List.set_cons_succ]
        refine wpAnyH_take (i := 8) (oi := { dst := some 81, op := Op.pick (Operand.tmp 77) (Operand.const (Value.bool true)) (Operand.tmp 80), type := 4, pos := "law.go:31", after := #[{ on := 4, ground := Ground.data }, { on := 7, ground := Ground.data }], guard := none }) (v := ?_) rfl (by kernel_rfl) (by kernel_rfl) (by kernel_rfl) (fun _ _ _ h => h) (Or.inl ⟨by rfl, ?_⟩) (by assumption) ?_
        rotate_left
        · intro w' hSw; obtain ⟨y0, y1, y2, y3⟩ := hSw; go_simp; try with_reducible rfl
        simp only [Act.put, List.setIfInBounds_toArray, List.set_cons_zero, List.set_cons_succ]
        refine wpAnyH_take (i := 9) (oi := { dst := some 82, op := Op.move (Operand.tmp 81), type := 4, pos := "law.go:31", after := #[{ on := 8, ground := Ground.data }, { on := 4, ground := Ground.chain }], guard := none }) (v := ?_) rfl (by kernel_rfl) (by kernel_rfl) (by kernel_rfl) (fun _ _ _ h => h) (Or.inl ⟨by rfl, ?_⟩) (by assumption) ?_
        rotate_left
        · intro w' hSw; obtain ⟨y0, y1, y2, y3⟩ := hSw; go_simp; try with_reducible rfl
        simp only [Act.put, List.setIfInBounds_toArray, List.set_cons_zero, List.set_cons_succ]
        refine wpAnyH_take (i := 10) (oi := { dst := some 83, op := Op.move (Operand.tmp 12), type := 23, pos := "law.go:31", after := #[{ on := 9, ground := Ground.guard }], guard := some (9, false) }) (v := ?_) rfl (by kernel_rfl) (by kernel_rfl) (by kernel_rfl) (fun _ _ _ h => h) (Or.inl ⟨by rfl, ?_⟩) (by assumption) ?_
        rotate_left
        · intro w' hSw; obtain ⟨y0, y1, y2, y3⟩ := hSw; go_simp; try with_reducible rfl
        simp only [Act.put, List.setIfInBounds_toArray, List.set_cons_zero, List.set_cons_succ]
        refine wpAnyH_take (i := 11) (oi := { dst := some 84, op := Op.move (Operand.tmp 14), type := 23, pos := "law.go:31", after := #[{ on := 9, ground := Ground.guard }], guard := some (9, false) }) (v := ?_) rfl (by kernel_rfl) (by kernel_rfl) (by kernel_rfl) (fun _ _ _ h => h) (Or.inl ⟨by rfl, ?_⟩) (by assumption) ?_
        rotate_left
        · intro w' hSw; obtain ⟨y0, y1, y2, y3⟩ := hSw; go_simp; try with_reducible rfl
        simp only [Act.put, List.setIfInBounds_toArray, List.set_cons_zero, List.set_cons_succ]
        refine wpAnyH_ready (rs := [12]) (by kernel_rfl) (by simp) (AllReadyH.cons rfl (fun K hK => ?_) AllReadyH.nil)
        go_simp
        go_wp2_with ((go_at_call 18; (with_reducible refine (G2.out _ a3 a4 g3 g4 j3 j4).mono ?_); rintro e q2 ⟨rfl, gb2⟩))
        have z2 := z1.trans (gb2.mono z1.size)
        have j5 := j5.over gb2
        have j6 := j6.over gb2
        refine hK.out _ _ (HH.out _ z2).1 (fun hS12 => ?_)
        clear hK K
        try dsimp only at hS12
        refine wpAnyH_take (i := 13) (oi := { dst := some 86, op := Op.unOp UnOp.not 4 (Operand.tmp 85), type := 4, pos := "law.go:31", after := #[{ on := 12, ground := Ground.data }, { on := 9, ground := Ground.guard }], guard := some (9, false) }) (v := ?_) rfl (by kernel_rfl) (by kernel_rfl) (by kernel_rfl) (fun _ _ _ h => h) (Or.inl ⟨by rfl, ?_⟩) (by assumption) ?_
        rotate_left
        · intro w' hSw; obtain ⟨y0, y1, y2, y3⟩ := hSw; go_simp; try with_reducible rfl
        simp only [Act.put, List.setIfInBounds_toArray, List.set_cons_zero, List.set_cons_succ]
        refine wpAnyH_take (i := 14) (oi := { dst := some 87, op := Op.pick (Operand.tmp 82) (Operand.const (Value.bool true)) (Operand.tmp 86), type := 4, pos := "law.go:31", after := #[{ on := 9, ground := Ground.data }, { on := 13, ground := Ground.data }], guard := none }) (v := ?_) rfl (by kernel_rfl) (by kernel_rfl) (by kernel_rfl) (fun _ _ _ h => h) (Or.inl ⟨by rfl, ?_⟩) (by assumption) ?_
        rotate_left
        · intro w' hSw; obtain ⟨y0, y1, y2, y3⟩ := hSw; go_simp; try with_reducible rfl
        simp only [Act.put, List.setIfInBounds_toArray, List.set_cons_zero, List.set_cons_succ]
        refine wpAnyH_take (i := 15) (oi := { dst := some 88, op := Op.move (Operand.tmp 87), type := 4, pos := "law.go:31", after := #[{ on := 14, ground := Ground.data }, { on := 12, ground := Ground.chain }], guard := none }) (v := ?_) rfl (by kernel_rfl) (by kernel_rfl) (by kernel_rfl) (fun _ _ _ h => h) (Or.inl ⟨by rfl, ?_⟩) (by assumption) ?_
        rotate_left
        · intro w' hSw; obtain ⟨y0, y1, y2, y3⟩ := hSw; go_simp; try with_reducible rfl
        simp only [Act.put, List.setIfInBounds_toArray, List.set_cons_zero, List.set_cons_succ]
        refine wpAnyH_take (i := 16) (oi := { dst := some 89, op := Op.move (Operand.tmp 13), type := 4, pos := "law.go:31", after := #[{ on := 15, ground := Ground.guard }], guard := some (15, false) }) (v := ?_) rfl (by kernel_rfl) (by kernel_rfl) (by kernel_rfl) (fun _ _ _ h => h) (Or.inl ⟨by rfl, ?_⟩) (by assumption) ?_
        rotate_left
        · intro w' hSw; obtain ⟨y0, y1, y2, y3⟩ := hSw; go_simp; try with_reducible rfl
        simp only [Act.put, List.setIfInBounds_toArray, List.set_cons_zero, List.set_cons_succ]
        refine wpAnyH_take (i := 17) (oi := { dst := some 90, op := Op.move (Operand.tmp 15), type := 4, pos := "law.go:31", after := #[{ on := 15, ground := Ground.guard }], guard := some (15, false) }) (v := ?_) rfl (by kernel_rfl) (by kernel_rfl) (by kernel_rfl) (fun _ _ _ h => h) (Or.inl ⟨by rfl, ?_⟩) (by assumption) ?_
        rotate_left
        · intro w' hSw; obtain ⟨y0, y1, y2, y3⟩ := hSw; go_simp; try with_reducible rfl
        simp only [Act.put, List.setIfInBounds_toArray, List.set_cons_zero, List.set_cons_succ]
        refine wpAnyH_take (i := 18) (oi := { dst := some 91, op := Op.binOp BinOp.neq 4 (Operand.tmp 89) (Operand.tmp 90) 4, type := 4, pos := "law.go:31", after := #[{ on := 16, ground := Ground.data }, { on := 17, ground := Ground.data }, { on := 15, ground := Ground.guard }], guard := some (15, false) }) (v := ?_) rfl (by kernel_rfl) (by kernel_rfl) (by kernel_rfl) (fun _ _ _ h => h) (Or.inl ⟨by rfl, ?_⟩) (by assumption) ?_
        rotate_left
        · intro w' hSw; obtain ⟨y0, y1, y2, y3⟩ := hSw; go_simp; try with_reducible rfl
        simp only [Act.put, List.setIfInBounds_toArray, List.set_cons_zero, List.set_cons_succ]
        refine wpAnyH_take (i := 19) (oi := { dst := some 92, op := Op.pick (Operand.tmp 88) (Operand.const (Value.bool true)) (Operand.tmp 91), type := 4, pos := "law.go:31", after := #[{ on := 15, ground := Ground.data }, { on := 18, ground := Ground.data }], guard := none }) (v := ?_) rfl (by kernel_rfl) (by kernel_rfl) (by kernel_rfl) (fun _ _ _ h => h) (Or.inl ⟨by rfl, ?_⟩) (by assumption) ?_
        rotate_left
        · intro w' hSw; obtain ⟨y0, y1, y2, y3⟩ := hSw; go_simp; try with_reducible rfl
        simp only [Act.put, List.setIfInBounds_toArray, List.set_cons_zero, List.set_cons_succ]
        refine wpAnyH_take (i := 20) (oi := { dst := some 93, op := Op.move (Operand.tmp 92), type := 4, pos := "law.go:31", after := #[{ on := 19, ground := Ground.data }, { on := 15, ground := Ground.chain }], guard := none }) (v := ?_) rfl (by kernel_rfl) (by kernel_rfl) (by kernel_rfl) (fun _ _ _ h => h) (Or.inl ⟨by rfl, ?_⟩) (by assumption) ?_
        rotate_left
        · intro w' hSw; obtain ⟨y0, y1, y2, y3⟩ := hSw; go_simp; try with_reducible rfl
        simp only [Act.put, List.setIfInBounds_toArray, List.set_cons_zero, List.set_cons_succ]
        refine wpAnyH_take (i := 21) (oi := { dst := some 94, op := Op.move (Operand.tmp 16), type := 23, pos := "law.go:31", after := #[{ on := 20, ground := Ground.guard }], guard := some (20, false) }) (v := ?_) rfl (by kernel_rfl) (by kernel_rfl) (by kernel_rfl) (fun _ _ _ h => h) (Or.inl ⟨by rfl, ?_⟩) (by assumption) ?_
        rotate_left
        · intro w' hSw; obtain ⟨y0, y1, y2, y3⟩ := hSw; go_simp; try with_reducible rfl
        simp only [Act.put, List.setIfInBounds_toArray, List.set_cons_zero, List.set_cons_succ]
        refine wpAnyH_take (i := 22) (oi := { dst := some 95, op := Op.move (Operand.tmp 18), type := 23, pos := "law.go:31", after := #[{ on := 20, ground := Ground.guard }], guard := some (20, false) }) (v := ?_) rfl (by kernel_rfl) (by kernel_rfl) (by kernel_rfl) (fun _ _ _ h => h) (Or.inl ⟨by rfl, ?_⟩) (by assumption) ?_
        rotate_left
        · intro w' hSw; obtain ⟨y0, y1, y2, y3⟩ := hSw; go_simp; try with_reducible rfl
        simp only [Act.put, List.setIfInBounds_toArray, List.set_cons_zero, List.set_cons_succ]
        refine wpAnyH_ready (rs := [23]) (by kernel_rfl) (by simp) (AllReadyH.cons rfl (fun K hK => ?_) AllReadyH.nil)
        go_simp
        go_wp2_with ((go_at_call 18; (with_reducible refine (G3.out _ a5 a6 g5 g6 j5 j6).mono ?_); rintro e q3 ⟨rfl, gb3⟩))
        have z3 := z2.trans (gb3.mono z2.size)
        refine hK.out _ _ (HH.out _ z3).1 (fun hS23 => ?_)
        clear hK K
        try dsimp only at hS23
        refine wpAnyH_take (i := 24) (oi := { dst := some 97, op := Op.unOp UnOp.not 4 (Operand.tmp 96), type := 4, pos := "law.go:31", after := #[{ on := 23, ground := Ground.data }, { on := 20, ground := Ground.guard }], guard := some (20, false) }) (v := ?_) rfl (by kernel_rfl) (by kernel_rfl) (by kernel_rfl) (fun _ _ _ h => h) (Or.inl ⟨by rfl, ?_⟩) (by assumption) ?_
        rotate_left
        · intro w' hSw; obtain ⟨y0, y1, y2, y3⟩ := hSw; go_simp; try with_reducible rfl
        simp only [Act.put, List.setIfInBounds_toArray, List.set_cons_zero, List.set_cons_succ]
        refine wpAnyH_take (i := 25) (oi := { dst := some 98, op := Op.pick (Operand.tmp 93) (Operand.const (Value.bool true)) (Operand.tmp 97), type := 4, pos := "law.go:31", after := #[{ on := 20, ground := Ground.data }, { on := 24, ground := Ground.data }], guard := none }) (v := ?_) rfl (by kernel_rfl) (by kernel_rfl) (by kernel_rfl) (fun _ _ _ h => h) (Or.inl ⟨by rfl, ?_⟩) (by assumption) ?_
        rotate_left
        · intro w' hSw; obtain ⟨y0, y1, y2, y3⟩ := hSw; go_simp; try with_reducible rfl
        simp only [Act.put, List.setIfInBounds_toArray, List.set_cons_zero, List.set_cons_succ]
        refine wpAnyH_take (i := 26) (oi := { dst := some 99, op := Op.move (Operand.tmp 98), type := 4, pos := "law.go:31", after := #[{ on := 25, ground := Ground.data }, { on := 23, ground := Ground.chain }], guard := none }) (v := ?_) rfl (by kernel_rfl) (by kernel_rfl) (by kernel_rfl) (fun _ _ _ h => h) (Or.inl ⟨by rfl, ?_⟩) (by assumption) ?_
        rotate_left
        · intro w' hSw; obtain ⟨y0, y1, y2, y3⟩ := hSw; go_simp; try with_reducible rfl
        simp only [Act.put, List.setIfInBounds_toArray, List.set_cons_zero, List.set_cons_succ]
        refine wpAnyH_take (i := 27) (oi := { dst := some 100, op := Op.move (Operand.tmp 17), type := 4, pos := "law.go:31", after := #[{ on := 26, ground := Ground.guard }], guard := some (26, false) }) (v := ?_) rfl (by kernel_rfl) (by kernel_rfl) (by kernel_rfl) (fun _ _ _ h => h) (Or.inl ⟨by rfl, ?_⟩) (by assumption) ?_
        rotate_left
        · intro w' hSw; obtain ⟨y0, y1, y2, y3⟩ := hSw; go_simp; try with_reducible rfl
        simp only [Act.put, List.setIfInBounds_toArray, List.set_cons_zero, List.set_cons_succ]
        refine wpAnyH_take (i := 28) (oi := { dst := some 101, op := Op.move (Operand.tmp 19), type := 4, pos := "law.go:31", after := #[{ on := 26, ground := Ground.guard }], guard := some (26, false) }) (v := ?_) rfl (by kernel_rfl) (by kernel_rfl) (by kernel_rfl) (fun _ _ _ h => h) (Or.inl ⟨by rfl, ?_⟩) (by assumption) ?_
        rotate_left
        · intro w' hSw; obtain ⟨y0, y1, y2, y3⟩ := hSw; go_simp; try with_reducible rfl
        simp only [Act.put, List.setIfInBounds_toArray, List.set_cons_zero, List.set_cons_succ]
        refine wpAnyH_take (i := 29) (oi := { dst := some 102, op := Op.binOp BinOp.neq 4 (Operand.tmp 100) (Operand.tmp 101) 4, type := 4, pos := "law.go:31", after := #[{ on := 27, ground := Ground.data }, { on := 28, ground := Ground.data }, { on := 26, ground := Ground.guard }], guard := some (26, false) }) (v := ?_) rfl (by kernel_rfl) (by kernel_rfl) (by kernel_rfl) (fun _ _ _ h => h) (Or.inl ⟨by rfl, ?_⟩) (by assumption) ?_
        rotate_left
        · intro w' hSw; obtain ⟨y0, y1, y2, y3⟩ := hSw; go_simp; try with_reducible rfl
        simp only [Act.put, List.setIfInBounds_toArray, List.set_cons_zero, List.set_cons_succ]
        refine wpAnyH_take (i := 30) (oi := { dst := some 103, op := Op.pick (Operand.tmp 99) (Operand.const (Value.bool true)) (Operand.tmp 102), type := 4, pos := "law.go:31", after := #[{ on := 26, ground := Ground.data }, { on := 29, ground := Ground.data }], guard := none }) (v := ?_) rfl (by kernel_rfl) (by kernel_rfl) (by kernel_rfl) (fun _ _ _ h => h) (Or.inl ⟨by rfl, ?_⟩) (by assumption) ?_
        rotate_left
        · intro w' hSw; obtain ⟨y0, y1, y2, y3⟩ := hSw; go_simp; try with_reducible rfl
        simp only [Act.put, List.setIfInBounds_toArray, List.set_cons_zero, List.set_cons_succ]
        refine wpAnyH_take (i := 31) (oi := { dst := some 104, op := Op.move (Operand.tmp 103), type := 4, pos := "law.go:31", after := #[{ on := 30, ground := Ground.data }, { on := 26, ground := Ground.chain }], guard := none }) (v := ?_) rfl (by kernel_rfl) (by kernel_rfl) (by kernel_rfl) (fun _ _ _ h => h) (Or.inl ⟨by rfl, ?_⟩) (by assumption) ?_
        rotate_left
        · intro w' hSw; obtain ⟨y0, y1, y2, y3⟩ := hSw; go_simp; try with_reducible rfl
        simp only [Act.put, List.setIfInBounds_toArray, List.set_cons_zero, List.set_cons_succ]
        refine wpAnyH_take (i := 32) (oi := { dst := some 105, op := Op.load 25 (Operand.tmp 4), type := 25, pos := "law.go:31", after := #[{ on := 31, ground := Ground.guard }], guard := some (31, false) }) (v := ?_) rfl (by kernel_rfl) (by kernel_rfl) (by kernel_rfl) (fun _ _ _ h => h) (Or.inl ⟨by rfl, ?_⟩) (by assumption) ?_
        rotate_left
        · intro w' hSw; obtain ⟨y0, y1, y2, y3⟩ := hSw; go_simp; try with_reducible rfl
        simp only [Act.put, List.setIfInBounds_toArray, List.set_cons_zero, List.set_cons_succ]
        refine wpAnyH_take (i := 34) (oi := { dst := some 107, op := Op.load 25 (Operand.tmp 4), type := 25, pos := "law.go:31", after := #[{ on := 31, ground := Ground.guard }], guard := some (31, false) }) (v := ?_) rfl (by kernel_rfl) (by kernel_rfl) (by kernel_rfl) (fun _ _ _ h => h) (Or.inl ⟨by rfl, ?_⟩) (by assumption) ?_
        rotate_left
        · intro w' hSw; obtain ⟨y0, y1, y2, y3⟩ := hSw; go_simp; try with_reducible rfl
        simp only [Act.put, List.setIfInBounds_toArray, List.set_cons_zero, List.set_cons_succ]
        refine wpAnyH_ready (rs := [33]) (by kernel_rfl) (by simp) (AllReadyH.cons rfl (fun K hK => ?_) AllReadyH.nil)
        go_simp
        go_wp2_with ((go_at_call 19; (with_reducible refine (KS.out _ z3).mono ?_); rintro e q4 ⟨rfl, gb4⟩))
        have z4 := z3.trans (gb4.mono z3.size)
        refine hK.out _ _ (HH.out _ z4).1 (fun hS33 => ?_)
        clear hK K
        try dsimp only at hS33
        refine wpAnyH_ready (rs := [35]) (by kernel_rfl) (by simp) (AllReadyH.cons rfl (fun K hK => ?_) AllReadyH.nil)
        go_simp
        go_wp2_with ((go_at_call 20; (with_reducible refine (KS2.out _ z4).mono ?_); rintro e q5 ⟨rfl, gb5⟩))
        have z5 := z4.trans (gb5.mono z4.size)
        refine hK.out _ _ (HH.out _ z5).1 (fun hS35 => ?_)
        clear hK K
        try dsimp only at hS35
        refine wpAnyH_take (i := 36) (oi := { dst := some 109, op := Op.binOp BinOp.neq 4 (Operand.tmp 106) (Operand.tmp 108) 4, type := 4, pos := "law.go:31", after := #[{ on := 33, ground := Ground.data }, { on := 35, ground := Ground.data }, { on := 31, ground := Ground.guard }], guard := some (31, false) }) (v := ?_) rfl (by kernel_rfl) (by kernel_rfl) (by kernel_rfl) (fun _ _ _ h => h) (Or.inl ⟨by rfl, ?_⟩) (by assumption) ?_
        rotate_left
        · intro w' hSw; obtain ⟨y0, y1, y2, y3⟩ := hSw; go_simp; try with_reducible rfl
        simp only [Act.put, List.setIfInBounds_toArray, List.set_cons_zero, List.set_cons_succ]
        refine wpAnyH_take (i := 37) (oi := { dst := some 110, op := Op.pick (Operand.tmp 104) (Operand.const (Value.bool true)) (Operand.tmp 109), type := 4, pos := "law.go:31", after := #[{ on := 31, ground := Ground.data }, { on := 36, ground := Ground.data }], guard := none }) (v := ?_) rfl (by kernel_rfl) (by kernel_rfl) (by kernel_rfl) (fun _ _ _ h => h) (Or.inl ⟨by rfl, ?_⟩) (by assumption) ?_
        rotate_left
        · intro w' hSw; obtain ⟨y0, y1, y2, y3⟩ := hSw; go_simp; try with_reducible rfl
        simp only [Act.put, List.setIfInBounds_toArray, List.set_cons_zero, List.set_cons_succ]
        refine wpAnyH_done (by kernel_rfl) ?_ _
        have x7 := z5
        clear j1 j2 j3 j4 j5 j6 h1 h2 h3 h4 h5 h6 z0 z1 z2 z3 z4 z5
        go_wp2_with fail
        refine (KB.out _ x7).mono ?_
        rintro e v8 ⟨m1, B1, r1, rfl, _, _, sd1, _, ct1, ls1, hb8⟩
        have x8 := x7.trans (hb8.mono x7.size)
        have hfew1 := ct1.few ls1
        rw [pl_length, pl_length, ← HK.out] at hfew1
        have hsh1 := ct_short ct1
        have KRT : Hid (∀ W, Below v8.heap.size v8 W → Calls Try.prog 26 #[.slice B1 m1.length r1] W fun e w' => ∃ m A' c', e = .returned (.slice A' m.length c') ∧ Sd w' A' m ∧ pl m = rowsC (pl m1) ∧ Below W.heap.size W w') := Lib.hid fun W hW => by
          have h := DRows_any B1 r1 m1 W (sd1.over hW) (by have := HK60.out; omega)
          refine h.mono ?_
          rintro e w' ⟨m, A', c', rfl, _, _, h1, _, h2, h3⟩
          exact ⟨m, A', c', rfl, h1, h2, h3⟩
        have KRT2 : Hid (∀ W, Below v8.heap.size v8 W → Calls Try.prog 27 #[.slice B1 m1.length r1] W fun e w' => ∃ m A' c', e = .returned (.slice A' m.length c') ∧ Sd w' A' m ∧ pl m = rowsC (pl m1) ∧ Below W.heap.size W w') := Lib.hid fun W hW => by
          have h := rDRows_any B1 r1 m1 W (sd1.over hW) (by have := HK60.out; omega) (fun m hm => by have := hsh1 m.b (List.mem_map.2 ⟨m, hm, rfl⟩); omega)
          refine h.mono ?_
          rintro e w' ⟨m, A', c', rfl, _, h1, h2, h3⟩
          exact ⟨m, A', c', rfl, h1, h2, h3⟩
        have KRS := Lib.hid (rowsC_short (t := pl m1) (by rw [pl_length]; have := HK60.out; omega))
        have HCT1 := Lib.hid (And.intro ct1 ls1)
        have HSD1 := Lib.hid sd1
        have HSH1 : Hid (m1.length ≤ 1048576 ∧ ∀ m ∈ m1, m.b.u.length ≤ 1000) := Lib.hid ⟨by have := HK60.out; omega, fun m hm => hsh1 m.b (List.mem_map.2 ⟨m, hm, rfl⟩)⟩
        clear ct1 ls1 hfew1 hsh1 sd1
        obtain ⟨M1, hM1⟩ : ∃ M1, m1.length = M1 := ⟨_, rfl⟩
        rw [hM1] at KRT KRT2 ⊢
        have HM1 := Lib.hid hM1
        clear hM1
        go_wp2_with fail
        refine (KC.out _ x8).mono ?_
        rintro e v9 ⟨rfl, hb9⟩
        have x9 := x8.trans (hb9.mono x8.size)
        have y9 := hb9
        go_wp2_with fail
        refine (KC2.out _ x9).mono ?_
        rintro e v10 ⟨rfl, hb10⟩
        have x10 := x9.trans (hb10.mono x9.size)
        have y10 := y9.trans (hb10.mono y9.size)
        go_wp2_with fail
        refine (KB2.out _ x10).mono ?_
        rintro e v11 ⟨m2, B2, r2, rfl, _, _, sd2, _, ct2, ls2, hb11⟩
        have x11 := x10.trans (hb11.mono x10.size)
        have y11 := y10.trans (hb11.mono y10.size)
        have em : pl m1 = pl m2 := HCT1.out.1.one ct2 fun n v => by rw [HCT1.out.2, ls2]
        have KE := Lib.hid (dSame_yes (c1 := r1) (c2 := r2) (HSD1.out.over y11) sd2 em HSH1.out.1 HSH1.out.2)
        rw [HM1.out] at KE
        clear sd2 ct2 ls2 em
        go_wp2_with fail
        refine KE.out.mono ?_
        rintro e v12 ⟨rfl, hb12⟩
        have x12 := x11.trans (hb12.mono x11.size)
        have y12 := y11.trans (hb12.mono y11.size)
        clear KE
        go_wp2_with fail
        refine (KRT.out _ y12).mono ?_
        rintro e v13 ⟨m3, B3, r3, rfl, sd3, ep3, hb13⟩
        have x13 := x12.trans (hb13.mono x12.size)
        have y13 := y12.trans (hb13.mono y12.size)
        go_wp2_with fail
        refine (KRT2.out _ y13).mono ?_
        rintro e v14 ⟨m4, B4, r4, rfl, sd4, ep4, hb14⟩
        have x14 := x13.trans (hb14.mono x13.size)
        have hl3 : m3.length ≤ 1048576 ∧ ∀ m ∈ m3, m.b.u.length ≤ 1000 := by
          refine ⟨by rw [← pl_length, ep3]; exact KRS.out.1, fun m hm => KRS.out.2 m.b ?_⟩
          rw [← ep3]
          exact List.mem_map.2 ⟨m, hm, rfl⟩
        have KE := Lib.hid (dSame_yes (c1 := r3) (c2 := r4) (sd3.over hb14) sd4 (ep3.trans ep4.symm) hl3.1 hl3.2)
        clear sd3 sd4 ep3 ep4 hl3
        go_wp2_with fail
        refine KE.out.mono ?_
        rintro e v15 ⟨rfl, hb15⟩
        have x15 := x14.trans (hb15.mono x14.size)
        clear KE
        go_wp2_with fail
        refine (KR.out _ x15).mono ?_
        rintro e v16 ⟨m5, B5, r5, rfl, sd5, ep5, hb16⟩
        have x16 := x15.trans (hb16.mono x15.size)
        go_wp2_with fail
        refine (KR2.out _ x16).mono ?_
        rintro e v17 ⟨m6, B6, r6, rfl, sd6, ep6, hb17⟩
        have x17 := x16.trans (hb17.mono x16.size)
        have hl5 : m5.length ≤ 1048576 ∧ ∀ m ∈ m5, m.b.u.length ≤ 1000 := by
          refine ⟨by rw [← pl_length, ep5]; exact KRL.out.1, fun m hm => KRL.out.2 m.b ?_⟩
          rw [← ep5]
          exact List.mem_map.2 ⟨m, hm, rfl⟩
        have KE := Lib.hid (dSame_yes (c1 := r5) (c2 := r6) (sd5.over hb17) sd6 (ep5.trans ep6.symm) hl5.1 hl5.2)
        clear sd5 sd6 ep5 ep6 hl5
        go_wp2_with fail
        refine KE.out.mono ?_
        rintro e v18 ⟨rfl, hb18⟩
        have x18 := x17.trans (hb18.mono x17.size)
        clear KE
        go_wp2
        go_ret
        exact ⟨rfl, HL.out _ x18⟩
end Go.Proofs.Ytkkochjdimegpaa
