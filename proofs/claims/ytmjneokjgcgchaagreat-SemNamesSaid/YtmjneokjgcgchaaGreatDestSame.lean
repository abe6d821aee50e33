/-
  The document's own 'the same', of ints and of entries; Few and Short.
-/
import Derived.Test.YtmjneokjgcgchaaGreatPart4
import Derived.Deep.RegionWith
namespace Go.Proofs.YtmjneokjgcgchaaGreat
open Go.RowKit
attribute [local go_sem ↓] Go.wp_at_zero Go.wp_at_succ

theorem drewN_cellD (w : World) (n : Nat) (a : Addr) : (w.drewN n).cell? a = w.cell? a := rfl
set_option maxRecDepth 100000 in
set_option maxHeartbeats 4000000 in
/-- Of any ints. -/
theorem iSame_any (A B : Option Addr) (c c' n n' : Nat) (l m : List Int) (w : World) (hl : n = l.length) (hm : n' = m.length) (h64 : n ≤ 9223372036854775807) (h64' : n' ≤ 9223372036854775807) (h1 : Si w w.heap.size A l) (h2 : Si w w.heap.size B m) :
    Calls Tryz.prog 31 #[.slice A n c, .slice B n' c'] w fun e w' => e = .returned (.bool (decide (l = m))) ∧ ∃ k, w' = w.drewN k := by
  have HL := Lib.hid hl
  have HM := Lib.hid hm
  have H1 := Lib.hid h1
  have H2 := Lib.hid h2
  obtain ⟨r, hr⟩ : ∃ r, r = decide (l = m) := ⟨_, rfl⟩
  have HR := Lib.hid hr
  rw [← hr]
  clear hl hm h1 h2 hr
  by_cases hnn : n = n'
  · subst hnn
    go_enter Tryz.func31, Tryz.ntmps31
    go_wp2
    go_loopw [5] (fun i wr => ∃ k q : Nat, k ≤ n ∧ i = .int .i64 (k : Int) ∧ Hid (l.take k = m.take k) ∧ Hid (wr = w.drewN q)) (fun i _ => n - (intOf i).toNat)
    case atStart => exact ⟨0, 0, Nat.zero_le _, rfl, Lib.hid (by simp), Lib.hid rfl⟩
    case round =>
      obtain ⟨k, q, hk, rfl, HK, HW⟩ := hrel
      by_cases hlt : k < n
      · have t0 : decide (k < n) = true := decide_eq_true hlt
        obtain ⟨b1, o1, rfl, hb1, hc1⟩ := H1.out (by have := HL.out; omega)
        obtain ⟨b2, o2, rfl, hb2, hc2⟩ := H2.out (by have := HM.out; omega)
        have x1 := List.getElem?_eq_getElem (l := l) (i := k) (by have := HL.out; omega)
        have x2 := List.getElem?_eq_getElem (l := m) (i := k) (by have := HM.out; omega)
        have e1 := hc1 k (by have := HL.out; omega)
        have e2 := hc2 k (by have := HM.out; omega)
        rw [x1] at e1
        rw [x2] at e2
        generalize l[k]'(by have := HL.out; omega) = x at *
        generalize m[k]'(by have := HM.out; omega) = y at *
        have g1 : wr.cell? ⟨b1, o1 + k, none⟩ = some (.int .i64 x) := by rw [HW.out, drewN_cellD]; exact e1
        have g2 : wr.cell? ⟨b2, o2 + k, none⟩ = some (.int .i64 y) := by rw [HW.out, drewN_cellD]; exact e2
        have X1 := Lib.hid x1
        have X2 := Lib.hid x2
        clear x1 x2 e1 e2 hc1 hc2 H1 H2
        have f1 : (0 : Int) ≤ (k : Int) := by omega
        have f2 : (k : Int) < (n : Int) := by omega
        by_cases hxy : x = y
        · have d1 : (x != y) = false := by simp [hxy]
          have K2 := Lib.hid (eq_take X1.out X2.out HK.out hxy)
          clear hxy
          go_wp2
          go_quiet (fail)
          go_wp2
          exact ⟨⟨k + 1, _, by omega, by first | rfl | go_num, K2, Lib.hid (by rw [HW.out]; exact World.drewN_drewN _ _ _)⟩, by simp [intOf]; omega⟩
        · have d1 : (x != y) = true := by simp [hxy]
          have e : r = false := by
            rw [HR.out]
            refine decide_eq_false fun e => hxy ?_
            have a := X1.out
            rw [e, X2.out] at a
            injection a with a
            exact a.symm
          subst e
          clear hxy
          go_wp2
          go_quiet (fail)
          go_wp2
          go_ret
          exact ⟨rfl, _, by rw [HW.out]; exact World.drewN_drewN _ _ _⟩
      · have t0 : decide (k < n) = false := decide_eq_false hlt
        obtain rfl : k = n := by omega
        have e : r = true := by
          rw [HR.out]
          refine decide_eq_true ?_
          have := HK.out
          rwa [List.take_of_length_le (by have := HL.out; omega), List.take_of_length_le (by have := HM.out; omega)] at this
        subst e
        go_wp2
        go_ret
        exact ⟨rfl, q, HW.out⟩
  · have d0 : ((n : Int) != (n' : Int)) = true := by simp; omega
    have e : r = false := by
      rw [HR.out]
      refine decide_eq_false fun e => hnn ?_
      rw [HL.out, HM.out, e]
    subst e
    clear hnn
    go_enter Tryz.func31, Tryz.ntmps31
    go_wp2
    go_ret
    exact ⟨rfl, 0, rfl⟩
set_option maxRecDepth 100000 in
set_option maxHeartbeats 8000000 in
/-- Of entries that are the same. -/
theorem dSame_big {w : World} {A1 A2 : Option Addr} {c1 c2 : Nat} {d1 d2 : List Me} (ha : Sd w A1 d1) (hb : Sd w A2 d2) (he : pl d1 = pl d2) (hl : d1.length ≤ 1048576) (h64 : ∀ m ∈ d1, m.b.u.length ≤ 9223372036854775807) :
    Calls Tryz.prog 35 #[.slice A1 d1.length c1, .slice A2 d2.length c2] w fun r w' => r = .returned (.bool true) ∧ Below w.heap.size w w' := by
  have HA := Lib.hid ha
  have HB := Lib.hid hb
  have HE := Lib.hid he
  have H64 := Lib.hid h64
  have hl2 : d2.length = d1.length := by rw [← pl_length d2, ← he, pl_length]
  rw [hl2]
  have HL2 := Lib.hid hl2
  clear ha hb he hl2 h64
  generalize hn : d1.length = n at *
  have HN := Lib.hid hn
  clear hn
  go_enter Tryz.func35, Tryz.ntmps35
  go_wp2
  go_loopw [5] (fun i wr => ∃ k m : Nat, k ≤ n ∧ i = .int .i64 (k : Int) ∧ Hid (wr = w.drewN m)) (fun i _ => n - (intOf i).toNat)
  case atStart => exact ⟨0, 0, Nat.zero_le _, rfl, Lib.hid rfl⟩
  case round =>
    obtain ⟨k, m, hk, rfl, HW⟩ := hrel
    by_cases hkl : k < n
    · have t0 : decide (k < n) = true := by simp; omega
      have hx1 := List.getElem?_eq_getElem (l := d1) (i := k) (by have := HN.out; omega)
      have hx2 := List.getElem?_eq_getElem (l := d2) (i := k) (by have := HL2.out; have := HN.out; omega)
      generalize d1[k]'(by have := HN.out; omega) = x at *
      generalize d2[k]'(by have := HL2.out; have := HN.out; omega) = y at *
      have exy : x.b = y.b := by
        have h1 := pl_get hx1
        rw [HE.out, pl_get hx2] at h1
        injection h1 with h1
        exact h1.symm
      obtain ⟨xb, xa, xc⟩ := x
      obtain ⟨yb, ya, yc⟩ := y
      dsimp only at exy
      subst exy
      obtain ⟨b1, o1, e1, _, q1⟩ := HA.out.rd.at hx1
      obtain ⟨b2, o2, e2, _, q2⟩ := HB.out.rd.at hx2
      subst e1 e2
      obtain ⟨y0, y1, y2, y3⟩ : F4 wr b1 (o1 + k * 4) ⟨xb, xa, xc⟩ := q1.keep fun i => by rw [HW.out, drewN_cellD]
      obtain ⟨y4, y5, y6, y7⟩ : F4 wr b2 (o2 + k * 4) ⟨xb, ya, yc⟩ := q2.keep fun i => by rw [HW.out, drewN_cellD]
      have u1 := (HA.out.ul _ (List.mem_of_getElem? hx1)).si
      have u2 := (HB.out.ul _ (List.mem_of_getElem? hx2)).si
      have hu := H64.out _ (List.mem_of_getElem? hx1)
      have HC : Hid (∀ m', Calls Tryz.prog 31 #[.slice xa xb.u.length xc, .slice ya xb.u.length yc] (wr.drewN m') fun r w' => r = .returned (.bool true) ∧ ∃ n, w' = (wr.drewN m').drewN n) := Lib.hid fun m' => by
        have hk : Below w.heap.size w (wr.drewN m') := by rw [HW.out]; exact below_drewN (below_drewN (Below.refl _ _) _) _
        have := iSame_any xa ya xc yc xb.u.length xb.u.length xb.u xb.u (wr.drewN m') rfl rfl (by dsimp only at hu; omega) (by dsimp only at hu; omega) (u1.over hk) (u2.over hk)
        rw [decide_eq_true rfl] at this
        exact this
      dsimp only at y0 y1 y2 y3 y4 y5 y6 y7
      clear q1 q2 hx1 hx2 u1 u2 hu
      obtain ⟨nn, l1, h1, uu⟩ := xb
      dsimp only at y0 y1 y2 y3 y4 y5 y6 y7 HC
      go_wp2
      go_quiet ((go_at_call 31; exact Calls.quiet_of (HC.out _)))
      go_wp2
      refine ⟨⟨k + 1, _, by omega, by go_num, Lib.hid (by rw [HW.out]; exact World.drewN_drewN _ _ _)⟩, by simp [intOf]; omega⟩
    · have t0 : decide (k < n) = false := by simp; omega
      go_wp2
      go_ret
      exact ⟨rfl, by rw [HW.out]; exact below_drewN (Below.refl _ _) _⟩
theorem dSame_yes {w : World} {A1 A2 : Option Addr} {c1 c2 : Nat} {d1 d2 : List Me} (ha : Sd w A1 d1) (hb : Sd w A2 d2) (he : pl d1 = pl d2) (hl : d1.length ≤ 1048576) (h64 : ∀ m ∈ d1, m.b.u.length ≤ 1000) :
    Calls Tryz.prog 35 #[.slice A1 d1.length c1, .slice A2 d2.length c2] w fun r w' => r = .returned (.bool true) ∧ Below w.heap.size w w' := dSame_big ha hb he hl fun m hm => by have := h64 m hm; omega
/-- Lists that are few, and short. -/
def fewB (d : List Bp) : Prop := (∀ b ∈ d.take 100, b.u.length ≤ 70) ∧ d.length ≤ 60
instance (d : List Bp) : Decidable (fewB d) := inferInstanceAs (Decidable (_ ∧ _))
theorem fewB.all {d : List Bp} (h : fewB d) : ∀ b ∈ d, b.u.length ≤ 70 := fun b hb => h.1 b (by rw [List.take_of_length_le (by have := h.2; omega)]; exact hb)
set_option maxRecDepth 100000 in
set_option maxHeartbeats 4000000 in
theorem Few_any (A : Option Addr) (c : Nat) (d : List Me) (w : World) (hA : Sd w A d) (hl : d.length ≤ 9223372036854775807) (hu : ∀ m ∈ d, m.b.u.length ≤ 9223372036854775807) :
    Calls Tryz.prog 32 #[.slice A d.length c] w fun e w' => e = .returned (.bool (decide (fewB (pl d)))) ∧ Below w.heap.size w w' := by
  have HA := Lib.hid hA
  have HU := Lib.hid hu
  obtain ⟨n, hn⟩ : ∃ n, n = d.length := ⟨_, rfl⟩
  have HN := Lib.hid hn
  obtain ⟨r, hr⟩ : ∃ r, r = decide (fewB (pl d)) := ⟨_, rfl⟩
  have HR := Lib.hid hr
  rw [← hn] at hl ⊢
  rw [← hr]
  clear hn hr hA hu
  go_enter Tryz.func32, Tryz.ntmps32
  go_wp2
  go_loopw [3] (fun i wr => ∃ k : Nat, k ≤ n ∧ k ≤ 100 ∧ i = .int .i64 (k : Int) ∧ Hid (∀ b ∈ (pl d).take k, b.u.length ≤ 70) ∧ wr = w) (fun i _ => 100 - (intOf i).toNat)
  case atStart => exact ⟨0, Nat.zero_le _, by omega, rfl, Lib.hid (by simp), rfl⟩
  case round =>
    obtain ⟨k, hk, hk100, rfl, HK, hwr⟩ := hrel
    subst hwr
    have fin : ∀ j, j = k → (j = n ∨ j = 100) → r = decide (n ≤ 60) := fun j hj hor => by
      rw [HR.out, Bool.eq_iff_iff, decide_eq_true_eq, decide_eq_true_eq]
      constructor
      · intro h
        have := h.2
        rw [pl_length, ← HN.out] at this
        exact this
      · intro h
        refine ⟨fun b hb => HK.out b ?_, by rw [pl_length, ← HN.out]; exact h⟩
        have hkn : k = n := by omega
        rw [List.take_of_length_le (by rw [pl_length, ← HN.out]; omega)] at hb
        rw [List.take_of_length_le (by rw [pl_length, ← HN.out]; omega)]
        exact hb
    have FIN := Lib.hid fin
    clear fin
    by_cases hlt : k < n
    · have t0 : decide (k < n) = true := decide_eq_true hlt
      by_cases h100 : k < 100
      · have t1 : decide ((k : Int) < 100) = true := decide_eq_true (by omega)
        have hx := List.getElem?_eq_getElem (l := d) (i := k) (by have := HN.out; omega)
        generalize d[k]'(by have := HN.out; omega) = x at *
        obtain ⟨b, o, rfl, hb, ⟨y0, y1, y2, y3⟩⟩ := HA.out.rd.at hx
        have hxu := HU.out x (List.mem_of_getElem? hx)
        have HX := Lib.hid hx
        have f1 : (0 : Int) ≤ (k : Int) := by omega
        have f2 : (k : Int) < (n : Int) := by omega
        clear hx
        by_cases h70 : 70 < x.b.u.length
        · have t2 : decide ((70 : Int) < (x.b.u.length : Int)) = true := decide_eq_true (by omega)
          have e : r = false := by
            rw [HR.out]
            refine decide_eq_false fun h => ?_
            have := h.all x.b (List.mem_of_getElem? (pl_get HX.out))
            omega
          subst e
          clear h70
          go_wp2
          go_ret
          exact ⟨rfl, Below.refl _ _⟩
        · have t2 : decide ((70 : Int) < (x.b.u.length : Int)) = false := decide_eq_false (by omega)
          have H70 := Lib.hid h70
          clear h70
          go_wp2
          refine ⟨⟨k + 1, by omega, by omega, by first | rfl | go_num, Lib.hid fun b hb => ?_, trivial⟩, by simp [intOf]; omega⟩
          rw [List.take_add_one, pl_get HX.out] at hb
          rcases List.mem_append.1 hb with hb | hb
          · exact HK.out b hb
          · simp at hb
            rw [hb]
            have := H70.out
            omega
      · have t1 : decide ((k : Int) < 100) = false := decide_eq_false (by omega)
        have e := FIN.out k rfl (by omega)
        have d60 : decide ((n : Int) ≤ 60) = decide (n ≤ 60) := by rw [Bool.eq_iff_iff]; simp; omega
        have E := Lib.hid (e.trans d60.symm)
        clear e d60
        go_wp2
        go_ret
        exact ⟨by rw [E.out]; rfl, Below.refl _ _⟩
    · have t0 : decide (k < n) = false := decide_eq_false hlt
      have e := FIN.out k rfl (by omega)
      have d60 : decide ((n : Int) ≤ 60) = decide (n ≤ 60) := by rw [Bool.eq_iff_iff]; simp; omega
      have E := Lib.hid (e.trans d60.symm)
      clear e d60
      go_wp2
      go_ret
      exact ⟨by rw [E.out]; rfl, Below.refl _ _⟩
end Go.Proofs.YtmjneokjgcgchaaGreat
