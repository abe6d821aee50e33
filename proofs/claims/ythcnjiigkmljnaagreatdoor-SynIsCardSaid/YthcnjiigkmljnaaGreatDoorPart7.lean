/-
  Parts of this proof, one behind the other: SynRef4, SynRef5, RefTok1, RefUn, RefClass, RefWord.
-/
import Derived.Test.YthcnjiigkmljnaaGreatDoorPart6
import Derived.Test.YthcnjiigkmljnaaGreatDoorPart1
import Derived.Test.YthcnjiigkmljnaaGreatDoorPart3
import Derived.Test.YthcnjiigkmljnaaGreatDoorPart5
import Derived.Test.YthcnjiigkmljnaaGreatDoorPart2
import Derived.Deep.RegionHeldLaw
import Derived.Deep.AppendLies
import Derived.Test.YthcnjiigkmljnaaGreatDoorPart4
/-
  The document's own parser: below, pair.
-/
namespace Go.Proofs.YthcnjiigkmljnaaGreatDoor
open Go.RowKit

set_option maxRecDepth 100000 in
set_option maxHeartbeats 4000000 in
theorem pbelow_any (a b : Cd) (w : World) :
    Calls Tryz.prog 100 #[.agg #[.int .i64 a.n, .int .i64 a.v], .agg #[.int .i64 b.n, .int .i64 b.v]] w fun r w' => r = .returned (.bool (lowB a b)) ∧ Below w.heap.size w w' := by
  obtain ⟨an, av⟩ := a
  obtain ⟨bn, bv⟩ := b
  simp only
  have hxl := codeL_le an av
  have hyl := codeL_le bn bv
  have hlow : lowB ⟨an, av⟩ ⟨bn, bv⟩ = lowL (codeL an av) (codeL bn bv) := rfl
  rw [hlow]
  have hA : ∀ w, Calls Tryz.prog 118 #[.agg #[.int .i64 an, .int .i64 av]] w (RetSl w (codeL an av)) := fun w => rBytes_any an av w
  have hB : ∀ w, Calls Tryz.prog 118 #[.agg #[.int .i64 bn, .int .i64 bv]] w (RetSl w (codeL bn bv)) := fun w => rBytes_any bn bv w
  have HA := Lib.hid hA
  have HB := Lib.hid hB
  clear hA hB hlow
  generalize codeL an av = x at *
  generalize codeL bn bv = y at *
  have ba := (((Below.refl w.heap.size w).alloc (Nat.le_refl _) (.cells #[.int .i64 an, .int .i64 av] 47)).alloc (by simp) (.cells #[.int .i64 bn, .int .i64 bv] 47))
  go_enter Tryz.func100, Tryz.ntmps100
  go_wp2_with fail
  refine (HA.out _).mono ?_
  rintro r w1 ⟨A1, c1, rfl, hc1, hs1, hb1⟩
  have k0 : w1.cell? ⟨w.heap.size + 1, 0, none⟩ = some (.int .i64 bn) := (hb1.cell (p := ⟨w.heap.size + 1, 0, none⟩) (by simp)).trans (by simp)
  have k1 : w1.cell? ⟨w.heap.size + 1, 1, none⟩ = some (.int .i64 bv) := (hb1.cell (p := ⟨w.heap.size + 1, 1, none⟩) (by simp)).trans (by simp)
  have bw1 := ba.trans (hb1.mono ba.size)
  go_wp2_with fail
  refine (HB.out _).mono ?_
  rintro r w2 ⟨A2, c2, rfl, hc2, hs2, hb2⟩
  have hs1' := hs1.over hb2
  have bw2 := bw1.trans (hb2.mono bw1.size)
  clear hs1 hb1 hb2 k0 k1 bw1 ba HA HB
  have H0 : Hid (lowL (x.drop 0) (y.drop 0) = lowL x y) := Lib.hid rfl
  go_wp2
  go_loopw [7] (fun i wr => ∃ k : Nat, k ≤ 4 ∧ i = .int .i64 (k : Int) ∧ Hid (lowL (x.drop k) (y.drop k) = lowL x y) ∧ Below w2.heap.size w2 wr) (fun i _ => 5 - (intOf i).toNat)
  case atStart => exact ⟨0, by omega, rfl, H0, Below.refl _ _⟩
  case round =>
    obtain ⟨k, hk, rfl, HL, hbel⟩ := hrel
    by_cases hx : k < x.length
    · have t1 : decide (k < x.length) = true := by simp; omega
      by_cases hy : k < y.length
      · have t2 : decide (k < y.length) = true := by simp; omega
        obtain ⟨b1, o1, rfl, hbl1, hcl1⟩ := hs1' (by omega)
        obtain ⟨b2, o2, rfl, hbl2, hcl2⟩ := hs2 (by omega)
        obtain ⟨p, hp⟩ : ∃ p, p = x[k]?.getD 0 := ⟨_, rfl⟩
        obtain ⟨q, hq⟩ : ∃ q, q = y[k]?.getD 0 := ⟨_, rfl⟩
        have g1 : wr.cell? ⟨b1, o1 + k, none⟩ = some (.int .u8 (p.toNat : Int)) := by rw [hp]; exact (hbel.cell (p := ⟨b1, o1 + k, none⟩) hbl1).trans (hcl1 k hx)
        have g2 : wr.cell? ⟨b2, o2 + k, none⟩ = some (.int .u8 (q.toNat : Int)) := by rw [hq]; exact (hbel.cell (p := ⟨b2, o2 + k, none⟩) hbl2).trans (hcl2 k hy)
        have hl := lowL_at hx hy hp hq
        have hp1 := p.toNat_lt
        have hq1 := q.toNat_lt
        rw [HL.out] at hl
        clear hcl1 hcl2 hp hq
        by_cases hpq : p.toNat < q.toNat
        · have HV : Hid (lowL x y = true) := Lib.hid (by rw [hl]; simp [hpq])
          have t3 : decide (p.toNat < q.toNat) = true := by simp; omega
          have t3' : decide ((p.toNat : Int) < (q.toNat : Int)) = true := by simp; omega
          clear hl
          go_wp2
          go_quiet (fail)
          go_wp2
          go_ret
          rw [HV.out]
          exact ⟨rfl, bw2.trans ((below_drewN hbel _).mono bw2.size)⟩
        · have HL2 : Hid (lowL (x.drop (k + 1)) (y.drop (k + 1)) = lowL x y) := Lib.hid (by rw [hl]; simp [hpq])
          have t3 : decide (p.toNat < q.toNat) = false := by simp; omega
          have t3' : decide ((p.toNat : Int) < (q.toNat : Int)) = false := by simp; omega
          clear hl
          go_wp2
          go_quiet (fail)
          go_wp2
          go_roundw
          case rel => exact ⟨k + 1, by omega, by go_num, HL2, below_drewN hbel _⟩
          case measure => simp [intOf]; omega
      · have t2 : decide (k < y.length) = false := by simp; omega
        have HV : Hid (lowL x y = false) := Lib.hid (by rw [← HL.out]; exact lowL_end (.inr (by omega)))
        go_wp2
        go_ret
        rw [HV.out]
        exact ⟨rfl, bw2.trans (hbel.mono bw2.size)⟩
    · have t1 : decide (k < x.length) = false := by simp; omega
      have HV : Hid (lowL x y = false) := Lib.hid (by rw [← HL.out]; exact lowL_end (.inl (by omega)))
      go_wp2
      go_ret
      rw [HV.out]
      exact ⟨rfl, bw2.trans (hbel.mono bw2.size)⟩
end Go.Proofs.YthcnjiigkmljnaaGreatDoor
/-
  The document's own parser: pair.
-/
namespace Go.Proofs.YthcnjiigkmljnaaGreatDoor
open Go.RowKit

set_option maxRecDepth 100000 in
set_option maxHeartbeats 8000000 in
theorem ppair_any {w : World} {P : Nat} {A : Option Addr} {c : Nat} {L : List Tk} {i : Nat} {en a e : Int} (h : Ps w P A c L i en a e) (hi : i ≤ L.length) (hL : Sm L) (rect : Bool) :
    Calls Tryz.prog 74 #[.pointer (some ⟨P, 0, none⟩), .bool rect] w fun r w' => ∃ (x : Cd × Cd) (i' : Nat) (a' e' : Int), r = .returned (.tuple #[.agg #[.int .i64 x.1.n, .int .i64 x.1.v], .agg #[.int .i64 x.2.n, .int .i64 x.2.v]]) ∧ (Bc x.1 ∧ Bc x.2) ∧ Ps w' P A c L i' en a' e' ∧ i' ≤ L.length ∧ Fr w w' P ∧ Oc (pairT L en rect i) (fun _ => True) i a e x i' a' e' := by
  have hlt := h.lt
  have hT := pcode_any ((h.alloc (.cells #[.int .i64 0, .int .i64 0] 47)).alloc (.cells #[.int .i64 0, .int .i64 0] 47)) hi hL
  have HT := Lib.hid hT
  clear hT h
  go_enter Tryz.func74, Tryz.ntmps74
  go_wp2_with fail
  refine HT.out.mono ?_
  rintro r w1 ⟨x, i1, a1, e1, rfl, hp1, hi1, hf1, hoc1⟩
  obtain ⟨⟨ln, lv⟩, lat⟩ := x
  simp only
  have hlt1 := hp1.lt
  have hT2 := pcode_any (hp1.alloc (.cells #[.int .i64 ln, .int .i64 lv] 47)) hi1 hL
  have HT2 := Lib.hid hT2
  clear hT2 HT
  go_wp2_with fail
  refine HT2.out.mono ?_
  rintro r w2 ⟨y, i2, a2, e2, rfl, hp2, hi2, hf2, hoc2⟩
  obtain ⟨⟨hn, hv⟩, hat⟩ := y
  simp only
  clear HT2
  have hlt2 := hp2.lt
  have hoc := pair_oc (rect := rect) hoc1 hoc2
  have hbc := And.intro (oc_bc hoc1) (oc_bc hoc2)
  simp only at hoc hbc
  have z1 : w.heap.size + 2 ≤ w1.heap.size := by have := hf1.size; simp at this; omega
  have z2 : w1.heap.size + 1 ≤ w2.heap.size := by have := hf2.size; simp at this; omega
  have hfa : Fr ((w.alloc (.cells #[.int .i64 0, .int .i64 0] 47)).alloc (.cells #[.int .i64 0, .int .i64 0] 47)) w2 P := (hf1.alloc (.cells #[.int .i64 ln, .int .i64 lv] 47)).trans hf2
  have hf2a : Fr w w2 P := (((Fr.refl w P).alloc (.cells #[.int .i64 0, .int .i64 0] 47)).alloc (.cells #[.int .i64 0, .int .i64 0] 47)).trans hfa
  have ne0 : w.heap.size ≠ P := by omega
  have ne1 : w.heap.size + 1 ≠ P := by omega
  have ne6 : w1.heap.size ≠ P := by omega
  have ne8 : w2.heap.size ≠ P := by omega
  have q0a : Bk w2 w.heap.size (.int .i64 0) (.int .i64 0) := ((Bk.new w _ _ 47).more (.cells #[.int .i64 0, .int .i64 0] 47)).fr ne0 hfa
  have q1a : Bk w2 (w.heap.size + 1) (.int .i64 0) (.int .i64 0) := by
    have hk := Bk.new (w.alloc (.cells #[.int .i64 0, .int .i64 0] 47)) (.int .i64 0) (.int .i64 0) 47
    have e1 : (w.alloc (.cells #[.int .i64 0, .int .i64 0] 47)).heap.size = w.heap.size + 1 := by simp
    rw [e1] at hk
    exact hk.fr ne1 hfa
  have q6a : Bk w2 w1.heap.size (.int .i64 ln) (.int .i64 lv) := (Bk.new w1 _ _ 47).fr ne6 hf2
  have q63 := q6a.more (.cells #[.int .i64 hn, .int .i64 hv] 47)
  have q03 := q0a.more (.cells #[.int .i64 hn, .int .i64 hv] 47)
  have q13 := q1a.more (.cells #[.int .i64 hn, .int .i64 hv] 47)
  have q83 := Bk.new w2 (.int .i64 hn) (.int .i64 hv) 47
  have hp3 := hp2.alloc (.cells #[.int .i64 hn, .int .i64 hv] 47)
  have hf3 := hf2a.alloc (.cells #[.int .i64 hn, .int .i64 hv] 47)
  obtain ⟨p0, p1, _, _, pB⟩ := q6a
  obtain ⟨s0, s1, y0, y1, sB⟩ := q0a
  obtain ⟨t0, t1, z0, z1', tB⟩ := q1a
  have m1 : w.heap.size ≠ w1.heap.size := by omega
  have m2 : w.heap.size ≠ w2.heap.size := by omega
  have m3 : w.heap.size + 1 ≠ w1.heap.size := by omega
  have m4 : w.heap.size + 1 ≠ w2.heap.size := by omega
  have m5 : w1.heap.size ≠ w2.heap.size := by omega
  have m1' := m1.symm
  have m2' := m2.symm
  have m3' := m3.symm
  have m4' := m4.symm
  have m5' := m5.symm
  have hBl : ∀ w, Calls Tryz.prog 100 #[.agg #[.int .i64 hn, .int .i64 hv], .agg #[.int .i64 ln, .int .i64 lv]] w fun r w' => r = .returned (.bool (lowB ⟨hn, hv⟩ ⟨ln, lv⟩)) ∧ Below w.heap.size w w' := fun w => pbelow_any ⟨hn, hv⟩ ⟨ln, lv⟩ w
  have HBl := Lib.hid hBl
  clear hBl hoc1 hoc2 hp1 hf1 hf2 hfa
  have hbd : badP rect ⟨ln, lv⟩ ⟨hn, hv⟩ = (rect && lowB ⟨hn, hv⟩ ⟨ln, lv⟩ || !rect && decide (hv < lv)) := rfl
  rw [hbd] at hoc
  clear hbd
  generalize lowB ⟨hn, hv⟩ ⟨ln, lv⟩ = lb at *
  have HOC := Lib.hid hoc
  clear hoc
  have hltS : P < w.heap.size + 1 := by omega
  have q0z : Bk w2 w.heap.size (.int .i64 0) (.int .i64 0) := ⟨s0, s1, y0, y1, sB⟩
  have q1z : Bk w2 (w.heap.size + 1) (.int .i64 0) (.int .i64 0) := ⟨t0, t1, z0, z1', tB⟩
  cases hq : (hn != ln) with
  | false =>
    rw [hq] at HOC
    cases rect with
    | true =>
      cases lb with
      | false =>
        go_wp2_with fail
        refine (HBl.out _).mono ?_
        rintro r w4 ⟨rfl, hb4⟩
        have hp4 := hp3.over hb4
        have hf4 := hf3.over hb4
        have q6 := q63.over hb4
        have q8 := q83.over hb4
        have q0 := q03.over hb4
        have q1 := q13.over hb4
        have q64 := q6
        have q84 := q8
        have q04 := q0
        have q14 := q1
        obtain ⟨p0, p1, _, _, pB⟩ := q6
        obtain ⟨r0, r1, _, _, rB⟩ := q8
        obtain ⟨s0, s1, y0, y1, sB⟩ := q0
        obtain ⟨t0, t1, z0, z1', tB⟩ := q1
        go_wp2
        go_region
        go_wp2
        obtain ⟨e0, e1', e2', e3⟩ := four_set q04 q14 (by omega) (.int .i64 ln) (.int .i64 lv) (.int .i64 hn) (.int .i64 hv)
        have E0 := cell_drew e0
        have E1 := cell_drew e1'
        have E2 := cell_drew e2'
        have E3 := cell_drew e3
        refine bodyPost_ret (v := _) (by simp [results, Tryz.results74, go_sem, E0, E1, E2, E3]; try rfl) rfl ⟨(⟨ln, lv⟩, ⟨hn, hv⟩), i2, _, _, rfl, hbc, ((((hp4.far hlt 0 _).far hlt 1 _).far hltS 0 _).far hltS 1 _).drew, hi2, ((((hf4.far (Nat.le_refl _) 0 _).far (Nat.le_refl _) 1 _).far (Nat.le_succ _) 0 _).far (Nat.le_succ _) 1 _).drew, by simpa only [fA_no, fE_eq, Bool.true_and, Bool.false_and, Bool.not_true, Bool.not_false, Bool.or_false, Bool.false_or] using HOC.out⟩
      | true =>
        go_wp2_with fail
        refine (HBl.out _).mono ?_
        rintro r w4 ⟨rfl, hb4⟩
        have hp4 := hp3.over hb4
        have hf4 := hf3.over hb4
        have q6 := q63.over hb4
        have q8 := q83.over hb4
        have q0 := q03.over hb4
        have q1 := q13.over hb4
        have q64 := q6
        have q84 := q8
        have q04 := q0
        have q14 := q1
        obtain ⟨p0, p1, _, _, pB⟩ := q6
        obtain ⟨r0, r1, _, _, rB⟩ := q8
        obtain ⟨s0, s1, y0, y1, sB⟩ := q0
        obtain ⟨t0, t1, z0, z1', tB⟩ := q1
        go_wp2_with fail
        refine (pfail_any hp4 hat 7).mono ?_
        rintro r w5 ⟨rfl, hp5, hf5'⟩
        have hf5 := hf4.trans hf5'
        have q6 := q64.fr ne6 hf5'
        have q8 := q84.fr ne8 hf5'
        have q0 := q04.fr ne0 hf5'
        have q1 := q14.fr ne1 hf5'
        have q65 := q6
        have q85 := q8
        have q05 := q0
        have q15 := q1
        obtain ⟨p0, p1, _, _, pB⟩ := q6
        obtain ⟨r0, r1, _, _, rB⟩ := q8
        obtain ⟨s0, s1, y0, y1, sB⟩ := q0
        obtain ⟨t0, t1, z0, z1', tB⟩ := q1
        go_wp2
        go_region
        go_wp2
        obtain ⟨e0, e1', e2', e3⟩ := four_set q05 q15 (by omega) (.int .i64 ln) (.int .i64 lv) (.int .i64 hn) (.int .i64 hv)
        have E0 := cell_drew e0
        have E1 := cell_drew e1'
        have E2 := cell_drew e2'
        have E3 := cell_drew e3
        simp only [fA_t] at hp5
        refine bodyPost_ret (v := _) (by simp [results, Tryz.results74, go_sem, E0, E1, E2, E3]; try rfl) rfl ⟨(⟨ln, lv⟩, ⟨hn, hv⟩), i2, _, _, rfl, hbc, ((((hp5.far hlt 0 _).far hlt 1 _).far hltS 0 _).far hltS 1 _).drew, hi2, ((((hf5.far (Nat.le_refl _) 0 _).far (Nat.le_refl _) 1 _).far (Nat.le_succ _) 0 _).far (Nat.le_succ _) 1 _).drew, by simpa only [fA_no, fE_eq, Bool.true_and, Bool.false_and, Bool.not_true, Bool.not_false, Bool.or_false, Bool.false_or] using HOC.out⟩
    | false =>
      cases hd : decide (hv < lv) with
      | false =>
        rw [hd] at HOC
        go_wp2
        go_region
        go_wp2
        obtain ⟨e0, e1', e2', e3⟩ := four_set q0z q1z (by omega) (.int .i64 ln) (.int .i64 lv) (.int .i64 hn) (.int .i64 hv)
        have E0 := cell_new e0 (.cells #[.int .i64 hn, .int .i64 hv] 47)
        have E1 := cell_new e1' (.cells #[.int .i64 hn, .int .i64 hv] 47)
        have E2 := cell_new e2' (.cells #[.int .i64 hn, .int .i64 hv] 47)
        have E3 := cell_new e3 (.cells #[.int .i64 hn, .int .i64 hv] 47)
        refine bodyPost_ret (v := _) (by simp [results, Tryz.results74, go_sem, E0, E1, E2, E3]; try rfl) rfl ⟨(⟨ln, lv⟩, ⟨hn, hv⟩), i2, _, _, rfl, hbc, (((((hp2.far hlt 0 _).far hlt 1 _).far hltS 0 _).far hltS 1 _).alloc _).drew, hi2, (((((hf2a.far (Nat.le_refl _) 0 _).far (Nat.le_refl _) 1 _).far (Nat.le_succ _) 0 _).far (Nat.le_succ _) 1 _).alloc _).drew, by simpa only [fA_no, fE_eq, Bool.true_and, Bool.false_and, Bool.not_true, Bool.not_false, Bool.or_false, Bool.false_or] using HOC.out⟩
      | true =>
        rw [hd] at HOC
        go_wp2_with fail
        refine (pfail_any hp3 hat 7).mono ?_
        rintro r w4 ⟨rfl, hp4, hf4'⟩
        have hf4 := hf3.trans hf4'
        have q6 := q63.fr ne6 hf4'
        have q8 := q83.fr ne8 hf4'
        have q0 := q03.fr ne0 hf4'
        have q1 := q13.fr ne1 hf4'
        have q64 := q6
        have q84 := q8
        have q04 := q0
        have q14 := q1
        obtain ⟨p0, p1, _, _, pB⟩ := q6
        obtain ⟨r0, r1, _, _, rB⟩ := q8
        obtain ⟨s0, s1, y0, y1, sB⟩ := q0
        obtain ⟨t0, t1, z0, z1', tB⟩ := q1
        go_wp2
        go_region
        go_wp2
        obtain ⟨e0, e1', e2', e3⟩ := four_set q04 q14 (by omega) (.int .i64 ln) (.int .i64 lv) (.int .i64 hn) (.int .i64 hv)
        have E0 := cell_drew e0
        have E1 := cell_drew e1'
        have E2 := cell_drew e2'
        have E3 := cell_drew e3
        simp only [fA_t] at hp4
        refine bodyPost_ret (v := _) (by simp [results, Tryz.results74, go_sem, E0, E1, E2, E3]; try rfl) rfl ⟨(⟨ln, lv⟩, ⟨hn, hv⟩), i2, _, _, rfl, hbc, ((((hp4.far hlt 0 _).far hlt 1 _).far hltS 0 _).far hltS 1 _).drew, hi2, ((((hf4.far (Nat.le_refl _) 0 _).far (Nat.le_refl _) 1 _).far (Nat.le_succ _) 0 _).far (Nat.le_succ _) 1 _).drew, by simpa only [fA_no, fE_eq, Bool.true_and, Bool.false_and, Bool.not_true, Bool.not_false, Bool.or_false, Bool.false_or] using HOC.out⟩
  | true =>
    rw [hq] at HOC
    cases rect with
    | true =>
      cases lb with
      | false =>
        go_wp2_with fail
        refine (pfail_any hp3 hat 12).mono ?_
        rintro r w4 ⟨rfl, hp4, hf4'⟩
        have hf4 := hf3.trans hf4'
        have q6 := q63.fr ne6 hf4'
        have q8 := q83.fr ne8 hf4'
        have q0 := q03.fr ne0 hf4'
        have q1 := q13.fr ne1 hf4'
        have q64 := q6
        have q84 := q8
        have q04 := q0
        have q14 := q1
        obtain ⟨p0, p1, _, _, pB⟩ := q6
        obtain ⟨r0, r1, _, _, rB⟩ := q8
        obtain ⟨s0, s1, y0, y1, sB⟩ := q0
        obtain ⟨t0, t1, z0, z1', tB⟩ := q1
        go_wp2_with fail
        refine (HBl.out _).mono ?_
        rintro r w5 ⟨rfl, hb5⟩
        have hp5 := hp4.over hb5
        have hf5 := hf4.over hb5
        have q6 := q64.over hb5
        have q8 := q84.over hb5
        have q0 := q04.over hb5
        have q1 := q14.over hb5
        have q65 := q6
        have q85 := q8
        have q05 := q0
        have q15 := q1
        obtain ⟨p0, p1, _, _, pB⟩ := q6
        obtain ⟨r0, r1, _, _, rB⟩ := q8
        obtain ⟨s0, s1, y0, y1, sB⟩ := q0
        obtain ⟨t0, t1, z0, z1', tB⟩ := q1
        go_wp2
        go_region
        go_wp2
        obtain ⟨e0, e1', e2', e3⟩ := four_set q05 q15 (by omega) (.int .i64 ln) (.int .i64 lv) (.int .i64 hn) (.int .i64 hv)
        have E0 := cell_drew e0
        have E1 := cell_drew e1'
        have E2 := cell_drew e2'
        have E3 := cell_drew e3
        simp only [fA_t] at hp5
        refine bodyPost_ret (v := _) (by simp [results, Tryz.results74, go_sem, E0, E1, E2, E3]; try rfl) rfl ⟨(⟨ln, lv⟩, ⟨hn, hv⟩), i2, _, _, rfl, hbc, ((((hp5.far hlt 0 _).far hlt 1 _).far hltS 0 _).far hltS 1 _).drew, hi2, ((((hf5.far (Nat.le_refl _) 0 _).far (Nat.le_refl _) 1 _).far (Nat.le_succ _) 0 _).far (Nat.le_succ _) 1 _).drew, by simpa only [fA_no, fE_eq, Bool.true_and, Bool.false_and, Bool.not_true, Bool.not_false, Bool.or_false, Bool.false_or] using HOC.out⟩
      | true =>
        go_wp2_with fail
        refine (pfail_any hp3 hat 12).mono ?_
        rintro r w4 ⟨rfl, hp4, hf4'⟩
        have hf4 := hf3.trans hf4'
        have q6 := q63.fr ne6 hf4'
        have q8 := q83.fr ne8 hf4'
        have q0 := q03.fr ne0 hf4'
        have q1 := q13.fr ne1 hf4'
        have q64 := q6
        have q84 := q8
        have q04 := q0
        have q14 := q1
        obtain ⟨p0, p1, _, _, pB⟩ := q6
        obtain ⟨r0, r1, _, _, rB⟩ := q8
        obtain ⟨s0, s1, y0, y1, sB⟩ := q0
        obtain ⟨t0, t1, z0, z1', tB⟩ := q1
        go_wp2_with fail
        refine (HBl.out _).mono ?_
        rintro r w5 ⟨rfl, hb5⟩
        have hp5 := hp4.over hb5
        have hf5 := hf4.over hb5
        have q6 := q64.over hb5
        have q8 := q84.over hb5
        have q0 := q04.over hb5
        have q1 := q14.over hb5
        have q65 := q6
        have q85 := q8
        have q05 := q0
        have q15 := q1
        obtain ⟨p0, p1, _, _, pB⟩ := q6
        obtain ⟨r0, r1, _, _, rB⟩ := q8
        obtain ⟨s0, s1, y0, y1, sB⟩ := q0
        obtain ⟨t0, t1, z0, z1', tB⟩ := q1
        go_wp2_with fail
        refine (pfail_any hp5 hat 7).mono ?_
        rintro r w6 ⟨rfl, hp6, hf6'⟩
        have hf6 := hf5.trans hf6'
        have q6 := q65.fr ne6 hf6'
        have q8 := q85.fr ne8 hf6'
        have q0 := q05.fr ne0 hf6'
        have q1 := q15.fr ne1 hf6'
        have q66 := q6
        have q86 := q8
        have q06 := q0
        have q16 := q1
        obtain ⟨p0, p1, _, _, pB⟩ := q6
        obtain ⟨r0, r1, _, _, rB⟩ := q8
        obtain ⟨s0, s1, y0, y1, sB⟩ := q0
        obtain ⟨t0, t1, z0, z1', tB⟩ := q1
        go_wp2
        go_region
        go_wp2
        obtain ⟨e0, e1', e2', e3⟩ := four_set q06 q16 (by omega) (.int .i64 ln) (.int .i64 lv) (.int .i64 hn) (.int .i64 hv)
        have E0 := cell_drew e0
        have E1 := cell_drew e1'
        have E2 := cell_drew e2'
        have E3 := cell_drew e3
        simp only [fA_t] at hp6
        refine bodyPost_ret (v := _) (by simp [results, Tryz.results74, go_sem, E0, E1, E2, E3]; try rfl) rfl ⟨(⟨ln, lv⟩, ⟨hn, hv⟩), i2, _, _, rfl, hbc, ((((hp6.far hlt 0 _).far hlt 1 _).far hltS 0 _).far hltS 1 _).drew, hi2, ((((hf6.far (Nat.le_refl _) 0 _).far (Nat.le_refl _) 1 _).far (Nat.le_succ _) 0 _).far (Nat.le_succ _) 1 _).drew, by simpa only [fA_no, fE_eq, Bool.true_and, Bool.false_and, Bool.not_true, Bool.not_false, Bool.or_false, Bool.false_or] using HOC.out⟩
    | false =>
      cases hd : decide (hv < lv) with
      | false =>
        rw [hd] at HOC
        go_wp2_with fail
        refine (pfail_any hp3 hat 12).mono ?_
        rintro r w4 ⟨rfl, hp4, hf4'⟩
        have hf4 := hf3.trans hf4'
        have q6 := q63.fr ne6 hf4'
        have q8 := q83.fr ne8 hf4'
        have q0 := q03.fr ne0 hf4'
        have q1 := q13.fr ne1 hf4'
        have q64 := q6
        have q84 := q8
        have q04 := q0
        have q14 := q1
        obtain ⟨p0, p1, _, _, pB⟩ := q6
        obtain ⟨r0, r1, _, _, rB⟩ := q8
        obtain ⟨s0, s1, y0, y1, sB⟩ := q0
        obtain ⟨t0, t1, z0, z1', tB⟩ := q1
        go_wp2
        go_region
        go_wp2
        obtain ⟨e0, e1', e2', e3⟩ := four_set q04 q14 (by omega) (.int .i64 ln) (.int .i64 lv) (.int .i64 hn) (.int .i64 hv)
        have E0 := cell_drew e0
        have E1 := cell_drew e1'
        have E2 := cell_drew e2'
        have E3 := cell_drew e3
        simp only [fA_t] at hp4
        refine bodyPost_ret (v := _) (by simp [results, Tryz.results74, go_sem, E0, E1, E2, E3]; try rfl) rfl ⟨(⟨ln, lv⟩, ⟨hn, hv⟩), i2, _, _, rfl, hbc, ((((hp4.far hlt 0 _).far hlt 1 _).far hltS 0 _).far hltS 1 _).drew, hi2, ((((hf4.far (Nat.le_refl _) 0 _).far (Nat.le_refl _) 1 _).far (Nat.le_succ _) 0 _).far (Nat.le_succ _) 1 _).drew, by simpa only [fA_no, fE_eq, Bool.true_and, Bool.false_and, Bool.not_true, Bool.not_false, Bool.or_false, Bool.false_or] using HOC.out⟩
      | true =>
        rw [hd] at HOC
        go_wp2_with fail
        refine (pfail_any hp3 hat 12).mono ?_
        rintro r w4 ⟨rfl, hp4, hf4'⟩
        have hf4 := hf3.trans hf4'
        have q6 := q63.fr ne6 hf4'
        have q8 := q83.fr ne8 hf4'
        have q0 := q03.fr ne0 hf4'
        have q1 := q13.fr ne1 hf4'
        have q64 := q6
        have q84 := q8
        have q04 := q0
        have q14 := q1
        obtain ⟨p0, p1, _, _, pB⟩ := q6
        obtain ⟨r0, r1, _, _, rB⟩ := q8
        obtain ⟨s0, s1, y0, y1, sB⟩ := q0
        obtain ⟨t0, t1, z0, z1', tB⟩ := q1
        go_wp2_with fail
        refine (pfail_any hp4 hat 7).mono ?_
        rintro r w5 ⟨rfl, hp5, hf5'⟩
        have hf5 := hf4.trans hf5'
        have q6 := q64.fr ne6 hf5'
        have q8 := q84.fr ne8 hf5'
        have q0 := q04.fr ne0 hf5'
        have q1 := q14.fr ne1 hf5'
        have q65 := q6
        have q85 := q8
        have q05 := q0
        have q15 := q1
        obtain ⟨p0, p1, _, _, pB⟩ := q6
        obtain ⟨r0, r1, _, _, rB⟩ := q8
        obtain ⟨s0, s1, y0, y1, sB⟩ := q0
        obtain ⟨t0, t1, z0, z1', tB⟩ := q1
        go_wp2
        go_region
        go_wp2
        obtain ⟨e0, e1', e2', e3⟩ := four_set q05 q15 (by omega) (.int .i64 ln) (.int .i64 lv) (.int .i64 hn) (.int .i64 hv)
        have E0 := cell_drew e0
        have E1 := cell_drew e1'
        have E2 := cell_drew e2'
        have E3 := cell_drew e3
        simp only [fA_t] at hp5
        refine bodyPost_ret (v := _) (by simp [results, Tryz.results74, go_sem, E0, E1, E2, E3]; try rfl) rfl ⟨(⟨ln, lv⟩, ⟨hn, hv⟩), i2, _, _, rfl, hbc, ((((hp5.far hlt 0 _).far hlt 1 _).far hltS 0 _).far hltS 1 _).drew, hi2, ((((hf5.far (Nat.le_refl _) 0 _).far (Nat.le_refl _) 1 _).far (Nat.le_succ _) 0 _).far (Nat.le_succ _) 1 _).drew, by simpa only [fA_no, fE_eq, Bool.true_and, Bool.false_and, Bool.not_true, Bool.not_false, Bool.or_false, Bool.false_or] using HOC.out⟩
end Go.Proofs.YthcnjiigkmljnaaGreatDoor
/-
  hornbookref04.fail, is, octal, escaped: the document's own.
-/
namespace Go.Proofs.YthcnjiigkmljnaaGreatDoor
open Go.RowKit

set_option maxHeartbeats 1000000 in
theorem rfail_any (p e0 : Int) (w : World) :
    Calls Tryz.prog 41 #[.int .i64 p, .int .i64 e0] w fun e w' => e = .returned (.tuple #[.agg #[.int .i64 0, .int .i64 0, .int .i64 0, .string ⟨#[]⟩], .int .i64 p, .int .i64 e0]) ∧ Below w.heap.size w w' := by
  go_enter Tryz.func41, Tryz.ntmps41
  go_wp2
  obtain ⟨⟨c0, c1, c2, c3⟩, ⟨z0, z1, z2, z3⟩, hlt, hB⟩ := res_of (Below.refl (w.alloc (.cells #[.int .i64 0, .int .i64 0, .int .i64 0, .string ⟨#[]⟩] 42)).heap.size (w.alloc (.cells #[.int .i64 0, .int .i64 0, .int .i64 0, .string ⟨#[]⟩] 42)))
  refine bodyPost_ret (v := _) (by simp [results, Tryz.results41, go_sem, c0, c1, c2, c3]; try rfl) rfl ⟨rfl, by first | exact hB | exact below_4 hB (Nat.le_refl _) _ _ _ _⟩

theorem byte_ne {x c : UInt8} (h : x ≠ c) : ((x.toNat : Int) == (c.toNat : Int)) = false := by
  rw [beq_eq_false_iff_ne]
  intro e
  exact h (eq_of_toNat (by omega))
/-- Does a byte stand at a place? -/
def isB (l : List UInt8) (k : Nat) (c : UInt8) : Bool := l[k]? == some c
set_option maxHeartbeats 1000000 in
theorem ris_any (l : List UInt8) (k : Nat) (c : UInt8) (w : World) :
    Calls Tryz.prog 42 #[.string (str l), .int .i64 (k : Int), .int .u8 (c.toNat : Int)] w fun e w' => e = .returned (.bool (isB l k c)) ∧ w = w' := by
  have hc1 := c.toNat_lt
  have t0 : decide ((0 : Int) ≤ (k : Int)) = true := by simp
  by_cases hlt : k < l.length
  · obtain ⟨x, hx⟩ : ∃ x, x = l[k]?.getD 0 := ⟨_, rfl⟩
    have hgs : ∀ h, (str l)[k]'h = x := fun h => (get_str l k h).trans hx.symm
    have hx1 := x.toNat_lt
    have t1 : decide (k < l.length) = true := by simp; omega
    have t1' : decide ((k : Int) < (l.length : Int)) = true := by simp; omega
    have hb : isB l k c = ((x.toNat : Int) == (c.toNat : Int)) := by
      unfold isB
      rw [List.getElem?_eq_getElem hlt] at hx ⊢
      simp only [Option.getD_some] at hx
      rw [← hx]
      by_cases e : x = c
      · subst e; simp
      · have e1 : ((x.toNat : Int) == (c.toNat : Int)) = false := by
          rw [beq_eq_false_iff_ne]; intro h; exact e (eq_of_toNat (by omega))
        rw [e1]; simpa using e
    rw [hb]
    clear hb hx
    go_enter Tryz.func42, Tryz.ntmps42
    go_wp2
    go_ret
    exact ⟨rfl, rfl⟩
  · have t1 : decide (k < l.length) = false := by simp; omega
    have t1' : decide ((k : Int) < (l.length : Int)) = false := by simp; omega
    have hb : isB l k c = false := by unfold isB; rw [List.getElem?_eq_none (by omega)]; rfl
    rw [hb]
    go_enter Tryz.func42, Tryz.ntmps42
    go_wp2
    go_ret
    exact ⟨rfl, rfl⟩

set_option maxRecDepth 100000 in
set_option maxHeartbeats 2000000 in
theorem roctal_any (l : List UInt8) (p : Nat) (w : World) (hp : p ≤ l.length) (hl : l.length ≤ 1073741824) :
    Calls Tryz.prog 92 #[.string (str l), .int .i64 (p : Int)] w fun e w' => e = .returned (.tuple #[.int .i64 ((octB (l.drop p)).toNat : Int), .int .i64 (octN (l.drop p) : Nat)]) ∧ w = w' := by
  obtain ⟨d, hd⟩ : ∃ d, d = l.drop p := ⟨_, rfl⟩
  have hdl : d.length = l.length - p := by rw [hd, List.length_drop]
  have hget : ∀ k, d[k]?.getD 0 = l[p + k]?.getD 0 := fun k => by rw [hd, List.getElem?_drop]
  rw [← hd]
  clear hd
  have HG := Lib.hid hget
  have HD := Lib.hid hdl
  clear hget hdl
  go_enter Tryz.func92, Tryz.ntmps92
  go_wp2
  go_loop [6, 7] (fun v i => ∃ (k V : Nat), k ≤ d.length ∧ k ≤ 3 ∧ V < 8 ^ k ∧ v = .int .i64 V ∧ i = .int .i64 k ∧ Hid (V = octF 0 (d.take k)) ∧ Hid (∀ j, j < k → od (d[j]?.getD 0) = true)) (fun _ i => 8 - (intOf i).toNat)
  case atStart => exact ⟨0, 0, Nat.zero_le _, by omega, by decide, rfl, rfl, Lib.hid (by simp [octF]), fun j hj => by omega⟩
  case round =>
    obtain ⟨k, V, hk, hk3, hV, rfl, rfl, HV, HA⟩ := hrel
    have hV' : V < 512 := Nat.lt_of_lt_of_le hV (by rcases (show k = 0 ∨ k = 1 ∨ k = 2 ∨ k = 3 by omega) with rfl | rfl | rfl | rfl <;> decide)
    have hpl : p + k ≤ 1073741824 := by have := HD.out; omega
    have hfin : octN d = k → Hid (((octB d).toNat : Int) = (V : Int) % 256) := fun hN => Lib.hid (by unfold octB; rw [hN, ← HV.out]; simp)
    by_cases hend : k = d.length ∨ k = 3
    · have hN : octN d = k := on_all 3 d k hk hk3 HA.out hend
      have HB := hfin hN
      have HN := Lib.hid hN
      clear hN hfin
      by_cases hk3' : k = 3
      · subst hk3'
        go_wp2
        go_ret2
        rw [HN.out, HB.out]
        exact ⟨by simp, rfl⟩
      · have t2 : decide ((k : Int) < 3) = true := by simp; omega
        have t1 : decide (p + k < l.length) = false := by have := HD.out; simp; omega
        have t1' : decide ((p : Int) + (k : Int) < (l.length : Int)) = false := by have := HD.out; simp; omega
        clear hend
        go_wp2
        go_ret2
        rw [HN.out, HB.out]
        exact ⟨by simp, rfl⟩
    · have hlt : k < d.length := by omega
      have hlt3 : k < 3 := by omega
      have hltl : p + k < l.length := by have := HD.out; omega
      have t1 : decide (p + k < l.length) = true := by simp; omega
      have t1' : decide ((p : Int) + (k : Int) < (l.length : Int)) = true := by simp; omega
      have t2 : decide (k < 3) = true := by simp; omega
      have t2' : decide ((k : Int) < 3) = true := by simp; omega
      obtain ⟨x, hx⟩ : ∃ x, x = d[k]?.getD 0 := ⟨_, rfl⟩
      have hgs : ∀ h, (str l)[p + k]'h = x := fun h => (get_str l (p + k) h).trans ((HG.out k).symm.trans hx.symm)
      have hx1 := x.toNat_lt
      obtain ⟨hno, hyes⟩ := on_drop 3 d k hlt hlt3 HA.out
      rw [← hx] at hno hyes
      cases ho : od x with
      | false =>
        have hN : octN d = k := hno ho
        have HB := hfin hN
        have HN := Lib.hid hN
        clear hN hfin
        have hc : decide ((48 : Int) ≤ (x.toNat : Int)) = false ∨ (decide ((48 : Int) ≤ (x.toNat : Int)) = true ∧ decide ((x.toNat : Int) ≤ 55) = false) := by
          simp only [od, Bool.and_eq_false_iff, decide_eq_false_iff_not] at ho
          simp; omega
        clear hno hyes hx ho
        rcases hc with t3 | ⟨t3, t4⟩
        all_goals
          go_wp2
          go_ret2
          rw [HN.out, HB.out]
          exact ⟨by simp, rfl⟩
      | true =>
        have hc : 48 ≤ x.toNat ∧ x.toNat ≤ 55 := by simpa [od] using ho
        have t3 : decide ((48 : Int) ≤ (x.toNat : Int)) = true := by simp; omega
        have t4 : decide ((x.toNat : Int) ≤ 55) = true := by simp; omega
        have hcast : ((V * 8 + (x.toNat - 48) : Nat) : Int) = (V : Int) * 8 + ((x.toNat : Int) - 48) := by omega
        have HX := Lib.hid hx
        have HV2 := Lib.hid ((octF_take hlt hx).symm)
        clear hno hyes hx hfin
        go_wp2
        go_round
        case rel =>
          refine ⟨k + 1, V * 8 + (x.toNat - 48), by omega, by omega, by rw [Nat.pow_succ]; omega, by rw [hcast], by go_num, Lib.hid (by rw [← HV2.out, ← HV.out]), fun j hj => ?_⟩
          by_cases e : j = k
          · rw [e, ← HX.out]; exact ho
          · exact HA.out j (by omega)
        case measure => simp [intOf]; omega

/-- What escaped hands back: nothing, or a byte in a block of its own. -/
def EscV (w' : World) (o : List UInt8) (v : Value) : Prop :=
  (o = [] ∧ v = .slice none 0 0) ∨ ∃ (x : UInt8) (b : Nat), o = [x] ∧ v = .slice (some ⟨b, 0, none⟩) 1 1 ∧ b < w'.heap.size ∧ w'.cell? ⟨b, 0, none⟩ = some (.int .u8 (x.toNat : Int))
theorem EscV.new (w : World) (x : UInt8) : EscV (w.alloc (.cells #[.int .u8 (x.toNat : Int)] 5)) [x] (.slice (some ⟨w.heap.size, 0, none⟩) 1 1) := .inr ⟨x, _, rfl, rfl, by simp, by simp⟩
theorem es_oct {x : UInt8} {t : List UInt8} (h : octN (x :: t) ≠ 0) : esB (x :: t) = [octB (x :: t)] ∧ esN (x :: t) = octN (x :: t) := by
  have hx : od x = true := by
    cases ho : od x with
    | true => rfl
    | false => exfalso; apply h; simp [octN, on, ho]
  have h0 : len (x :: t) = 0 := by
    have : x ≠ 13 := by rintro rfl; simp [od] at hx
    have h2 : x ≠ 10 := by rintro rfl; simp [od] at hx
    simp [len, this, h2]
  exact ⟨by unfold esB; rw [if_pos h0, if_neg h], by unfold esN; rw [if_pos h0, if_neg h]⟩
theorem es_ten (t : List UInt8) : esB (10 :: t) = [] ∧ esN (10 :: t) = 1 ∧ octN (10 :: t) = 0 := ⟨rfl, rfl, rfl⟩
theorem es_ret (t : List UInt8) : esB (13 :: t) = [] ∧ esN (13 :: t) = (if t.head? = some 10 then 2 else 1) ∧ octN (13 :: t) = 0 := by
  by_cases h : t.head? = some 10
  · refine ⟨?_, ?_, rfl⟩ <;> simp [esB, esN, len, h]
  · refine ⟨?_, ?_, rfl⟩ <;> simp [esB, esN, len, h]
theorem es_one {x : UInt8} {t : List UInt8} (h : octN (x :: t) = 0) (h1 : x ≠ 10) (h2 : x ≠ 13) : esB (x :: t) = [esc1 x] ∧ esN (x :: t) = 1 := by
  have h0 : len (x :: t) = 0 := by simp [len, h1, h2]
  exact ⟨by unfold esB; rw [if_pos h0, if_pos h], by unfold esN; rw [if_pos h0, if_pos h]⟩
theorem isB_next {l : List UInt8} {p : Nat} : isB l (p + 1) 10 = decide ((l.drop (p + 1)).head? = some 10) := by
  unfold isB
  rw [List.head?_drop]
  by_cases h : l[p + 1]? = some 10 <;> simp [h]

set_option maxRecDepth 100000 in
set_option maxHeartbeats 2000000 in
theorem rescaped_any (l : List UInt8) (p : Nat) (w : World) (hp : p ≤ l.length) (hl : l.length ≤ 1073741824) :
    Calls Tryz.prog 68 #[.string (str l), .int .i64 (p : Int)] w fun e w' => ∃ v, e = .returned (.tuple #[v, .int .i64 (esN (l.drop p) : Nat)]) ∧ EscV w' (esB (l.drop p)) v ∧ Below w.heap.size w w' := by
  by_cases hlt : p < l.length
  · obtain ⟨x, hx⟩ : ∃ x, x = l[p]?.getD 0 := ⟨_, rfl⟩
    have hgs : ∀ h, (str l)[p]'h = x := fun h => (get_str l p h).trans hx.symm
    have hx1 := x.toNat_lt
    have hdr := drop_at hlt hx
    have t0 : decide (l.length ≤ p) = false := by simp; omega
    have hO : ∀ w, Calls Tryz.prog 92 #[.string (str l), .int .i64 (p : Int)] w fun e w' => e = .returned (.tuple #[.int .i64 ((octB (l.drop p)).toNat : Int), .int .i64 (octN (l.drop p) : Nat)]) ∧ w = w' := fun w => roctal_any l p w hp hl
    have hI : ∀ w, Calls Tryz.prog 42 #[.string (str l), .int .i64 ((p : Int) + 1), .int .u8 10] w fun e w' => e = .returned (.bool (isB l (p + 1) 10)) ∧ w = w' := fun w => ris_any l (p + 1) 10 w
    have hon := on_max 3 (l.drop p)
    rw [isB_next] at hI
    rw [hdr] at hO ⊢
    have HO := Lib.hid hO
    have HI := Lib.hid hI
    clear hO hI hx
    by_cases ho : octN (x :: l.drop (p + 1)) = 0
    · rw [ho] at HO
      clear hdr hon
      generalize octB (x :: l.drop (p + 1)) = ob at *
      by_cases h10 : x = 10
      · subst h10
        obtain ⟨e1, e2, _⟩ := es_ten (l.drop (p + 1))
        rw [e1, e2]
        go_enter Tryz.func68, Tryz.ntmps68
        go_wp2_with (go_at_call 92; refine (HO.out _).mono ?_; rintro e w' ⟨rfl, rfl⟩)
        go_ret2
        exact ⟨_, rfl, .inl ⟨rfl, rfl⟩, Below.refl _ _⟩
      · by_cases h13 : x = 13
        · subst h13
          obtain ⟨e1, e2, _⟩ := es_ret (l.drop (p + 1))
          rw [e1, e2]
          by_cases hh : (l.drop (p + 1)).head? = some 10
          · rw [if_pos hh]
            rw [decide_eq_true hh] at HI
            clear hh e1 e2 ho
            go_enter Tryz.func68, Tryz.ntmps68
            go_wp2_with (first | (go_at_call 92; refine (HO.out _).mono ?_; rintro e w' ⟨rfl, rfl⟩) | (go_at_call 42; refine (HI.out _).mono ?_; rintro e w' ⟨rfl, rfl⟩))
            go_ret2
            exact ⟨_, rfl, .inl ⟨rfl, rfl⟩, Below.refl _ _⟩
          · rw [if_neg hh]
            rw [decide_eq_false hh] at HI
            clear hh e1 e2 ho
            go_enter Tryz.func68, Tryz.ntmps68
            go_wp2_with (first | (go_at_call 92; refine (HO.out _).mono ?_; rintro e w' ⟨rfl, rfl⟩) | (go_at_call 42; refine (HI.out _).mono ?_; rintro e w' ⟨rfl, rfl⟩))
            go_ret2
            exact ⟨_, rfl, .inl ⟨rfl, rfl⟩, Below.refl _ _⟩
        · obtain ⟨e1, e2⟩ := es_one ho h10 h13
          rw [e1, e2]
          clear e1 e2 ho HI
          have hcs : (x = 110 ∨ x = 114 ∨ x = 116 ∨ x = 98 ∨ x = 102) ∨ (esc1 x = x ∧ ((x.toNat : Int) == 110) = false ∧ ((x.toNat : Int) == 114) = false ∧ ((x.toNat : Int) == 116) = false ∧ ((x.toNat : Int) == 98) = false ∧ ((x.toNat : Int) == 102) = false ∧ ((x.toNat : Int) == 10) = false ∧ ((x.toNat : Int) == 13) = false) := by
            by_cases h1 : x = 110
            · exact .inl (.inl h1)
            · by_cases h2 : x = 114
              · exact .inl (.inr (.inl h2))
              · by_cases h3 : x = 116
                · exact .inl (.inr (.inr (.inl h3)))
                · by_cases h4 : x = 98
                  · exact .inl (.inr (.inr (.inr (.inl h4))))
                  · by_cases h5 : x = 102
                    · exact .inl (.inr (.inr (.inr (.inr h5))))
                    · exact .inr ⟨by simp [esc1, h1, h2, h3, h4, h5], byte_ne h1, byte_ne h2, byte_ne h3, byte_ne h4, byte_ne h5, byte_ne h10, byte_ne h13⟩
          rcases hcs with (rfl | rfl | rfl | rfl | rfl) | ⟨e, n1, n2, n3, n4, n5, n6, n7⟩
          rotate_right
          · rw [e]
            clear e h10 h13
            go_enter Tryz.func68, Tryz.ntmps68
            go_wp2_with (go_at_call 92; refine (HO.out _).mono ?_; rintro e w' ⟨rfl, rfl⟩)
            go_ret2
            exact ⟨_, rfl, EscV.new _ _, (Below.refl _ _).alloc (Nat.le_refl _) _⟩
          all_goals
            clear h10 h13
            go_enter Tryz.func68, Tryz.ntmps68
            go_wp2_with (go_at_call 92; refine (HO.out _).mono ?_; rintro e w' ⟨rfl, rfl⟩)
            go_ret2
            exact ⟨_, rfl, EscV.new _ _, (Below.refl _ _).alloc (Nat.le_refl _) _⟩
    · obtain ⟨e1, e2⟩ := es_oct ho
      rw [e1, e2]
      have hon' : octN (x :: l.drop (p + 1)) ≤ 3 := by rw [← hdr]; exact hon
      have ho' : 0 < octN (x :: l.drop (p + 1)) := by omega
      clear e1 e2 hdr hon ho
      generalize octB (x :: l.drop (p + 1)) = ob at *
      generalize octN (x :: l.drop (p + 1)) = on' at *
      have t1 : decide ((0 : Int) < (on' : Int)) = true := by simp; omega
      have hob := ob.toNat_lt
      go_enter Tryz.func68, Tryz.ntmps68
      go_wp2_with (go_at_call 92; refine (HO.out _).mono ?_; rintro e w' ⟨rfl, rfl⟩)
      go_ret2
      exact ⟨_, rfl, EscV.new _ _, (Below.refl _ _).alloc (Nat.le_refl _) _⟩
  · have hpl : p = l.length := by omega
    have hd : l.drop p = [] := List.drop_eq_nil_of_le (by omega)
    rw [hd]
    have t0 : decide (l.length ≤ p) = true := by simp; omega
    clear hpl hd hlt
    go_enter Tryz.func68, Tryz.ntmps68
    go_wp2
    go_ret2
    exact ⟨_, rfl, .inl ⟨rfl, rfl⟩, Below.refl _ _⟩
end Go.Proofs.YthcnjiigkmljnaaGreatDoor
/-
  The document's own UnHex: the same answer as the program's.
-/
namespace Go.Proofs.YthcnjiigkmljnaaGreatDoor
open Go.RowKit

/-- Numbers as Go's values. -/
def nvs (l : List Nat) : List Value := l.map fun d : Nat => Value.int .i64 (d : Int)
theorem nvs_length (l : List Nat) : (nvs l).length = l.length := by simp [nvs]
theorem nvs_append (a b : List Nat) : nvs (a ++ b) = nvs a ++ nvs b := by simp [nvs]
theorem nvs_get (l : List Nat) (j : Nat) (h : j < l.length) : (nvs l)[j]? = some (.int .i64 ((l[j]?.getD 0 : Nat) : Int)) := by simp [nvs, h]
/-- Two rows of different types are two. -/
theorem own_ne {w : World} {b b' s s' n n' : Nat} {e e' : TypeId} {v v' : Value} {xs xs' : List Value} (h : w.ownsRow b e s v n xs) (h' : w.ownsRow b' e' s' v' n' xs') (hne : e ≠ e') : v.ownBlock = none ∨ v.ownBlock ≠ v'.ownBlock := by
  rcases h.2 with ⟨rfl, _⟩ | ⟨g, cap, cur, rfl, _, hg, _⟩
  · exact .inl rfl
  · right
    rcases h'.2 with ⟨rfl, _⟩ | ⟨g', cap', cur', rfl, _, hg', _⟩
    · simp [Value.ownBlock]
    · intro he
      have : g = g' := by simpa [Value.ownBlock] using he
      subst this
      rw [hg] at hg'
      injection hg' with hg'
      injection hg' with _ ht
      exact hne ht
theorem own_at {w : World} {b n g cap : Nat} {e : TypeId} {xs : List Value} (h : w.ownsRow b e 1 (.slice (some ⟨g, 0, none⟩) n cap) n xs) (j : Nat) (u : Value) (hu : xs[j]? = some u) : w.cell? ⟨g, j, none⟩ = some u := by
  have := h.cells (g := g) rfl j u hu
  rw [addr_add] at this
  simpa using this
theorem pack_two (ds : List Nat) (k : Nat) (h : 2 * k + 1 < ds.length) : pack (ds.take (2 * k + 2)) = pack (ds.take (2 * k)) ++ [UInt8.ofNat (16 * (ds[2 * k]?.getD 0) + ds[2 * k + 1]?.getD 0)] := by
  have e : ds.take (2 * k + 2) = ds.take (2 * k) ++ [ds[2 * k]?.getD 0, ds[2 * k + 1]?.getD 0] := by
    rw [show 2 * k + 2 = 2 * k + 1 + 1 from rfl, List.take_succ_eq_append_getElem (by omega : 2 * k + 1 < ds.length), List.take_succ_eq_append_getElem (by omega : 2 * k < ds.length)]
    simp only [List.getElem?_eq_getElem (by omega : 2 * k < ds.length), List.getElem?_eq_getElem h, Option.getD_some, List.append_assoc, List.cons_append, List.nil_append]
  rw [e, pack_even _ (by rw [List.length_take]; omega)]
  rfl
theorem pack_evened (l : List UInt8) (ds : List Nat) (h : ds = nibs l ∨ (ds = nibs l ++ [0] ∧ (nibs l).length % 2 = 1)) : pack ds = pack (nibs l) := by
  rcases h with rfl | ⟨rfl, hodd⟩
  · rfl
  · obtain ⟨p, a, _, h1, _, h3⟩ := pack_odd _ hodd
    rw [h3, h1]
    rfl

set_option maxRecDepth 100000 in
set_option maxHeartbeats 4000000 in
theorem rUnHex_any (l : List UInt8) (w : World) (hl : l.length ≤ 1048576) :
    Calls Tryz.prog 67 #[.string (str l)] w (RetBytes w (unB l) (unN l) (unE l)) := by
  obtain ⟨i0, hi, hz0, hz1, hz2⟩ := info_parts info8
  obtain ⟨j0, ji, jz0, jz1, jz2⟩ := info_parts info64
  go_enter Tryz.func67, Tryz.ntmps67
  go_wp2
  go_loopw [5, 6] (fun v i wr => ∃ k : Nat, k ≤ l.length ∧ i = .int .i64 k ∧ wr.ownsRow w.heap.size 3 1 v (nibs (l.take k)).length (nvs (nibs (l.take k))) ∧ Good (l.take k) ∧ Below w.heap.size w wr) (fun _ i _ => l.length - (intOf i).toNat)
  case atStart => exact ⟨0, Nat.zero_le _, rfl, by simpa [nibs, nvs] using World.ownsRow_nil _ _ _ _, fun b hb => by simp at hb, Below.refl _ _⟩
  case round =>
    obtain ⟨k, hk, rfl, hown, hgood, hbel⟩ := hrel
    by_cases hlt : k < l.length
    · obtain ⟨x, hx⟩ : ∃ x, x = l[k]?.getD 0 := ⟨_, rfl⟩
      have hgs : ∀ h, (str l)[k]'h = x := fun h => (get_str l k h).trans hx.symm
      have hx1 := x.toNat_lt
      have HX := Lib.hid hx
      have hkb := kb_bounds x
      have hsz := hbel.size
      clear hx
      rcases (show kb x = 1 ∨ kb x = 0 ∨ 2 ≤ kb x by omega) with h1 | h1 | h1
      · have hw : (kz (x.toNat : Int) == 1) = true := by simpa [kb] using h1
        have hk2 : kz (x.toNat : Int) < 2 := by have h1' : kz (x.toNat : Int) = 1 := h1; omega
        have H1 := Lib.hid h1
        have HG := Lib.hid hgood
        clear h1 hgood
        go_wp2_with (first | (go_at_call 91; refine (rWhite_any _ _).mono ?_; rintro e w' ⟨rfl, rfl⟩) | (go_at_call 66; refine (rDigit_no _ _ hk2).mono ?_; rintro e w' ⟨rfl, rfl⟩))
        go_roundw
        case rel =>
          have e := nibs_white hlt HX.out H1.out
          exact ⟨k + 1, by omega, by go_num, by rw [e]; exact hown, good_snoc hlt HG.out (by rw [← HX.out, H1.out]; decide), hbel⟩
        case measure => simp [intOf]; omega
      · have h1' : kz (x.toNat : Int) = 0 := h1
        have hw : (kz (x.toNat : Int) == 1) = false := by rw [h1']; rfl
        have hk0 : kz (x.toNat : Int) < 2 := by omega
        have hbad := bad_at hlt hgood (by rw [← HX.out]; exact h1)
        have HB := Lib.hid hbad
        have HG := Lib.hid hgood
        clear h1 h1' hgood hbad
        go_wp2_with (first | (go_at_call 91; refine (rWhite_any _ _).mono ?_; rintro e w' ⟨rfl, rfl⟩) | (go_at_call 66; refine (rDigit_no _ _ hk0).mono ?_; rintro e w' ⟨rfl, rfl⟩))
        go_ret3
        obtain ⟨e1, e2, e3⟩ := un_bad (l := l) (by rw [HB.out]; exact hlt)
        rw [e1, e2, e3, HB.out]
        exact ⟨none, 0, rfl, Nat.le_refl _, Sl.nil, hbel⟩
      · have hk2 : 2 ≤ kz (x.toNat : Int) := h1
        obtain ⟨d, hd⟩ : ∃ d : Nat, kz (x.toNat : Int) - 2 = (d : Int) := ⟨(kz (x.toNat : Int) - 2).toNat, by omega⟩
        have hd16 : d < 16 := by have := kz_bounds (x.toNat : Int); omega
        have hnd : (kb x - 2).toNat = d := by show (kz (x.toNat : Int) - 2).toNat = d; omega
        have HN := Lib.hid hnd
        have H1 := Lib.hid h1
        have HG := Lib.hid hgood
        have hkl := nibs_length (l.take k)
        have hll : (l.take k).length ≤ k := List.length_take_le _ _
        clear h1 hgood hnd
        go_wp2_with (first | (go_at_call 66; refine (rDigit_yes _ _ hk2).mono ?_; rintro e w' ⟨rfl, rfl⟩) | (at_builtin; refine wpList_append_lies _ rfl (.tmp 37) (.tmp 39) _ rfl w.heap.size 3 j0 (.int .i64 0) 1 8 Tryz.underlying48 ji jz0 jz1 jz2 rfl (by omega) u5 _ _ rfl (hown.alloc _) ⟨wr.heap.size, 0, none⟩ 1 1 [.int .i64 (d : Int)] rfl rfl (World.news_of_block (heap_alloc_new wr _)) (by intro u hu; simp at hu; subst hu; rfl) (by omega) (by unfold maxLen; omega) (by omega) (by simp; omega) _ rfl ?_; intro g cap w1 hown1 hgrow hat hgl))
        go_roundw
        case rel =>
          have e : nibs (l.take (k + 1)) = nibs (l.take k) ++ [d] := by rw [nibs_digit hlt HX.out H1.out, HN.out]
          refine ⟨k + 1, by omega, by go_num, ?_, good_snoc hlt HG.out (by rw [← HX.out]; have := H1.out; omega), (hbel.alloc hsz _).grown hgrow (by simp; omega) (fun q hq => (hown.lt q hq).1)⟩
          have e' : nvs (nibs (l.take (k + 1))) = nvs (nibs (l.take k)) ++ [.int .i64 (d : Int)] := by rw [e, nvs_append]; rfl
          have e'' : (nibs (l.take (k + 1))).length = (nibs (l.take k)).length + 1 := by rw [e]; simp
          rw [e', e'']
          exact hown1
        case measure => simp [intOf]; omega
    · have hkl : k = l.length := by omega
      obtain rfl : l.length = k := hkl.symm
      rw [List.take_of_length_le (Nat.le_refl _)] at hown hgood
      obtain ⟨e1, e2, e3⟩ := un_good hgood
      have E1 := Lib.hid e1
      have E2 := Lib.hid e2
      have E3 := Lib.hid e3
      have hnl := nibs_length l
      have hsz := hbel.size
      obtain ⟨nl, hnl'⟩ : ∃ nl, nl = nibs l := ⟨_, rfl⟩
      have hlt16 : ∀ d ∈ nl, d < 16 := fun d hd => nibs_lt (by rw [hnl'] at hd; exact hd)
      rw [← hnl'] at hown hnl
      have HN := Lib.hid hnl'
      have H16 := Lib.hid hlt16
      obtain ⟨c5, _, hc5, A5, hv5⟩ : ∃ c, True ∧ nl.length ≤ c ∧ ∃ A, u5 = .slice A nl.length c := by
        rcases hown.2 with ⟨rfl, h0⟩ | ⟨g, cap, cur, rfl, _, _, hnc, _⟩
        · exact ⟨0, trivial, by omega, none, by rw [h0]⟩
        · exact ⟨cap, trivial, hnc, _, rfl⟩
      subst hv5
      clear e1 e2 e3 hgood hnl' hlt16 hlt hk
      by_cases hodd : nl.length % 2 = 1
      · have t1 : ((nl.length : Int) % 2 == 1) = true := by simp; omega
        go_wp2_with (at_builtin; go_must (refine wpList_append_lies _ rfl (.tmp 45) (.tmp 46) _ rfl w.heap.size 3 j0 (.int .i64 0) 1 8 Tryz.underlying48 ji jz0 jz1 jz2 rfl (by omega) _ _ _ rfl (hown.alloc _) ⟨wr.heap.size, 0, none⟩ 1 1 [.int .i64 0] rfl rfl (World.news_of_block (heap_alloc_new wr _)) (by intro u hu; simp at hu; subst hu; rfl) (by omega) (by unfold maxLen; omega) (by omega) (by simp; omega) _ rfl ?_; intro g cap w1 hown1 hgrow hat hgl))
        obtain ⟨ds, hds⟩ : ∃ ds, ds = nl ++ [0] := ⟨_, rfl⟩
        have hdl : nl.length + 1 = ds.length := by rw [hds]; simp
        have hownL : w1.ownsRow w.heap.size 3 1 (.slice (some ⟨g, 0, none⟩) ds.length cap) ds.length (nvs ds) := by rw [← hdl, hds, nvs_append]; exact hown1
        have hbL : Below w.heap.size w w1 := (hbel.alloc hsz _).grown hgrow (by simp; omega) (fun q hq => (hown.lt q hq).1)
        have hpk := pack_evened l ds (.inr ⟨by rw [hds, HN.out], by rw [← HN.out]; exact hodd⟩)
        have h16 : ∀ d ∈ ds, d < 16 := fun d hd => by
          rw [hds] at hd
          rcases List.mem_append.1 hd with h | h
          · exact H16.out d h
          · simp at h; omega
        have hev : ds.length % 2 = 0 := by omega
        have hdle : ds.length ≤ 1048577 := by omega
        rw [hdl]
        clear hds hown1 hgrow hat hgl hown hodd t1 hdl hnl hbel hsz
        generalize (some (⟨g, 0, none⟩ : Addr)) = AL at *
        go_loopw [9, 10] (fun v i wr => ∃ k : Nat, 2 * k ≤ ds.length ∧ i = .int .i64 (2 * (k : Int)) ∧ wr.ownsRow w.heap.size 5 1 v k (bvs (pack (ds.take (2 * k)))) ∧ wr.ownsRow w.heap.size 3 1 (.slice AL ds.length cap) ds.length (nvs ds) ∧ Below w.heap.size w wr) (fun _ i _ => ds.length - (intOf i).toNat)
        case atStart => exact ⟨0, Nat.zero_le _, rfl, by simpa [pack, bvs] using World.ownsRow_nil _ _ _ _, hownL, hbL⟩
        case round =>
          obtain ⟨k, hk, rfl, ho, hoL, hbel2⟩ := hrel
          have hsz2 := hbel2.size
          by_cases hlt : 2 * k + 1 < ds.length
          · obtain ⟨gl, cl, hvl, hgb, hgl2⟩ := hoL.form (by omega)
            have hAe : AL = some ⟨gl, 0, none⟩ := by injection hvl
            subst hAe
            obtain ⟨a, ea⟩ : ∃ a, a = ds[2 * k]?.getD 0 := ⟨_, rfl⟩
            obtain ⟨b, eb⟩ : ∃ b, b = ds[2 * k + 1]?.getD 0 := ⟨_, rfl⟩
            have ha : a < 16 := h16 a (by rw [ea, List.getElem?_eq_getElem (by omega : 2 * k < ds.length)]; exact List.getElem_mem _)
            have hb : b < 16 := h16 b (by rw [eb, List.getElem?_eq_getElem hlt]; exact List.getElem_mem _)
            have hca : wr.cell? ⟨gl, 2 * k, none⟩ = some (.int .i64 (a : Int)) := by
              have := hoL.cells (g := gl) rfl (2 * k) _ (nvs_get ds (2 * k) (by omega))
              rw [addr_add] at this
              simpa [ea] using this
            have hcb : wr.cell? ⟨gl, 2 * k + 1, none⟩ = some (.int .i64 (b : Int)) := by
              have := hoL.cells (g := gl) rfl (2 * k + 1) _ (nvs_get ds (2 * k + 1) hlt)
              rw [addr_add] at this
              simpa [eb] using this
            have EA := Lib.hid ea
            have EB := Lib.hid eb
            have HH := Lib.hid h16
            have r0 : (0 : Int) ≤ 2 * (k : Int) := by omega
            have r1 : 2 * (k : Int) < (ds.length : Int) := by omega
            have r2 : (0 : Int) ≤ 2 * (k : Int) + 1 := by omega
            have r3 : 2 * (k : Int) + 1 < (ds.length : Int) := by omega
            have t0 : (2 * (k : Int)).toNat = 2 * k := by omega
            have t1' : (2 * (k : Int) + 1).toNat = 2 * k + 1 := by omega
            have v1 : IntKind.i64.wrap (2 * (k : Int) + 1) = 2 * (k : Int) + 1 := IntWalk.i64_in _ (by omega)
            have v2 : IntKind.i64.wrap (16 * (a : Int)) = 16 * (a : Int) := IntWalk.i64_in _ (by omega)
            have v3 : IntKind.i64.wrap (16 * (a : Int) + (b : Int)) = 16 * (a : Int) + (b : Int) := IntWalk.i64_in _ (by omega)
            have v4 : IntKind.u8.wrap (16 * (a : Int) + (b : Int)) = 16 * (a : Int) + (b : Int) := IntWalk.u8_in _ (by omega)
            have hne := own_ne hoL ho (by decide)
            clear ea eb h16 hvl
            go_wp2
            go_region_held_law (fun w' => w'.cell? ⟨gl, 2 * k, none⟩ = some (.int .i64 (a : Int)) ∧ w'.cell? ⟨gl, 2 * k + 1, none⟩ = some (.int .i64 (b : Int)))
              (first | exact ⟨hca, hcb⟩ | exact ⟨(World.cell?_alloc_lt _ _ _ (show gl < wr.heap.size by omega)).trans hca, (World.cell?_alloc_lt _ _ _ (show gl < wr.heap.size by omega)).trans hcb⟩ | exact ⟨hca1, hcb1⟩)
              ((refine step_append_lies _ (by rfl) _ _ _ (by rfl) w.heap.size 5 i0 (.int .u8 0) 1 1 Tryz.underlying93 hi hz0 hz1 hz2 rfl (by omega) u9 k (bvs (pack (ds.take (2 * k)))) (by rfl) (ho.alloc _).drew ⟨wr.heap.size, 0, none⟩ 1 1 [.int .u8 (16 * (a : Int) + (b : Int))] (by rfl) (by rfl) (World.news_of_block (heap_alloc_new wr _)) (by intro u hu; simp at hu; subst hu; rfl) (by omega) (by unfold maxLen; omega) (by omega) (by simp; omega) _ rfl ?_; intro g2 cap2 w3 hown3 hgrow3 hat3 hgl3; have hoL3 := ((hoL.alloc (.cells #[.int .u8 (16 * (a : Int) + (b : Int))] 5)).drew).kept hgrow3 hne; have hca1 : w3.cell? ⟨gl, 2 * k, none⟩ = some (.int .i64 (a : Int)) := own_at hoL3 _ _ (by rw [nvs_get ds (2 * k) (by omega), ← EA.out]); have hcb1 : w3.cell? ⟨gl, 2 * k + 1, none⟩ = some (.int .i64 (b : Int)) := own_at hoL3 _ _ (by rw [nvs_get ds (2 * k + 1) hlt, ← EB.out])))
            all_goals
              have hown4 : w3.ownsRow w.heap.size 5 1 (.slice (some ⟨g2, 0, none⟩) (k + 1) cap2) (k + 1) (bvs (pack (ds.take (2 * (k + 1))))) := by
                have e0 : ((UInt8.ofNat (16 * a + b)).toNat : Int) = 16 * (a : Int) + (b : Int) := by rw [byte_toNat _ (by omega)]; omega
                have e1 : bvs (pack (ds.take (2 * (k + 1)))) = bvs (pack (ds.take (2 * k))) ++ [.int .u8 (16 * (a : Int) + (b : Int))] := by
                  rw [show 2 * (k + 1) = 2 * k + 2 by omega, pack_two ds k hlt, ← EA.out, ← EB.out, bvs_append]
                  simp only [bvs, List.map_cons, List.map_nil, e0]
                rw [e1]; exact hown3
              have hbel3 : Below w.heap.size w w3 := ((hbel2.alloc hsz2 _).drew).grown hgrow3 (by simp; omega) (fun q hq => (ho.lt q hq).1)
              clear hown3 hgrow3 hat3 hgl3 hca hcb hca1 hcb1 v1 v2 v3 v4 t0 t1'
              go_wp2
              go_roundw
              case rel => exact ⟨k + 1, by omega, by go_num, hown4, hoL3, hbel3⟩
              case measure => simp [intOf]; omega
          · have e2k : 2 * k = ds.length := by omega
            rw [e2k, List.take_of_length_le (Nat.le_refl _), hpk] at ho
            obtain ⟨c', en, hc', A', hv, hsl⟩ := Sl.of_own ho
            subst hv
            have P1 := Lib.hid e2k
            have P2 := Lib.hid hpk
            have P3 := Lib.hid en
            have P4 := Lib.hid h16
            clear e2k hpk en h16
            go_wp2
            go_ret3
            rw [E1.out, E2.out, E3.out]
            exact ⟨A', c', rfl, by have := P3.out; omega, hsl, hbel2⟩
      · have t1 : ((nl.length : Int) % 2 == 1) = false := by rw [beq_eq_false_iff_ne]; omega
        go_wp2
        have hpk := pack_evened l nl (.inl HN.out)
        have hev : nl.length % 2 = 0 := by omega
        have hdle : nl.length ≤ 1048577 := by omega
        have h16 := H16.out
        go_loopw [9, 10] (fun v i wr => ∃ k : Nat, 2 * k ≤ nl.length ∧ i = .int .i64 (2 * (k : Int)) ∧ wr.ownsRow w.heap.size 5 1 v k (bvs (pack (nl.take (2 * k)))) ∧ wr.ownsRow w.heap.size 3 1 (.slice A5 nl.length c5) nl.length (nvs nl) ∧ Below w.heap.size w wr) (fun _ i _ => nl.length - (intOf i).toNat)
        case atStart => exact ⟨0, Nat.zero_le _, rfl, by simpa [pack, bvs] using World.ownsRow_nil _ _ _ _, hown, hbel⟩
        case round =>
          obtain ⟨k, hk, rfl, ho, hoL, hbel2⟩ := hrel
          have hsz2 := hbel2.size
          by_cases hlt : 2 * k + 1 < nl.length
          · obtain ⟨gl, cl, hvl, hgb, hgl2⟩ := hoL.form (by omega)
            have hAe : A5 = some ⟨gl, 0, none⟩ := by injection hvl
            subst hAe
            obtain ⟨a, ea⟩ : ∃ a, a = nl[2 * k]?.getD 0 := ⟨_, rfl⟩
            obtain ⟨b, eb⟩ : ∃ b, b = nl[2 * k + 1]?.getD 0 := ⟨_, rfl⟩
            have ha : a < 16 := h16 a (by rw [ea, List.getElem?_eq_getElem (by omega : 2 * k < nl.length)]; exact List.getElem_mem _)
            have hb : b < 16 := h16 b (by rw [eb, List.getElem?_eq_getElem hlt]; exact List.getElem_mem _)
            have hca : wr.cell? ⟨gl, 2 * k, none⟩ = some (.int .i64 (a : Int)) := by
              have := hoL.cells (g := gl) rfl (2 * k) _ (nvs_get nl (2 * k) (by omega))
              rw [addr_add] at this
              simpa [ea] using this
            have hcb : wr.cell? ⟨gl, 2 * k + 1, none⟩ = some (.int .i64 (b : Int)) := by
              have := hoL.cells (g := gl) rfl (2 * k + 1) _ (nvs_get nl (2 * k + 1) hlt)
              rw [addr_add] at this
              simpa [eb] using this
            have EA := Lib.hid ea
            have EB := Lib.hid eb
            have HH := Lib.hid h16
            have r0 : (0 : Int) ≤ 2 * (k : Int) := by omega
            have r1 : 2 * (k : Int) < (nl.length : Int) := by omega
            have r2 : (0 : Int) ≤ 2 * (k : Int) + 1 := by omega
            have r3 : 2 * (k : Int) + 1 < (nl.length : Int) := by omega
            have t0 : (2 * (k : Int)).toNat = 2 * k := by omega
            have t1' : (2 * (k : Int) + 1).toNat = 2 * k + 1 := by omega
            have v1 : IntKind.i64.wrap (2 * (k : Int) + 1) = 2 * (k : Int) + 1 := IntWalk.i64_in _ (by omega)
            have v2 : IntKind.i64.wrap (16 * (a : Int)) = 16 * (a : Int) := IntWalk.i64_in _ (by omega)
            have v3 : IntKind.i64.wrap (16 * (a : Int) + (b : Int)) = 16 * (a : Int) + (b : Int) := IntWalk.i64_in _ (by omega)
            have v4 : IntKind.u8.wrap (16 * (a : Int) + (b : Int)) = 16 * (a : Int) + (b : Int) := IntWalk.u8_in _ (by omega)
            have hne := own_ne hoL ho (by decide)
            clear ea eb h16 hvl
            go_wp2
            go_region_held_law (fun w' => w'.cell? ⟨gl, 2 * k, none⟩ = some (.int .i64 (a : Int)) ∧ w'.cell? ⟨gl, 2 * k + 1, none⟩ = some (.int .i64 (b : Int)))
              (first | exact ⟨hca, hcb⟩ | exact ⟨(World.cell?_alloc_lt _ _ _ (show gl < wr.heap.size by omega)).trans hca, (World.cell?_alloc_lt _ _ _ (show gl < wr.heap.size by omega)).trans hcb⟩ | exact ⟨hca1, hcb1⟩)
              ((refine step_append_lies _ (by rfl) _ _ _ (by rfl) w.heap.size 5 i0 (.int .u8 0) 1 1 Tryz.underlying93 hi hz0 hz1 hz2 rfl (by omega) u9 k (bvs (pack (nl.take (2 * k)))) (by rfl) (ho.alloc _).drew ⟨wr.heap.size, 0, none⟩ 1 1 [.int .u8 (16 * (a : Int) + (b : Int))] (by rfl) (by rfl) (World.news_of_block (heap_alloc_new wr _)) (by intro u hu; simp at hu; subst hu; rfl) (by omega) (by unfold maxLen; omega) (by omega) (by simp; omega) _ rfl ?_; intro g2 cap2 w3 hown3 hgrow3 hat3 hgl3; have hoL3 := ((hoL.alloc (.cells #[.int .u8 (16 * (a : Int) + (b : Int))] 5)).drew).kept hgrow3 hne; have hca1 : w3.cell? ⟨gl, 2 * k, none⟩ = some (.int .i64 (a : Int)) := own_at hoL3 _ _ (by rw [nvs_get nl (2 * k) (by omega), ← EA.out]); have hcb1 : w3.cell? ⟨gl, 2 * k + 1, none⟩ = some (.int .i64 (b : Int)) := own_at hoL3 _ _ (by rw [nvs_get nl (2 * k + 1) hlt, ← EB.out])))
            all_goals
              have hown4 : w3.ownsRow w.heap.size 5 1 (.slice (some ⟨g2, 0, none⟩) (k + 1) cap2) (k + 1) (bvs (pack (nl.take (2 * (k + 1))))) := by
                have e0 : ((UInt8.ofNat (16 * a + b)).toNat : Int) = 16 * (a : Int) + (b : Int) := by rw [byte_toNat _ (by omega)]; omega
                have e1 : bvs (pack (nl.take (2 * (k + 1)))) = bvs (pack (nl.take (2 * k))) ++ [.int .u8 (16 * (a : Int) + (b : Int))] := by
                  rw [show 2 * (k + 1) = 2 * k + 2 by omega, pack_two nl k hlt, ← EA.out, ← EB.out, bvs_append]
                  simp only [bvs, List.map_cons, List.map_nil, e0]
                rw [e1]; exact hown3
              have hbel3 : Below w.heap.size w w3 := ((hbel2.alloc hsz2 _).drew).grown hgrow3 (by simp; omega) (fun q hq => (ho.lt q hq).1)
              clear hown3 hgrow3 hat3 hgl3 hca hcb hca1 hcb1 v1 v2 v3 v4 t0 t1'
              go_wp2
              go_roundw
              case rel => exact ⟨k + 1, by omega, by go_num, hown4, hoL3, hbel3⟩
              case measure => simp [intOf]; omega
          · have e2k : 2 * k = nl.length := by omega
            rw [e2k, List.take_of_length_le (Nat.le_refl _), hpk] at ho
            obtain ⟨c', en, hc', A', hv, hsl⟩ := Sl.of_own ho
            subst hv
            have P1 := Lib.hid e2k
            have P2 := Lib.hid hpk
            have P3 := Lib.hid en
            have P4 := Lib.hid h16
            clear e2k hpk en h16
            go_wp2
            go_ret3
            rw [E1.out, E2.out, E3.out]
            exact ⟨A', c', rfl, by have := P3.out; omega, hsl, hbel2⟩
end Go.Proofs.YthcnjiigkmljnaaGreatDoor
/-
  The document's own Class and place (layer 3): what they answer, for every number.
-/
namespace Go.Proofs.YthcnjiigkmljnaaGreatDoor
open Go.RowKit

set_option maxHeartbeats 400000 in
theorem rplace_any (l : List UInt8) (a : Int) (w : World) :
    Calls Tryz.prog 64 #[.string (str l), .int .i64 a] w fun e w' => e = .returned (.int .i64 (pl l.length a : Nat)) ∧ w = w' := by
  go_enter Tryz.func64, Tryz.ntmps64
  go_wp2
  all_goals
    go_ret
    refine ⟨congrArg (fun n : Int => Ending.returned (.int .i64 n)) ?_, rfl⟩
    unfold pl
    omega

/-- The delimiters, as the document's own text has them. -/
def dls : List UInt8 := [40, 41, 60, 62, 91, 93, 123, 125, 47, 37]
theorem dls_get : ∀ n : Fin 10, (ByteArray.mk #[40, 41, 60, 62, 91, 93, 123, 125, 47, 37])[n.val]'n.isLt = dls[n.val]?.getD 0 := by decide
theorem dls_at (n : Nat) (h : n < (ByteArray.mk #[40, 41, 60, 62, 91, 93, 123, 125, 47, 37]).size) : (ByteArray.mk #[40, 41, 60, 62, 91, 93, 123, 125, 47, 37])[n]'h = dls[n]?.getD 0 := dls_get ⟨n, h⟩
theorem dls_dl : ∀ n : Fin 10, dl ((dls[n.val]?.getD 0).toNat : Int) := by decide
theorem dl_dls {c : Int} (h : dl c) : ∃ d : Nat, d < 10 ∧ c = ((dls[d]?.getD 0).toNat : Int) := by
  rcases h with rfl | rfl | rfl | rfl | rfl | rfl | rfl | rfl | rfl | rfl
  · exact ⟨0, by decide, by decide⟩
  · exact ⟨2, by decide, by decide⟩
  · exact ⟨4, by decide, by decide⟩
  · exact ⟨6, by decide, by decide⟩
  · exact ⟨1, by decide, by decide⟩
  · exact ⟨3, by decide, by decide⟩
  · exact ⟨5, by decide, by decide⟩
  · exact ⟨7, by decide, by decide⟩
  · exact ⟨8, by decide, by decide⟩
  · exact ⟨9, by decide, by decide⟩
theorem dl_white {c : Int} (h : dl c) : (kz c == 1) = false := by
  rcases h with rfl | rfl | rfl | rfl | rfl | rfl | rfl | rfl | rfl | rfl <;> decide

set_option maxHeartbeats 1000000 in
theorem rClass_any (c : Int) (w : World) :
    Calls Tryz.prog 65 #[.int .i64 c] w fun e w' => e = .returned (.int .i64 (cls c)) ∧ w = w' := by
  cases hw : (kz c == 1) with
  | true =>
    have h : ¬ dl c := fun h => by rw [dl_white h] at hw; cases hw
    have e : cls c = 1 := by unfold cls; rw [if_neg h, if_pos (by simpa using hw)]
    rw [e]
    clear e h
    go_enter Tryz.func65, Tryz.ntmps65
    go_wp2_with (go_at_call 91; refine (rWhite_any _ _).mono ?_; rintro e w' ⟨rfl, rfl⟩)
    go_ret
    exact ⟨rfl, rfl⟩
  | false =>
    have hk : ¬ kz c = 1 := by simpa using hw
    have hcls : cls c = if dl c then 2 else 0 := by unfold cls; rw [if_neg hk]
    have HC := Lib.hid hcls
    have hat := dls_at
    clear hk hcls
    go_enter Tryz.func65, Tryz.ntmps65
    go_wp2_with (go_at_call 91; refine (rWhite_any _ _).mono ?_; rintro e w' ⟨rfl, rfl⟩)
    go_loop [4] (fun i => ∃ k : Nat, k ≤ 10 ∧ i = .int .i64 k ∧ Hid (∀ j, j < k → c ≠ ((dls[j]?.getD 0).toNat : Int))) (fun i => 16 - (intOf i).toNat)
    case atStart => exact ⟨0, Nat.zero_le _, rfl, fun j hj => absurd hj (Nat.not_lt_zero _)⟩
    case round =>
      obtain ⟨k, hk, rfl, HN⟩ := hrel
      by_cases hlt : k < 10
      · obtain ⟨y, hy⟩ : ∃ y, y = dls[k]?.getD 0 := ⟨_, rfl⟩
        have hat' : ∀ h, (ByteArray.mk #[40, 41, 60, 62, 91, 93, 123, 125, 47, 37])[k]'h = y := fun h => (hat k h).trans hy.symm
        have hy1 := y.toNat_lt
        have HY := Lib.hid hy
        clear hat hy
        by_cases hc : ((y.toNat : Int) == c) = true
        · go_wp2
          go_ret
          have hcy : c = ((dls[k]?.getD 0).toNat : Int) := by rw [← HY.out]; exact (beq_iff_eq.1 hc).symm
          have hd : dl c := by rw [hcy]; exact dls_dl ⟨k, hlt⟩
          rw [HC.out, if_pos hd]
          exact ⟨rfl, rfl⟩
        · have hc' : ((y.toNat : Int) == c) = false := by simpa using hc
          clear hc
          go_wp2
          go_round
          case rel =>
            refine ⟨k + 1, by omega, by go_num, fun j hj => ?_⟩
            by_cases e : j = k
            · subst e; rw [← HY.out]; intro e; rw [e] at hc'; simp at hc'
            · exact HN.out j (by omega)
          case measure => simp [intOf]; omega
      · obtain rfl : k = 10 := by omega
        go_wp2
        go_ret
        have hd : ¬ dl c := fun h => by
          obtain ⟨d, h1, h2⟩ := dl_dls h
          exact HN.out d h1 h2
        rw [HC.out, if_neg hd]
        exact ⟨rfl, rfl⟩
end Go.Proofs.YthcnjiigkmljnaaGreatDoor
/-
  The document's own Word: regular bytes in a row from a place on.
-/
namespace Go.Proofs.YthcnjiigkmljnaaGreatDoor
open Go.RowKit

set_option maxHeartbeats 1000000 in
theorem rWord_any (l : List UInt8) (a : Int) (w : World) (hl : l.length ≤ 4294967296) :
    Calls Tryz.prog 43 #[.string (str l), .int .i64 a] w fun e w' => e = .returned (.tuple #[.string (str (wdL l a)), .int .i64 (wdN l a : Nat)]) ∧ w = w' := by
  have hp := pl_le l.length a
  have hW : ∀ w, Calls Tryz.prog 64 #[.string (str l), .int .i64 a] w fun e w' => e = .returned (.int .i64 (pl l.length a : Nat)) ∧ w = w' := fun w => rplace_any l a w
  have hn : wdN l a = pl l.length a + wn (l.drop (pl l.length a)) := rfl
  have hd : wdL l a = (l.drop (pl l.length a)).take (wdN l a - pl l.length a) := by rw [hn]; unfold wdL; congr 1; omega
  have hN := wdN_le l a
  generalize wdN l a = N at *
  generalize wdL l a = D at *
  generalize pl l.length a = p at *
  have HW := Lib.hid hW
  have HD := Lib.hid hd
  have HN := Lib.hid hn
  have hpN : p ≤ N := by omega
  clear hW hd hn
  go_enter Tryz.func43, Tryz.ntmps43
  go_wp2_with (go_at_call 64; refine (HW.out _).mono ?_; rintro e w' ⟨rfl, rfl⟩)
  go_loop [7] (fun i => ∃ k : Nat, p ≤ k ∧ k ≤ l.length ∧ i = .int .i64 k ∧ Hid (k + wn (l.drop k) = N)) (fun i => l.length - (intOf i).toNat)
  case atStart => exact ⟨p, Nat.le_refl _, hp, rfl, HN.out.symm⟩
  case round =>
    obtain ⟨k, hpk, hk, rfl, HE⟩ := hrel
    by_cases hlt : k < l.length
    · obtain ⟨x, hx⟩ : ∃ x, x = l[k]?.getD 0 := ⟨_, rfl⟩
      have hgs : ∀ h, (str l)[k]'h = x := fun h => (get_str l k h).trans hx.symm
      have hx1 := x.toNat_lt
      have hC : ∀ w, Calls Tryz.prog 65 #[.int .i64 (x.toNat : Int)] w fun e w' => e = .returned (.int .i64 (cb x)) ∧ w = w' := fun w => rClass_any _ w
      have HC := Lib.hid hC
      have hdr := drop_at hlt hx
      cases hr : rg x with
      | true =>
        have hr' : (cb x == 0) = true := hr
        have hst : (k + 1) + wn (l.drop (k + 1)) = N := by have := HE.out; rw [hdr, wn_y _ hr] at this; omega
        have HS := Lib.hid hst
        clear hx hC hdr hst hr
        generalize cb x = cx at *
        go_wp2_with (go_at_call 65; refine (HC.out _).mono ?_; rintro e w' ⟨rfl, rfl⟩)
        go_round
        case rel => exact ⟨k + 1, by omega, by omega, by go_num, HS⟩
        case measure => simp [intOf]; omega
      | false =>
        have hr' : (cb x == 0) = false := hr
        have hkN : k = N := by have := HE.out; rw [hdr, wn_n _ hr] at this; omega
        subst hkN
        have hsl := run_mid (P := Tryz.prog) l p k hpk hk 9 Tryz.underlying9
        rw [← HD.out] at hsl
        clear hx hC hdr hr
        generalize cb x = cx at *
        go_wp2_with (go_at_call 65; refine (HC.out _).mono ?_; rintro e w' ⟨rfl, rfl⟩)
        go_ret2
        exact ⟨rfl, rfl⟩
    · have hkN : k = N := by have := HE.out; rw [List.drop_eq_nil_of_le (by omega), wn] at this; omega
      subst hkN
      have hsl := run_mid (P := Tryz.prog) l p k hpk hk 9 Tryz.underlying9
      rw [← HD.out] at hsl
      go_wp2
      go_ret2
      exact ⟨rfl, rfl⟩
end Go.Proofs.YthcnjiigkmljnaaGreatDoor
