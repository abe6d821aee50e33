/-
  The program's parser: codes, with each of its two tests.
-/
import Derived.Test.YthcnjiigkmljnaaGreatDoorPart3
namespace Go.Proofs.YthcnjiigkmljnaaGreatDoor
open Go.RowKit

theorem Bk.set {w : World} {b : Nat} {x y : Value} (h : Bk w b x y) (x' y' : Value) : Bk ((w.setCell ⟨b, 0, none⟩ x').setCell ⟨b, 1, none⟩ y') b x' y' := by
  obtain ⟨h0, h1, h2, h3, hl⟩ := h
  obtain ⟨k0, k1⟩ := two_set h0 h1 x' y'
  exact ⟨k0, k1, by simp [h2], by simp [h3], by simpa using hl⟩
theorem Bk.off {w : World} {b S : Nat} {x y : Value} (h : Bk w b x y) (hne : S ≠ b) (k : Nat) (v : Value) : Bk (w.setCell ⟨S, k, none⟩ v) b x y := by
  obtain ⟨h0, h1, h2, h3, hl⟩ := h
  exact ⟨(World.cell?_setCell_far w ⟨S, k, none⟩ ⟨b, 0, none⟩ v hne).trans h0, (World.cell?_setCell_far w ⟨S, k, none⟩ ⟨b, 1, none⟩ v hne).trans h1, by simp [h2], by simp [h3], by simpa using hl⟩
theorem codeT_len {L : List Tk} {en : Int} {i j : Nat} {x : Cd × Int} (h : codeT L en i = .ok x j) : (codeL x.1.n x.1.v).length = x.1.n.toNat := by
  unfold codeT at h
  cases ht : takeT L en 4 i with
  | no a e => rw [ht, then_no] at h; cases h
  | ok t k =>
    rw [ht, then_ok] at h
    by_cases hv : 1 ≤ t.s.length ∧ t.s.length ≤ 4
    · rw [if_pos hv] at h
      injection h with h1 h2
      subst h1
      have hb := num_bounds t.s.length t.s (Nat.le_refl _)
      have hs : saneB (t.s.length : Int) (num t.s) = true := (saneB_iff _ _).2 ⟨by omega, by omega, hb.1, by simpa using hb.2⟩
      show (codeL (t.s.length : Int) (num t.s)).length = (t.s.length : Int).toNat
      unfold codeL
      rw [if_pos hs, beL_length]
    · rw [if_neg hv] at h; cases h
theorem oc_len {L : List Tk} {en : Int} {i i' : Nat} {a e a' e' : Int} {x : Cd × Int} (h : Oc (codeT L en i) (fun x => x.1 = ⟨0, 0⟩) i a e x i' a' e') : (codeL x.1.n x.1.v).length = x.1.n.toNat := by
  have hz : (codeL 0 0).length = (0 : Int).toNat := by decide
  rcases h with ⟨_, _, _, _, h⟩ | ⟨_, _, _, h⟩ | ⟨_, h, _, _⟩
  · rw [h]; exact hz
  · rw [h]; exact hz
  · exact codeT_len h
theorem fE_ne (g e : Int) (hg : g ≠ 0) : fE true g e ≠ 0 := by
  unfold fE
  by_cases h : e = 0
  · rw [if_pos ⟨rfl, h⟩]; exact hg
  · rw [if_neg (fun k => h k.2)]; exact h

section
variable {w : World} {P : Nat} {A : Option Addr} {c : Nat} {L : List Tk} {i : Nat} {en a e : Int} {vc vi : Value}

set_option maxRecDepth 100000 in
set_option maxHeartbeats 8000000 in
theorem qcodes_num (h : Qs w P A c L i en vc vi a e) (hi : i ≤ L.length) (hL : Sm L) :
    Calls Tryz.prog 111 #[.pointer (some ⟨P, 0, none⟩), .func (.func 113) #[] #[]] w fun r w' => ∃ (x : Cd × Cd) (i' : Nat) (a' e' : Int), r = .returned (.tuple #[.agg #[.int .i64 x.1.n, .int .i64 x.1.v], .agg #[.int .i64 x.2.n, .int .i64 x.2.v]]) ∧ (Bc x.1 ∧ Bc x.2) ∧ Qs w' P A c L i' en vc vi a' e' ∧ i' ≤ L.length ∧ Fr w w' P ∧ Oc (pairT L en false i) (fun _ => True) i a e x i' a' e' := by
  have hlt := h.lt
  have hT := qcode_any ((h.alloc (.cells #[.int .i64 0, .int .i64 0] 47)).alloc (.cells #[.int .i64 0, .int .i64 0] 47)) hi hL
  have HT := Lib.hid hT
  clear hT h
  have n1 : w.heap.size + 1 ≠ w.heap.size := by omega
  have n2 : w.heap.size ≠ w.heap.size + 1 := by omega
  have nS : w.heap.size ≠ P := by omega
  have nT : w.heap.size + 1 ≠ P := by omega
  have hltS : P < w.heap.size + 1 := by omega
  go_enter Tryz.func111, Tryz.ntmps111
  go_wp2_with fail
  refine HT.out.mono ?_
  rintro r w1 ⟨x, i1, a1, e1, rfl, hp1, hi1, hf1, hoc1⟩
  obtain ⟨⟨ln, lv⟩, lat⟩ := x
  simp only
  clear HT
  have s1 : Bk w1 w.heap.size (.int .i64 0) (.int .i64 0) := ((Bk.new w _ _ 47).more (.cells #[.int .i64 0, .int .i64 0] 47)).fr nS hf1
  have t1 : Bk w1 (w.heap.size + 1) (.int .i64 0) (.int .i64 0) := by
    have hk := Bk.new (w.alloc (.cells #[.int .i64 0, .int .i64 0] 47)) (.int .i64 0) (.int .i64 0) 47
    have e1 : (w.alloc (.cells #[.int .i64 0, .int .i64 0] 47)).heap.size = w.heap.size + 1 := by simp
    rw [e1] at hk
    exact hk.fr nT hf1
  have hfa : Fr w w1 P := (((Fr.refl w P).alloc (.cells #[.int .i64 0, .int .i64 0] 47)).alloc (.cells #[.int .i64 0, .int .i64 0] 47)).trans hf1
  have hp1' := (hp1.far hlt 0 (.int .i64 ln)).far hlt 1 (.int .i64 lv)
  have hf1' := (hfa.far (Nat.le_refl _) 0 (.int .i64 ln)).far (Nat.le_refl _) 1 (.int .i64 lv)
  have s1' := s1.set (.int .i64 ln) (.int .i64 lv)
  have t1' := (t1.off n2 0 (.int .i64 ln)).off n2 1 (.int .i64 lv)
  have hT2 := qcode_any hp1' hi1 hL
  have HT2 := Lib.hid hT2
  have HS1 := Lib.hid s1'
  have HT1 := Lib.hid t1'
  obtain ⟨b0, b1, b2, b3, b4⟩ := s1
  clear hT2 t1 hf1 hp1
  go_wp2_with fail
  refine HT2.out.mono ?_
  rintro r w2 ⟨y, i2, a2, e2, rfl, hp2, hi2, hf2, hoc2⟩
  obtain ⟨⟨hn, hv⟩, hat⟩ := y
  simp only
  clear HT2 b0 b1 b2 b3 b4
  have s2 := HS1.out.fr nS hf2
  have t2 := HT1.out.fr nT hf2
  have hf2a := hf1'.trans hf2
  have hp2' := (hp2.far hltS 0 (.int .i64 hn)).far hltS 1 (.int .i64 hv)
  have hf2' := (hf2a.far (Nat.le_succ _) 0 (.int .i64 hn)).far (Nat.le_succ _) 1 (.int .i64 hv)
  have s2' := (s2.off n1 0 (.int .i64 hn)).off n1 1 (.int .i64 hv)
  have t2' := t2.set (.int .i64 hn) (.int .i64 hv)
  have hoc := pair_oc (rect := false) hoc1 hoc2
  have hbc := And.intro (oc_bc hoc1) (oc_bc hoc2)
  have hl1 := oc_len hoc1
  have hl2 := oc_len hoc2
  simp only at hoc hbc hl1 hl2
  have hW : hn = ln → ∀ w, Calls Tryz.prog 113 #[.agg #[.int .i64 ln, .int .i64 lv], .agg #[.int .i64 hn, .int .i64 hv]] w fun r w' => r = .returned (.bool (badP false ⟨ln, lv⟩ ⟨hn, hv⟩)) ∧ Below w.heap.size w w' := fun he w => by
    have e1 : badP false ⟨ln, lv⟩ ⟨hn, hv⟩ = decide (hv < lv) := by simp [badP]
    rw [e1]
    exact qbelow_any ln lv hn hv w
  clear hl1 hl2 hoc1 hoc2
  have HQ := Lib.hid hp2'
  have HF := Lib.hid hf2'
  have HS := Lib.hid s2'
  have HTt := Lib.hid t2'
  obtain ⟨p0, p1, p2, p3, p4⟩ := s2
  obtain ⟨q0, q1, q2, q3, q4⟩ := t2
  clear hp2 hp2' hf2' s2' t2' hf1' hp1' s1' t1' hfa hf2a hf2
  generalize hbd : badP false ⟨ln, lv⟩ ⟨hn, hv⟩ = bd at *
  clear hbd
  cases hq : (hn != ln) with
  | true =>
    rw [hq, fA_err (fE_ne 12 e2 (by decide)), fE_err (fE_ne 12 e2 (by decide))] at hoc
    have HOC := Lib.hid hoc
    clear hoc hW
    have hF := qfail_any HQ.out hat 12
    have HFl := Lib.hid hF
    clear hF
    go_wp2_with fail
    refine HFl.out.mono ?_
    rintro r w3 ⟨rfl, hp3, hf3⟩
    have s3 := HS.out.fr nS hf3
    have t3 := HTt.out.fr nT hf3
    have hf3' := HF.out.trans hf3
    have s3' := s3
    have t3' := t3
    obtain ⟨p0, p1, p2, p3, p4⟩ := s3
    obtain ⟨q0, q1, q2, q3, q4⟩ := t3
    clear HFl
    go_wp2
    go_region
    go_wp2
    obtain ⟨e0, e1', e2', e3⟩ := four_set s3' t3' n2 (.int .i64 ln) (.int .i64 lv) (.int .i64 hn) (.int .i64 hv)
    have E0 := cell_drew e0
    have E1 := cell_drew e1'
    have E2 := cell_drew e2'
    have E3 := cell_drew e3
    simp only [fA_t] at hp3
    refine bodyPost_ret (v := _) (by simp [results, Tryz.results111, go_sem, E0, E1, E2, E3]; try rfl) rfl ⟨(⟨ln, lv⟩, ⟨hn, hv⟩), i2, _, _, rfl, hbc, ((((hp3.far hlt 0 _).far hlt 1 _).far hltS 0 _).far hltS 1 _).drew, hi2, ((((hf3'.far (Nat.le_refl _) 0 _).far (Nat.le_refl _) 1 _).far (Nat.le_succ _) 0 _).far (Nat.le_succ _) 1 _).drew, HOC.out⟩
  | false =>
    rw [hq, fA_no, fE_no] at hoc
    have hWw := hW (by simpa using hq)
    have HW := Lib.hid hWw
    have HOC := Lib.hid hoc
    clear hoc hW hWw
    cases bd with
    | false =>
      go_wp2_with fail
      refine (HW.out _).mono ?_
      rintro r w3 ⟨rfl, hb3⟩
      have s3 := HS.out.over hb3
      have t3 := HTt.out.over hb3
      have hp3 := HQ.out.over hb3
      have hf3' := HF.out.over hb3
      have s3' := s3
      have t3' := t3
      obtain ⟨p0, p1, p2, p3, p4⟩ := s3
      obtain ⟨q0, q1, q2, q3, q4⟩ := t3
      clear HW
      go_wp2
      go_region
      go_wp2
      obtain ⟨e0, e1', e2', e3⟩ := four_set s3' t3' n2 (.int .i64 ln) (.int .i64 lv) (.int .i64 hn) (.int .i64 hv)
      have E0 := cell_drew e0
      have E1 := cell_drew e1'
      have E2 := cell_drew e2'
      have E3 := cell_drew e3
      have hO := HOC.out
      rw [fA_no, fE_no] at hO
      refine bodyPost_ret (v := _) (by simp [results, Tryz.results111, go_sem, E0, E1, E2, E3]; try rfl) rfl ⟨(⟨ln, lv⟩, ⟨hn, hv⟩), i2, _, _, rfl, hbc, ((((hp3.far hlt 0 _).far hlt 1 _).far hltS 0 _).far hltS 1 _).drew, hi2, ((((hf3'.far (Nat.le_refl _) 0 _).far (Nat.le_refl _) 1 _).far (Nat.le_succ _) 0 _).far (Nat.le_succ _) 1 _).drew, hO⟩
    | true =>
      go_wp2_with fail
      refine (HW.out _).mono ?_
      rintro r w3 ⟨rfl, hb3⟩
      have hF := qfail_any (HQ.out.over hb3) hat 7
      have HFl := Lib.hid hF
      have HS3 := Lib.hid (HS.out.over hb3)
      have HT3 := Lib.hid (HTt.out.over hb3)
      have HF3 := Lib.hid (HF.out.over hb3)
      clear hF HW
      go_wp2_with fail
      refine HFl.out.mono ?_
      rintro r w4 ⟨rfl, hp4, hf4⟩
      have s4 := HS3.out.fr nS hf4
      have t4 := HT3.out.fr nT hf4
      have hf4' := HF3.out.trans hf4
      have s4' := s4
      have t4' := t4
      obtain ⟨p0, p1, p2, p3, p4⟩ := s4
      obtain ⟨q0, q1, q2, q3, q4⟩ := t4
      clear HFl
      go_wp2
      go_region
      go_wp2
      obtain ⟨e0, e1', e2', e3⟩ := four_set s4' t4' n2 (.int .i64 ln) (.int .i64 lv) (.int .i64 hn) (.int .i64 hv)
      have E0 := cell_drew e0
      have E1 := cell_drew e1'
      have E2 := cell_drew e2'
      have E3 := cell_drew e3
      simp only [fA_t] at hp4
      refine bodyPost_ret (v := _) (by simp [results, Tryz.results111, go_sem, E0, E1, E2, E3]; try rfl) rfl ⟨(⟨ln, lv⟩, ⟨hn, hv⟩), i2, _, _, rfl, hbc, ((((hp4.far hlt 0 _).far hlt 1 _).far hltS 0 _).far hltS 1 _).drew, hi2, ((((hf4'.far (Nat.le_refl _) 0 _).far (Nat.le_refl _) 1 _).far (Nat.le_succ _) 0 _).far (Nat.le_succ _) 1 _).drew, HOC.out⟩

set_option maxRecDepth 100000 in
set_option maxHeartbeats 8000000 in
theorem qcodes_rect (h : Qs w P A c L i en vc vi a e) (hi : i ≤ L.length) (hL : Sm L) :
    Calls Tryz.prog 111 #[.pointer (some ⟨P, 0, none⟩), .func (.func 112) #[] #[]] w fun r w' => ∃ (x : Cd × Cd) (i' : Nat) (a' e' : Int), r = .returned (.tuple #[.agg #[.int .i64 x.1.n, .int .i64 x.1.v], .agg #[.int .i64 x.2.n, .int .i64 x.2.v]]) ∧ (Bc x.1 ∧ Bc x.2) ∧ Qs w' P A c L i' en vc vi a' e' ∧ i' ≤ L.length ∧ Fr w w' P ∧ Oc (pairT L en true i) (fun _ => True) i a e x i' a' e' := by
  have hlt := h.lt
  have hT := qcode_any ((h.alloc (.cells #[.int .i64 0, .int .i64 0] 47)).alloc (.cells #[.int .i64 0, .int .i64 0] 47)) hi hL
  have HT := Lib.hid hT
  clear hT h
  have n1 : w.heap.size + 1 ≠ w.heap.size := by omega
  have n2 : w.heap.size ≠ w.heap.size + 1 := by omega
  have nS : w.heap.size ≠ P := by omega
  have nT : w.heap.size + 1 ≠ P := by omega
  have hltS : P < w.heap.size + 1 := by omega
  go_enter Tryz.func111, Tryz.ntmps111
  go_wp2_with fail
  refine HT.out.mono ?_
  rintro r w1 ⟨x, i1, a1, e1, rfl, hp1, hi1, hf1, hoc1⟩
  obtain ⟨⟨ln, lv⟩, lat⟩ := x
  simp only
  clear HT
  have s1 : Bk w1 w.heap.size (.int .i64 0) (.int .i64 0) := ((Bk.new w _ _ 47).more (.cells #[.int .i64 0, .int .i64 0] 47)).fr nS hf1
  have t1 : Bk w1 (w.heap.size + 1) (.int .i64 0) (.int .i64 0) := by
    have hk := Bk.new (w.alloc (.cells #[.int .i64 0, .int .i64 0] 47)) (.int .i64 0) (.int .i64 0) 47
    have e1 : (w.alloc (.cells #[.int .i64 0, .int .i64 0] 47)).heap.size = w.heap.size + 1 := by simp
    rw [e1] at hk
    exact hk.fr nT hf1
  have hfa : Fr w w1 P := (((Fr.refl w P).alloc (.cells #[.int .i64 0, .int .i64 0] 47)).alloc (.cells #[.int .i64 0, .int .i64 0] 47)).trans hf1
  have hp1' := (hp1.far hlt 0 (.int .i64 ln)).far hlt 1 (.int .i64 lv)
  have hf1' := (hfa.far (Nat.le_refl _) 0 (.int .i64 ln)).far (Nat.le_refl _) 1 (.int .i64 lv)
  have s1' := s1.set (.int .i64 ln) (.int .i64 lv)
  have t1' := (t1.off n2 0 (.int .i64 ln)).off n2 1 (.int .i64 lv)
  have hT2 := qcode_any hp1' hi1 hL
  have HT2 := Lib.hid hT2
  have HS1 := Lib.hid s1'
  have HT1 := Lib.hid t1'
  obtain ⟨b0, b1, b2, b3, b4⟩ := s1
  clear hT2 t1 hf1 hp1
  go_wp2_with fail
  refine HT2.out.mono ?_
  rintro r w2 ⟨y, i2, a2, e2, rfl, hp2, hi2, hf2, hoc2⟩
  obtain ⟨⟨hn, hv⟩, hat⟩ := y
  simp only
  clear HT2 b0 b1 b2 b3 b4
  have s2 := HS1.out.fr nS hf2
  have t2 := HT1.out.fr nT hf2
  have hf2a := hf1'.trans hf2
  have hp2' := (hp2.far hltS 0 (.int .i64 hn)).far hltS 1 (.int .i64 hv)
  have hf2' := (hf2a.far (Nat.le_succ _) 0 (.int .i64 hn)).far (Nat.le_succ _) 1 (.int .i64 hv)
  have s2' := (s2.off n1 0 (.int .i64 hn)).off n1 1 (.int .i64 hv)
  have t2' := t2.set (.int .i64 hn) (.int .i64 hv)
  have hoc := pair_oc (rect := true) hoc1 hoc2
  have hbc := And.intro (oc_bc hoc1) (oc_bc hoc2)
  have hl1 := oc_len hoc1
  have hl2 := oc_len hoc2
  simp only at hoc hbc hl1 hl2
  have hW : hn = ln → ∀ w, Calls Tryz.prog 112 #[.agg #[.int .i64 ln, .int .i64 lv], .agg #[.int .i64 hn, .int .i64 hv]] w fun r w' => r = .returned (.bool (badP true ⟨ln, lv⟩ ⟨hn, hv⟩)) ∧ Below w.heap.size w w' := fun he w => by
    have e1 : badP true ⟨ln, lv⟩ ⟨hn, hv⟩ = lowB ⟨hn, hv⟩ ⟨ln, lv⟩ := by simp [badP]
    rw [e1]
    exact qbyteBelow_any ln lv hn hv w (by rw [hl1, hl2, he]; exact Nat.le_refl _)
  clear hl1 hl2 hoc1 hoc2
  have HQ := Lib.hid hp2'
  have HF := Lib.hid hf2'
  have HS := Lib.hid s2'
  have HTt := Lib.hid t2'
  obtain ⟨p0, p1, p2, p3, p4⟩ := s2
  obtain ⟨q0, q1, q2, q3, q4⟩ := t2
  clear hp2 hp2' hf2' s2' t2' hf1' hp1' s1' t1' hfa hf2a hf2
  generalize hbd : badP true ⟨ln, lv⟩ ⟨hn, hv⟩ = bd at *
  clear hbd
  cases hq : (hn != ln) with
  | true =>
    rw [hq, fA_err (fE_ne 12 e2 (by decide)), fE_err (fE_ne 12 e2 (by decide))] at hoc
    have HOC := Lib.hid hoc
    clear hoc hW
    have hF := qfail_any HQ.out hat 12
    have HFl := Lib.hid hF
    clear hF
    go_wp2_with fail
    refine HFl.out.mono ?_
    rintro r w3 ⟨rfl, hp3, hf3⟩
    have s3 := HS.out.fr nS hf3
    have t3 := HTt.out.fr nT hf3
    have hf3' := HF.out.trans hf3
    have s3' := s3
    have t3' := t3
    obtain ⟨p0, p1, p2, p3, p4⟩ := s3
    obtain ⟨q0, q1, q2, q3, q4⟩ := t3
    clear HFl
    go_wp2
    go_region
    go_wp2
    obtain ⟨e0, e1', e2', e3⟩ := four_set s3' t3' n2 (.int .i64 ln) (.int .i64 lv) (.int .i64 hn) (.int .i64 hv)
    have E0 := cell_drew e0
    have E1 := cell_drew e1'
    have E2 := cell_drew e2'
    have E3 := cell_drew e3
    simp only [fA_t] at hp3
    refine bodyPost_ret (v := _) (by simp [results, Tryz.results111, go_sem, E0, E1, E2, E3]; try rfl) rfl ⟨(⟨ln, lv⟩, ⟨hn, hv⟩), i2, _, _, rfl, hbc, ((((hp3.far hlt 0 _).far hlt 1 _).far hltS 0 _).far hltS 1 _).drew, hi2, ((((hf3'.far (Nat.le_refl _) 0 _).far (Nat.le_refl _) 1 _).far (Nat.le_succ _) 0 _).far (Nat.le_succ _) 1 _).drew, HOC.out⟩
  | false =>
    rw [hq, fA_no, fE_no] at hoc
    have hWw := hW (by simpa using hq)
    have HW := Lib.hid hWw
    have HOC := Lib.hid hoc
    clear hoc hW hWw
    cases bd with
    | false =>
      go_wp2_with fail
      refine (HW.out _).mono ?_
      rintro r w3 ⟨rfl, hb3⟩
      have s3 := HS.out.over hb3
      have t3 := HTt.out.over hb3
      have hp3 := HQ.out.over hb3
      have hf3' := HF.out.over hb3
      have s3' := s3
      have t3' := t3
      obtain ⟨p0, p1, p2, p3, p4⟩ := s3
      obtain ⟨q0, q1, q2, q3, q4⟩ := t3
      clear HW
      go_wp2
      go_region
      go_wp2
      obtain ⟨e0, e1', e2', e3⟩ := four_set s3' t3' n2 (.int .i64 ln) (.int .i64 lv) (.int .i64 hn) (.int .i64 hv)
      have E0 := cell_drew e0
      have E1 := cell_drew e1'
      have E2 := cell_drew e2'
      have E3 := cell_drew e3
      have hO := HOC.out
      rw [fA_no, fE_no] at hO
      refine bodyPost_ret (v := _) (by simp [results, Tryz.results111, go_sem, E0, E1, E2, E3]; try rfl) rfl ⟨(⟨ln, lv⟩, ⟨hn, hv⟩), i2, _, _, rfl, hbc, ((((hp3.far hlt 0 _).far hlt 1 _).far hltS 0 _).far hltS 1 _).drew, hi2, ((((hf3'.far (Nat.le_refl _) 0 _).far (Nat.le_refl _) 1 _).far (Nat.le_succ _) 0 _).far (Nat.le_succ _) 1 _).drew, hO⟩
    | true =>
      go_wp2_with fail
      refine (HW.out _).mono ?_
      rintro r w3 ⟨rfl, hb3⟩
      have hF := qfail_any (HQ.out.over hb3) hat 7
      have HFl := Lib.hid hF
      have HS3 := Lib.hid (HS.out.over hb3)
      have HT3 := Lib.hid (HTt.out.over hb3)
      have HF3 := Lib.hid (HF.out.over hb3)
      clear hF HW
      go_wp2_with fail
      refine HFl.out.mono ?_
      rintro r w4 ⟨rfl, hp4, hf4⟩
      have s4 := HS3.out.fr nS hf4
      have t4 := HT3.out.fr nT hf4
      have hf4' := HF3.out.trans hf4
      have s4' := s4
      have t4' := t4
      obtain ⟨p0, p1, p2, p3, p4⟩ := s4
      obtain ⟨q0, q1, q2, q3, q4⟩ := t4
      clear HFl
      go_wp2
      go_region
      go_wp2
      obtain ⟨e0, e1', e2', e3⟩ := four_set s4' t4' n2 (.int .i64 ln) (.int .i64 lv) (.int .i64 hn) (.int .i64 hv)
      have E0 := cell_drew e0
      have E1 := cell_drew e1'
      have E2 := cell_drew e2'
      have E3 := cell_drew e3
      simp only [fA_t] at hp4
      refine bodyPost_ret (v := _) (by simp [results, Tryz.results111, go_sem, E0, E1, E2, E3]; try rfl) rfl ⟨(⟨ln, lv⟩, ⟨hn, hv⟩), i2, _, _, rfl, hbc, ((((hp4.far hlt 0 _).far hlt 1 _).far hltS 0 _).far hltS 1 _).drew, hi2, ((((hf4'.far (Nat.le_refl _) 0 _).far (Nat.le_refl _) 1 _).far (Nat.le_succ _) 0 _).far (Nat.le_succ _) 1 _).drew, HOC.out⟩
end
end Go.Proofs.YthcnjiigkmljnaaGreatDoor
