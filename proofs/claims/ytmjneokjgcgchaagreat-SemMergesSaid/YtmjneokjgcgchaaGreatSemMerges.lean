/-
  WHAT IS MERGED TWICE IS MERGED ONCE: the law's walk.
-/
import Derived.Test.YtmjneokjgcgchaaGreatSemBox
import Derived.Test.YtmjneokjgcgchaaGreatSemCm
import Derived.Deep.Cut
import Derived.Deep.CutRange
namespace Go.Proofs.YtmjneokjgcgchaaGreat
open Go.RowKit

set_option maxRecDepth 100000 in
set_option maxHeartbeats 8000000 in
theorem merges_walk {t u : Tb} {a b : Ta} (w : World) (h : Tm w t a) (k : Tm w u b) (hl : Tl t) (kl : Tl u) :
    Calls Tryz.prog 6 #[tbv t a, tbv u b] w fun e w' => e = .returned (.bool true) ∧ Below w.heap.size w w' := by
  have HA := Lib.hid (fun W => awake9_any W)
  have H2 := two (w := w) #[.string (str t.nm), .int .i64 t.wm, .slice a.a0 t.sp.length a.c0, .slice a.a1 t.ci.length a.c1, .slice a.a2 t.no.length a.c2, .slice a.a3 t.bf.length a.c3] #[.string (str u.nm), .int .i64 u.wm, .slice b.a0 u.sp.length b.c0, .slice b.a1 u.ci.length b.c1, .slice b.a2 u.no.length b.c2, .slice b.a3 u.bf.length b.c3] 27 27
  obtain ⟨W1, hW1⟩ : ∃ W, W = ((w.alloc (.cells #[.string (str t.nm), .int .i64 t.wm, .slice a.a0 t.sp.length a.c0, .slice a.a1 t.ci.length a.c1, .slice a.a2 t.no.length a.c2, .slice a.a3 t.bf.length a.c3] 27)).alloc (.cells #[.string (str u.nm), .int .i64 u.wm, .slice b.a0 u.sp.length b.c0, .slice b.a1 u.ci.length b.c1, .slice b.a2 u.no.length b.c2, .slice b.a3 u.bf.length b.c3] 27)) := ⟨_, rfl⟩
  rw [← hW1] at H2
  have HST : Hid (∀ W, Below W1.heap.size W1 W → Tm W t a) := Lib.hid fun W hW => (h.over H2.1).over hW
  have HSU : Hid (∀ W, Below W1.heap.size W1 W → Tm W u b) := Lib.hid fun W hW => (k.over H2.1).over hW
  have HT0 : Hid (∀ W, Below W1.heap.size W1 W → W.heap[w.heap.size]? = some (.cells #[.string (str t.nm), .int .i64 t.wm, .slice a.a0 t.sp.length a.c0, .slice a.a1 t.ci.length a.c1, .slice a.a2 t.no.length a.c2, .slice a.a3 t.bf.length a.c3] 27 (0, 0))) := Lib.hid fun W hW => (hW.block _ (Array.getElem?_eq_some_iff.1 H2.2.1).1).trans H2.2.1
  have HT1 : Hid (∀ W, Below W1.heap.size W1 W → W.heap[w.heap.size + 1]? = some (.cells #[.string (str u.nm), .int .i64 u.wm, .slice b.a0 u.sp.length b.c0, .slice b.a1 u.ci.length b.c1, .slice b.a2 u.no.length b.c2, .slice b.a3 u.bf.length b.c3] 27 (0, 0))) := Lib.hid fun W hW => (hW.block _ (Array.getElem?_eq_some_iff.1 H2.2.2).1).trans H2.2.2
  have HB1 := Lib.hid H2.1
  have KF1 := Lib.hid (fun W hW => rFew9_any (HST.out W hW) hl)
  have KF2 := Lib.hid (fun W hW => rFew9_any (HSU.out W hW) kl)
  have KTt := Lib.hid (fun W => table_any t a W)
  have KTu := Lib.hid (fun W => table_any u b W)
  clear h k hl kl H2
  unfold tbv at KF1 KF2 KTt KTu ⊢
  have hV1 := hW1.symm
  clear hW1
  go_enter Tryz.func6, Tryz.ntmps6
  go_wp2_with fail
  refine (HA.out _).mono ?_
  rintro e w1 ⟨rfl, hb1⟩
  have Z1 := Lib.hid hb1
  clear hb1 hV1
  obtain ⟨T0, hT0⟩ : ∃ T, T = w.heap.size := ⟨_, rfl⟩
  obtain ⟨T1, hT1⟩ : ∃ T, T = w.heap.size + 1 := ⟨_, rfl⟩
  rw [← hT0] at HT0
  rw [← hT1] at HT1
  rw [← hT1, ← hT0]
  have HTT := Lib.hid hT0
  clear hT0 hT1
  obtain ⟨d0, d1, d2, d3, d4, d5⟩ := cells6 (HT0.out _ Z1.out)
  go_wp2_with fail
  refine (KF1.out _ Z1.out).mono ?_
  rintro e w2 ⟨b1, rfl, hf1, hb2⟩
  have Z2 := Lib.hid (Z1.out.trans (hb2.mono Z1.out.size))
  have HF1 := Lib.hid hf1
  clear hf1 hb2 d0 d1 d2 d3 d4 d5
  cases b1 with
  | false =>
    go_wp2
    go_ret
    exact ⟨rfl, HB1.out.trans (Z2.out.mono HB1.out.size)⟩
  | true =>
  obtain ⟨d0, d1, d2, d3, d4, d5⟩ := cells6 (HT1.out _ Z2.out)
  go_wp2_with fail
  refine (KF2.out _ Z2.out).mono ?_
  rintro e w3 ⟨b2, rfl, hf2, hb3⟩
  have Z3 := Lib.hid (Z2.out.trans (hb3.mono Z2.out.size))
  have HF2 := Lib.hid hf2
  clear hf2 hb3 d0 d1 d2 d3 d4 d5
  cases b2 with
  | false =>
    go_wp2
    go_ret
    exact ⟨rfl, HB1.out.trans (Z3.out.mono HB1.out.size)⟩
  | true =>
  have HL1 : Hid (t.sp.length ≤ 60 ∧ t.ci.length ≤ 60 ∧ t.no.length ≤ 60 ∧ t.bf.length ≤ 60) := Lib.hid (by
    obtain ⟨_, q0, q1, q2, q3⟩ := HF1.out (by first | rfl | trivial)
    have := q3.2
    simp only [pl_length] at this
    exact ⟨q0, q1, q2, this⟩)
  have HL2 : Hid (u.sp.length ≤ 60 ∧ u.ci.length ≤ 60 ∧ u.no.length ≤ 60 ∧ u.bf.length ≤ 60) := Lib.hid (by
    obtain ⟨_, q0, q1, q2, q3⟩ := HF2.out (by first | rfl | trivial)
    have := q3.2
    simp only [pl_length] at this
    exact ⟨q0, q1, q2, this⟩)
  obtain ⟨d0, d1, d2, d3, d4, d5⟩ := cells6 (HT0.out _ Z3.out)
  go_wp2_with fail
  refine (KTt.out _).mono ?_
  rintro e w4 ⟨rfl, hb4⟩
  have Z4 := Lib.hid (Z3.out.trans (hb4.mono Z3.out.size))
  have KS0 := Lib.hid (Sane_any9 w4 (HST.out _ Z4.out) (by have := HL1.out; omega) (by have := HL1.out; omega) (by have := HL1.out; omega) (by have := HL1.out; omega))
  unfold tbv at KS0
  clear hb4 d0 d1 d2 d3 d4 d5
  go_wp2_with fail
  refine KS0.out.mono ?_
  rintro e w5 ⟨b3, rfl, hts, hb5⟩
  have Z5 := Lib.hid (Z4.out.trans (hb5.mono Z4.out.size))
  have HTS := Lib.hid hts
  clear hts hb5 KS0 KF1 KF2
  cases b3 with
  | false =>
    go_wp2
    go_ret
    exact ⟨rfl, HB1.out.trans (Z5.out.mono HB1.out.size)⟩
  | true =>
  have HTS1 := Lib.hid (HTS.out.1 (by first | rfl | trivial))
  clear HTS HF1 HF2 Z1 Z2 Z3 Z4
  have HS0 : Hid (∀ W, Below W1.heap.size W1 W → (fun w' => Cl6 w' T0 t a ∧ Cl6 w' T1 u b) W) := Lib.hid fun W hW => ⟨cells6 (HT0.out W hW), cells6 (HT1.out W hW)⟩
  go_upto_region 4 with fail
  go_cut [6] from 10 to 68 (fun tx wx => ∃ (X : Nat) (x : Tb) (ax : Ta), tx = .pointer (some ⟨X, 0, none⟩) ∧ Hid (Bxt w5 wx X x ax) ∧ Hid (Cm ((Tp t).cat (Tp t)) (Tp x)))
  case first =>
    have HS : Hid (∀ W, Below w5.heap.size w5 W → (fun w' => Cl6 w' T0 t a ∧ Cl6 w' T1 u b) W) := Lib.hid fun W hW => HS0.out W (Z5.out.trans (hW.mono Z5.out.size))
    have KMG : Hid (∀ W, Below w5.heap.size w5 W → Calls Tryz.prog 22 #[tbv t a, tbv t a] W fun e w' => ∃ x ax, e = .returned (tbv x ax) ∧ Cm ((Tp t).cat (Tp t)) (Tp x) ∧ Stm 0 w' x ax ∧ Below W.heap.size W w') := Lib.hid fun W hW => Merge_any W (HST.out W (Z5.out.trans (hW.mono Z5.out.size))) (HST.out W (Z5.out.trans (hW.mono Z5.out.size))) (by have := HL1.out; simp only [Pb, Pg.cat, Tp, List.length_append, pl_length]; omega)
    unfold tbv at KMG
    have z0 : Below w5.heap.size w5 w5.drew := (Below.refl _ _).drew
    refine wp_region_held_drew (S := fun w' => Cl6 w' T0 t a ∧ Cl6 w' T1 u b) (by kernel_rfl) (HS.out _ z0) (fun hS0 => ?_)
    try dsimp only at hS0
    generalize w5.drew = v0 at *
    refine wpAnyH_take (i := 0) (oi := { dst := some 26, op := Op.load 27 (Operand.tmp 2), type := 27, pos := "law.go:109", after := #[], guard := none }) (v := ?_) rfl (by kernel_rfl) (by kernel_rfl) (by kernel_rfl) (fun _ _ _ h => h) (Or.inl ⟨by rfl, ?_⟩) (by assumption) ?_
    rotate_left
    · intro w' hSw; obtain ⟨⟨d0, d1, d2, d3, d4, d5⟩, ⟨e0, e1, e2, e3, e4, e5⟩⟩ := hSw; go_simp; try with_reducible rfl
    simp only [Act.put, List.setIfInBounds_toArray, List.set_cons_zero, List.set_cons_succ]
    refine wpAnyH_take (i := 2) (oi := { dst := some 28, op := Op.load 27 (Operand.tmp 2), type := 27, pos := "law.go:109", after := #[], guard := none }) (v := ?_) rfl (by kernel_rfl) (by kernel_rfl) (by kernel_rfl) (fun _ _ _ h => h) (Or.inl ⟨by rfl, ?_⟩) (by assumption) ?_
    rotate_left
    · intro w' hSw; obtain ⟨⟨d0, d1, d2, d3, d4, d5⟩, ⟨e0, e1, e2, e3, e4, e5⟩⟩ := hSw; go_simp; try with_reducible rfl
    simp only [Act.put, List.setIfInBounds_toArray, List.set_cons_zero, List.set_cons_succ]
    refine wpAnyH_ready (rs := [1, 5]) (by kernel_rfl) (by simp) (AllReadyH.cons rfl (fun K hK => ?_) (AllReadyH.cons rfl (fun K hK => ?_) AllReadyH.nil))
    · go_simp
      go_wp2_with (go_at_call 15; (with_reducible refine (KTt.out _).mono ?_); rintro e v1 ⟨rfl, q1⟩)
      have z1 := z0.trans (q1.mono z0.size)
      refine hK.out _ _ (HS.out _ z1) (fun hS1 => ?_)
      clear hK K
      refine wpAnyH_ready (rs := [3, 5]) (by kernel_rfl) (by simp) (AllReadyH.cons rfl (fun K hK => ?_) (AllReadyH.cons rfl (fun K hK => ?_) AllReadyH.nil))
      · go_simp
        go_wp2_with (go_at_call 15; (with_reducible refine (KTt.out _).mono ?_); rintro e v2 ⟨rfl, q2⟩)
        have z2 := z1.trans (q2.mono z1.size)
        refine hK.out _ _ (HS.out _ z2) (fun hS2 => ?_)
        clear hK K
        refine wpAnyH_ready (rs := [4, 5]) (by kernel_rfl) (by simp) (AllReadyH.cons rfl (fun K hK => ?_) (AllReadyH.cons rfl (fun K hK => ?_) AllReadyH.nil))
        · go_simp
          go_wp2_with (go_at_call 22; (with_reducible refine (KMG.out _ z2).mono ?_); rintro e v3 ⟨x, ax, rfl, hcm, hst, q3⟩)
          have z3 := z2.trans (q3.mono z2.size)
          have HM3 := Lib.hid hst
          have HC := Lib.hid hcm
          clear hcm hst
          refine hK.out _ _ (HS.out _ z3) (fun hS3 => ?_)
          clear hK K
          refine wpAnyH_ready (rs := [5]) (by kernel_rfl) (by simp) (AllReadyH.cons rfl (fun K hK => ?_) AllReadyH.nil)
          go_simp
          have z4 := z3.alloc z3.size (.cells #[.string ⟨#[]⟩, .int .i64 0, .slice none 0 0, .slice none 0 0, .slice none 0 0, .slice none 0 0] 33)
          have HA4 := Lib.hid (new_zero v3)
          have q4 : Below v3.heap.size v3 (v3.alloc (.cells #[.string ⟨#[]⟩, .int .i64 0, .slice none 0 0, .slice none 0 0, .slice none 0 0, .slice none 0 0] 33)) := (Below.refl _ _).alloc (Nat.le_refl _) _
          have HX := Lib.hid z3.size
          have HM4 := Lib.hid (HM3.out.below q4)
          generalize v3.alloc (.cells #[.string ⟨#[]⟩, .int .i64 0, .slice none 0 0, .slice none 0 0, .slice none 0 0, .slice none 0 0] 33) = v4 at *
          generalize v3.heap.size = XA at *
          refine hK.out _ _ (HS.out _ z4) (fun hS4 => ?_)
          clear hK K
          refine wpAnyH_ready (rs := [6]) (by kernel_rfl) (by simp) (AllReadyH.cons rfl (fun K hK => ?_) AllReadyH.nil)
          obtain ⟨g0, g1, g2, g3, g4, g5⟩ := thaw6 HA4.out
          obtain ⟨f0, f1, f2, f3, f4, f5⟩ := cells6 HA4.out
          have HB := Lib.hid (Bxt.put z4 HX.out HA4.out HM4.out)
          go_simp
          refine hK.out _ _ (HS.out _ HB.out.be) (fun hSZ => ?_)
          clear hK K
          refine wpAnyH_done (by kernel_rfl) ?_ _
          go_wp2_with fail
          go_meet
          exact ⟨XA, x, ax, rfl, HB, HC⟩
        · go_simp
          have z3 := z2.alloc z2.size (.cells #[.string ⟨#[]⟩, .int .i64 0, .slice none 0 0, .slice none 0 0, .slice none 0 0, .slice none 0 0] 33)
          have HA3 := Lib.hid (new_zero v2)
          have q3 : Below v2.heap.size v2 (v2.alloc (.cells #[.string ⟨#[]⟩, .int .i64 0, .slice none 0 0, .slice none 0 0, .slice none 0 0, .slice none 0 0] 33)) := (Below.refl _ _).alloc (Nat.le_refl _) _
          have HX := Lib.hid z2.size
          generalize v2.alloc (.cells #[.string ⟨#[]⟩, .int .i64 0, .slice none 0 0, .slice none 0 0, .slice none 0 0, .slice none 0 0] 33) = v3 at *
          generalize v2.heap.size = XA at *
          refine hK.out _ _ (HS.out _ z3) (fun hS3 => ?_)
          clear hK K
          refine wpAnyH_ready (rs := [4]) (by kernel_rfl) (by simp) (AllReadyH.cons rfl (fun K hK => ?_) AllReadyH.nil)
          go_simp
          go_wp2_with (go_at_call 22; (with_reducible refine (KMG.out _ z3).mono ?_); rintro e v4 ⟨x, ax, rfl, hcm, hst, q4⟩)
          have z4 := z3.trans (q4.mono z3.size)
          have HA4 : Hid (Tk6 v4 XA tbZ taZ) := Lib.hid ((q4.block _ HA3.out.lt).trans HA3.out)
          have HM4 := Lib.hid hst
          have HC := Lib.hid hcm
          clear hcm hst
          refine hK.out _ _ (HS.out _ z4) (fun hS4 => ?_)
          clear hK K
          refine wpAnyH_ready (rs := [6]) (by kernel_rfl) (by simp) (AllReadyH.cons rfl (fun K hK => ?_) AllReadyH.nil)
          obtain ⟨g0, g1, g2, g3, g4, g5⟩ := thaw6 HA4.out
          obtain ⟨f0, f1, f2, f3, f4, f5⟩ := cells6 HA4.out
          have HB := Lib.hid (Bxt.put z4 HX.out HA4.out HM4.out)
          go_simp
          refine hK.out _ _ (HS.out _ HB.out.be) (fun hSZ => ?_)
          clear hK K
          refine wpAnyH_done (by kernel_rfl) ?_ _
          go_wp2_with fail
          go_meet
          exact ⟨XA, x, ax, rfl, HB, HC⟩
      · go_simp
        have z2 := z1.alloc z1.size (.cells #[.string ⟨#[]⟩, .int .i64 0, .slice none 0 0, .slice none 0 0, .slice none 0 0, .slice none 0 0] 33)
        have HA2 := Lib.hid (new_zero v1)
        have q2 : Below v1.heap.size v1 (v1.alloc (.cells #[.string ⟨#[]⟩, .int .i64 0, .slice none 0 0, .slice none 0 0, .slice none 0 0, .slice none 0 0] 33)) := (Below.refl _ _).alloc (Nat.le_refl _) _
        have HX := Lib.hid z1.size
        generalize v1.alloc (.cells #[.string ⟨#[]⟩, .int .i64 0, .slice none 0 0, .slice none 0 0, .slice none 0 0, .slice none 0 0] 33) = v2 at *
        generalize v1.heap.size = XA at *
        refine hK.out _ _ (HS.out _ z2) (fun hS2 => ?_)
        clear hK K
        refine wpAnyH_ready (rs := [3]) (by kernel_rfl) (by simp) (AllReadyH.cons rfl (fun K hK => ?_) AllReadyH.nil)
        go_simp
        go_wp2_with (go_at_call 15; (with_reducible refine (KTt.out _).mono ?_); rintro e v3 ⟨rfl, q3⟩)
        have z3 := z2.trans (q3.mono z2.size)
        have HA3 : Hid (Tk6 v3 XA tbZ taZ) := Lib.hid ((q3.block _ HA2.out.lt).trans HA2.out)
        refine hK.out _ _ (HS.out _ z3) (fun hS3 => ?_)
        clear hK K
        refine wpAnyH_ready (rs := [4]) (by kernel_rfl) (by simp) (AllReadyH.cons rfl (fun K hK => ?_) AllReadyH.nil)
        go_simp
        go_wp2_with (go_at_call 22; (with_reducible refine (KMG.out _ z3).mono ?_); rintro e v4 ⟨x, ax, rfl, hcm, hst, q4⟩)
        have z4 := z3.trans (q4.mono z3.size)
        have HA4 : Hid (Tk6 v4 XA tbZ taZ) := Lib.hid ((q4.block _ HA3.out.lt).trans HA3.out)
        have HM4 := Lib.hid hst
        have HC := Lib.hid hcm
        clear hcm hst
        refine hK.out _ _ (HS.out _ z4) (fun hS4 => ?_)
        clear hK K
        refine wpAnyH_ready (rs := [6]) (by kernel_rfl) (by simp) (AllReadyH.cons rfl (fun K hK => ?_) AllReadyH.nil)
        obtain ⟨g0, g1, g2, g3, g4, g5⟩ := thaw6 HA4.out
        obtain ⟨f0, f1, f2, f3, f4, f5⟩ := cells6 HA4.out
        have HB := Lib.hid (Bxt.put z4 HX.out HA4.out HM4.out)
        go_simp
        refine hK.out _ _ (HS.out _ HB.out.be) (fun hSZ => ?_)
        clear hK K
        refine wpAnyH_done (by kernel_rfl) ?_ _
        go_wp2_with fail
        go_meet
        exact ⟨XA, x, ax, rfl, HB, HC⟩
    · go_simp
      have z1 := z0.alloc z0.size (.cells #[.string ⟨#[]⟩, .int .i64 0, .slice none 0 0, .slice none 0 0, .slice none 0 0, .slice none 0 0] 33)
      have HA1 := Lib.hid (new_zero v0)
      have q1 : Below v0.heap.size v0 (v0.alloc (.cells #[.string ⟨#[]⟩, .int .i64 0, .slice none 0 0, .slice none 0 0, .slice none 0 0, .slice none 0 0] 33)) := (Below.refl _ _).alloc (Nat.le_refl _) _
      have HX := Lib.hid z0.size
      generalize v0.alloc (.cells #[.string ⟨#[]⟩, .int .i64 0, .slice none 0 0, .slice none 0 0, .slice none 0 0, .slice none 0 0] 33) = v1 at *
      generalize v0.heap.size = XA at *
      refine hK.out _ _ (HS.out _ z1) (fun hS1 => ?_)
      clear hK K
      refine wpAnyH_ready (rs := [1]) (by kernel_rfl) (by simp) (AllReadyH.cons rfl (fun K hK => ?_) AllReadyH.nil)
      go_simp
      go_wp2_with (go_at_call 15; (with_reducible refine (KTt.out _).mono ?_); rintro e v2 ⟨rfl, q2⟩)
      have z2 := z1.trans (q2.mono z1.size)
      have HA2 : Hid (Tk6 v2 XA tbZ taZ) := Lib.hid ((q2.block _ HA1.out.lt).trans HA1.out)
      refine hK.out _ _ (HS.out _ z2) (fun hS2 => ?_)
      clear hK K
      refine wpAnyH_ready (rs := [3]) (by kernel_rfl) (by simp) (AllReadyH.cons rfl (fun K hK => ?_) AllReadyH.nil)
      go_simp
      go_wp2_with (go_at_call 15; (with_reducible refine (KTt.out _).mono ?_); rintro e v3 ⟨rfl, q3⟩)
      have z3 := z2.trans (q3.mono z2.size)
      have HA3 : Hid (Tk6 v3 XA tbZ taZ) := Lib.hid ((q3.block _ HA2.out.lt).trans HA2.out)
      refine hK.out _ _ (HS.out _ z3) (fun hS3 => ?_)
      clear hK K
      refine wpAnyH_ready (rs := [4]) (by kernel_rfl) (by simp) (AllReadyH.cons rfl (fun K hK => ?_) AllReadyH.nil)
      go_simp
      go_wp2_with (go_at_call 22; (with_reducible refine (KMG.out _ z3).mono ?_); rintro e v4 ⟨x, ax, rfl, hcm, hst, q4⟩)
      have z4 := z3.trans (q4.mono z3.size)
      have HA4 : Hid (Tk6 v4 XA tbZ taZ) := Lib.hid ((q4.block _ HA3.out.lt).trans HA3.out)
      have HM4 := Lib.hid hst
      have HC := Lib.hid hcm
      clear hcm hst
      refine hK.out _ _ (HS.out _ z4) (fun hS4 => ?_)
      clear hK K
      refine wpAnyH_ready (rs := [6]) (by kernel_rfl) (by simp) (AllReadyH.cons rfl (fun K hK => ?_) AllReadyH.nil)
      obtain ⟨g0, g1, g2, g3, g4, g5⟩ := thaw6 HA4.out
      obtain ⟨f0, f1, f2, f3, f4, f5⟩ := cells6 HA4.out
      have HB := Lib.hid (Bxt.put z4 HX.out HA4.out HM4.out)
      go_simp
      refine hK.out _ _ (HS.out _ HB.out.be) (fun hSZ => ?_)
      clear hK K
      refine wpAnyH_done (by kernel_rfl) ?_ _
      go_wp2_with fail
      go_meet
      exact ⟨XA, x, ax, rfl, HB, HC⟩
  case rest =>
  obtain ⟨X1, x1, a1, rfl, HX1, HC1⟩ := hcut
  obtain ⟨V5, hV5⟩ : ∃ V, V = wc := ⟨_, rfl⟩
  subst hV5
  have ZA := Lib.hid (Z5.out.trans (HX1.out.be.mono Z5.out.size))
  obtain ⟨d0, d1, d2, d3, d4, d5⟩ := cells6 (HT0.out _ ZA.out)
  go_wp2_with fail
  refine (KTt.out _).mono ?_
  rintro e w6 ⟨rfl, hb6⟩
  have Z6 := Lib.hid (ZA.out.trans (hb6.mono ZA.out.size))
  have HX6 := Lib.hid (HX1.out.low hb6)
  have KM0 := Merge_any w6 (HST.out _ Z6.out) (tm_zero w6) (by have := HL1.out; simp only [Pb, Pg.cat, Tp, tbZ, pl, List.map_nil, List.append_nil, List.length_map]; omega)
  rw [tp_z] at KM0
  unfold tbv at KM0
  simp only [tbZ, taZ, List.length_nil, str_nil] at KM0
  have KM0 := Lib.hid KM0
  clear hb6 d0 d1 d2 d3 d4 d5 HX1
  go_wp2_with fail
  refine KM0.out.mono ?_
  rintro e w7 ⟨x2, a2, rfl, hcm, hst, hb7⟩
  have Z7 := Lib.hid (Z6.out.trans (hb7.mono Z6.out.size))
  have HX7 := Lib.hid (HX6.out.low hb7)
  have HC2 := Lib.hid hcm
  have hy := Bxt.new (Below.refl w7.heap.size w7) hst
  have hbA := hy.be
  have HX8 := Lib.hid (HX7.out.low hbA)
  have Z8 := Lib.hid (Z7.out.trans (hbA.mono Z7.out.size))
  obtain ⟨V8, hV8⟩ : ∃ V, V = w7.alloc (.cells #[.string (str x2.nm), .int .i64 x2.wm, .slice a2.a0 x2.sp.length a2.c0, .slice a2.a1 x2.ci.length a2.c1, .slice a2.a2 x2.no.length a2.c2, .slice a2.a3 x2.bf.length a2.c3] 33) := ⟨_, rfl⟩
  rw [← hV8] at hy HX8 Z8
  have HY8 := Lib.hid hy
  have hV := hV8.symm
  clear hcm hst hb7 hy hbA hV8 HX6 HX7 KM0
  unfold tbv
  go_upto_region 6 with fail
  clear hV
  obtain ⟨X2, hX2⟩ : ∃ X, X = w7.heap.size := ⟨_, rfl⟩
  rw [← hX2] at HY8
  rw [← hX2]
  clear hX2
  go_cut [8] from 10 to 68 (fun tx wx => ∃ (X : Nat) (x : Tb) (ax : Ta), tx = .pointer (some ⟨X, 0, none⟩) ∧ Hid (Bxt V8 wx X x ax) ∧ Hid (Cm ((Tp t).cat (Tp u)) (Tp x)))
  case first =>
    have HS : Hid (∀ W, Below V8.heap.size V8 W → (fun w' => Cl6 w' T0 t a ∧ Cl6 w' T1 u b) W) := Lib.hid fun W hW => HS0.out W (Z8.out.trans (hW.mono Z8.out.size))
    have KMG : Hid (∀ W, Below V8.heap.size V8 W → Calls Tryz.prog 22 #[tbv t a, tbv u b] W fun e w' => ∃ x ax, e = .returned (tbv x ax) ∧ Cm ((Tp t).cat (Tp u)) (Tp x) ∧ Stm 0 w' x ax ∧ Below W.heap.size W w') := Lib.hid fun W hW => Merge_any W (HST.out W (Z8.out.trans (hW.mono Z8.out.size))) (HSU.out W (Z8.out.trans (hW.mono Z8.out.size))) (by have := HL1.out; have := HL2.out; simp only [Pb, Pg.cat, Tp, List.length_append, pl_length]; omega)
    unfold tbv at KMG
    have z0 : Below V8.heap.size V8 V8.drew := (Below.refl _ _).drew
    refine wp_region_held_drew (S := fun w' => Cl6 w' T0 t a ∧ Cl6 w' T1 u b) (by kernel_rfl) (HS.out _ z0) (fun hS0 => ?_)
    try dsimp only at hS0
    generalize V8.drew = v0 at *
    refine wpAnyH_take (i := 0) (oi := { dst := some 35, op := Op.load 27 (Operand.tmp 2), type := 27, pos := "law.go:111", after := #[], guard := none }) (v := ?_) rfl (by kernel_rfl) (by kernel_rfl) (by kernel_rfl) (fun _ _ _ h => h) (Or.inl ⟨by rfl, ?_⟩) (by assumption) ?_
    rotate_left
    · intro w' hSw; obtain ⟨⟨d0, d1, d2, d3, d4, d5⟩, ⟨e0, e1, e2, e3, e4, e5⟩⟩ := hSw; go_simp; try with_reducible rfl
    simp only [Act.put, List.setIfInBounds_toArray, List.set_cons_zero, List.set_cons_succ]
    refine wpAnyH_take (i := 2) (oi := { dst := some 37, op := Op.load 27 (Operand.tmp 3), type := 27, pos := "law.go:111", after := #[], guard := none }) (v := ?_) rfl (by kernel_rfl) (by kernel_rfl) (by kernel_rfl) (fun _ _ _ h => h) (Or.inl ⟨by rfl, ?_⟩) (by assumption) ?_
    rotate_left
    · intro w' hSw; obtain ⟨⟨d0, d1, d2, d3, d4, d5⟩, ⟨e0, e1, e2, e3, e4, e5⟩⟩ := hSw; go_simp; try with_reducible rfl
    simp only [Act.put, List.setIfInBounds_toArray, List.set_cons_zero, List.set_cons_succ]
    refine wpAnyH_ready (rs := [1, 5]) (by kernel_rfl) (by simp) (AllReadyH.cons rfl (fun K hK => ?_) (AllReadyH.cons rfl (fun K hK => ?_) AllReadyH.nil))
    · go_simp
      go_wp2_with (go_at_call 15; (with_reducible refine (KTt.out _).mono ?_); rintro e v1 ⟨rfl, q1⟩)
      have z1 := z0.trans (q1.mono z0.size)
      refine hK.out _ _ (HS.out _ z1) (fun hS1 => ?_)
      clear hK K
      refine wpAnyH_ready (rs := [3, 5]) (by kernel_rfl) (by simp) (AllReadyH.cons rfl (fun K hK => ?_) (AllReadyH.cons rfl (fun K hK => ?_) AllReadyH.nil))
      · go_simp
        go_wp2_with (go_at_call 15; (with_reducible refine (KTu.out _).mono ?_); rintro e v2 ⟨rfl, q2⟩)
        have z2 := z1.trans (q2.mono z1.size)
        refine hK.out _ _ (HS.out _ z2) (fun hS2 => ?_)
        clear hK K
        refine wpAnyH_ready (rs := [4, 5]) (by kernel_rfl) (by simp) (AllReadyH.cons rfl (fun K hK => ?_) (AllReadyH.cons rfl (fun K hK => ?_) AllReadyH.nil))
        · go_simp
          go_wp2_with (go_at_call 22; (with_reducible refine (KMG.out _ z2).mono ?_); rintro e v3 ⟨x, ax, rfl, hcm, hst, q3⟩)
          have z3 := z2.trans (q3.mono z2.size)
          have HM3 := Lib.hid hst
          have HC := Lib.hid hcm
          clear hcm hst
          refine hK.out _ _ (HS.out _ z3) (fun hS3 => ?_)
          clear hK K
          refine wpAnyH_ready (rs := [5]) (by kernel_rfl) (by simp) (AllReadyH.cons rfl (fun K hK => ?_) AllReadyH.nil)
          go_simp
          have z4 := z3.alloc z3.size (.cells #[.string ⟨#[]⟩, .int .i64 0, .slice none 0 0, .slice none 0 0, .slice none 0 0, .slice none 0 0] 33)
          have HA4 := Lib.hid (new_zero v3)
          have q4 : Below v3.heap.size v3 (v3.alloc (.cells #[.string ⟨#[]⟩, .int .i64 0, .slice none 0 0, .slice none 0 0, .slice none 0 0, .slice none 0 0] 33)) := (Below.refl _ _).alloc (Nat.le_refl _) _
          have HX := Lib.hid z3.size
          have HM4 := Lib.hid (HM3.out.below q4)
          generalize v3.alloc (.cells #[.string ⟨#[]⟩, .int .i64 0, .slice none 0 0, .slice none 0 0, .slice none 0 0, .slice none 0 0] 33) = v4 at *
          generalize v3.heap.size = XA at *
          refine hK.out _ _ (HS.out _ z4) (fun hS4 => ?_)
          clear hK K
          refine wpAnyH_ready (rs := [6]) (by kernel_rfl) (by simp) (AllReadyH.cons rfl (fun K hK => ?_) AllReadyH.nil)
          obtain ⟨g0, g1, g2, g3, g4, g5⟩ := thaw6 HA4.out
          obtain ⟨f0, f1, f2, f3, f4, f5⟩ := cells6 HA4.out
          have HB := Lib.hid (Bxt.put z4 HX.out HA4.out HM4.out)
          go_simp
          refine hK.out _ _ (HS.out _ HB.out.be) (fun hSZ => ?_)
          clear hK K
          refine wpAnyH_done (by kernel_rfl) ?_ _
          go_wp2_with fail
          go_meet
          exact ⟨XA, x, ax, rfl, HB, HC⟩
        · go_simp
          have z3 := z2.alloc z2.size (.cells #[.string ⟨#[]⟩, .int .i64 0, .slice none 0 0, .slice none 0 0, .slice none 0 0, .slice none 0 0] 33)
          have HA3 := Lib.hid (new_zero v2)
          have q3 : Below v2.heap.size v2 (v2.alloc (.cells #[.string ⟨#[]⟩, .int .i64 0, .slice none 0 0, .slice none 0 0, .slice none 0 0, .slice none 0 0] 33)) := (Below.refl _ _).alloc (Nat.le_refl _) _
          have HX := Lib.hid z2.size
          generalize v2.alloc (.cells #[.string ⟨#[]⟩, .int .i64 0, .slice none 0 0, .slice none 0 0, .slice none 0 0, .slice none 0 0] 33) = v3 at *
          generalize v2.heap.size = XA at *
          refine hK.out _ _ (HS.out _ z3) (fun hS3 => ?_)
          clear hK K
          refine wpAnyH_ready (rs := [4]) (by kernel_rfl) (by simp) (AllReadyH.cons rfl (fun K hK => ?_) AllReadyH.nil)
          go_simp
          go_wp2_with (go_at_call 22; (with_reducible refine (KMG.out _ z3).mono ?_); rintro e v4 ⟨x, ax, rfl, hcm, hst, q4⟩)
          have z4 := z3.trans (q4.mono z3.size)
          have HA4 : Hid (Tk6 v4 XA tbZ taZ) := Lib.hid ((q4.block _ HA3.out.lt).trans HA3.out)
          have HM4 := Lib.hid hst
          have HC := Lib.hid hcm
          clear hcm hst
          refine hK.out _ _ (HS.out _ z4) (fun hS4 => ?_)
          clear hK K
          refine wpAnyH_ready (rs := [6]) (by kernel_rfl) (by simp) (AllReadyH.cons rfl (fun K hK => ?_) AllReadyH.nil)
          obtain ⟨g0, g1, g2, g3, g4, g5⟩ := thaw6 HA4.out
          obtain ⟨f0, f1, f2, f3, f4, f5⟩ := cells6 HA4.out
          have HB := Lib.hid (Bxt.put z4 HX.out HA4.out HM4.out)
          go_simp
          refine hK.out _ _ (HS.out _ HB.out.be) (fun hSZ => ?_)
          clear hK K
          refine wpAnyH_done (by kernel_rfl) ?_ _
          go_wp2_with fail
          go_meet
          exact ⟨XA, x, ax, rfl, HB, HC⟩
      · go_simp
        have z2 := z1.alloc z1.size (.cells #[.string ⟨#[]⟩, .int .i64 0, .slice none 0 0, .slice none 0 0, .slice none 0 0, .slice none 0 0] 33)
        have HA2 := Lib.hid (new_zero v1)
        have q2 : Below v1.heap.size v1 (v1.alloc (.cells #[.string ⟨#[]⟩, .int .i64 0, .slice none 0 0, .slice none 0 0, .slice none 0 0, .slice none 0 0] 33)) := (Below.refl _ _).alloc (Nat.le_refl _) _
        have HX := Lib.hid z1.size
        generalize v1.alloc (.cells #[.string ⟨#[]⟩, .int .i64 0, .slice none 0 0, .slice none 0 0, .slice none 0 0, .slice none 0 0] 33) = v2 at *
        generalize v1.heap.size = XA at *
        refine hK.out _ _ (HS.out _ z2) (fun hS2 => ?_)
        clear hK K
        refine wpAnyH_ready (rs := [3]) (by kernel_rfl) (by simp) (AllReadyH.cons rfl (fun K hK => ?_) AllReadyH.nil)
        go_simp
        go_wp2_with (go_at_call 15; (with_reducible refine (KTu.out _).mono ?_); rintro e v3 ⟨rfl, q3⟩)
        have z3 := z2.trans (q3.mono z2.size)
        have HA3 : Hid (Tk6 v3 XA tbZ taZ) := Lib.hid ((q3.block _ HA2.out.lt).trans HA2.out)
        refine hK.out _ _ (HS.out _ z3) (fun hS3 => ?_)
        clear hK K
        refine wpAnyH_ready (rs := [4]) (by kernel_rfl) (by simp) (AllReadyH.cons rfl (fun K hK => ?_) AllReadyH.nil)
        go_simp
        go_wp2_with (go_at_call 22; (with_reducible refine (KMG.out _ z3).mono ?_); rintro e v4 ⟨x, ax, rfl, hcm, hst, q4⟩)
        have z4 := z3.trans (q4.mono z3.size)
        have HA4 : Hid (Tk6 v4 XA tbZ taZ) := Lib.hid ((q4.block _ HA3.out.lt).trans HA3.out)
        have HM4 := Lib.hid hst
        have HC := Lib.hid hcm
        clear hcm hst
        refine hK.out _ _ (HS.out _ z4) (fun hS4 => ?_)
        clear hK K
        refine wpAnyH_ready (rs := [6]) (by kernel_rfl) (by simp) (AllReadyH.cons rfl (fun K hK => ?_) AllReadyH.nil)
        obtain ⟨g0, g1, g2, g3, g4, g5⟩ := thaw6 HA4.out
        obtain ⟨f0, f1, f2, f3, f4, f5⟩ := cells6 HA4.out
        have HB := Lib.hid (Bxt.put z4 HX.out HA4.out HM4.out)
        go_simp
        refine hK.out _ _ (HS.out _ HB.out.be) (fun hSZ => ?_)
        clear hK K
        refine wpAnyH_done (by kernel_rfl) ?_ _
        go_wp2_with fail
        go_meet
        exact ⟨XA, x, ax, rfl, HB, HC⟩
    · go_simp
      have z1 := z0.alloc z0.size (.cells #[.string ⟨#[]⟩, .int .i64 0, .slice none 0 0, .slice none 0 0, .slice none 0 0, .slice none 0 0] 33)
      have HA1 := Lib.hid (new_zero v0)
      have q1 : Below v0.heap.size v0 (v0.alloc (.cells #[.string ⟨#[]⟩, .int .i64 0, .slice none 0 0, .slice none 0 0, .slice none 0 0, .slice none 0 0] 33)) := (Below.refl _ _).alloc (Nat.le_refl _) _
      have HX := Lib.hid z0.size
      generalize v0.alloc (.cells #[.string ⟨#[]⟩, .int .i64 0, .slice none 0 0, .slice none 0 0, .slice none 0 0, .slice none 0 0] 33) = v1 at *
      generalize v0.heap.size = XA at *
      refine hK.out _ _ (HS.out _ z1) (fun hS1 => ?_)
      clear hK K
      refine wpAnyH_ready (rs := [1]) (by kernel_rfl) (by simp) (AllReadyH.cons rfl (fun K hK => ?_) AllReadyH.nil)
      go_simp
      go_wp2_with (go_at_call 15; (with_reducible refine (KTt.out _).mono ?_); rintro e v2 ⟨rfl, q2⟩)
      have z2 := z1.trans (q2.mono z1.size)
      have HA2 : Hid (Tk6 v2 XA tbZ taZ) := Lib.hid ((q2.block _ HA1.out.lt).trans HA1.out)
      refine hK.out _ _ (HS.out _ z2) (fun hS2 => ?_)
      clear hK K
      refine wpAnyH_ready (rs := [3]) (by kernel_rfl) (by simp) (AllReadyH.cons rfl (fun K hK => ?_) AllReadyH.nil)
      go_simp
      go_wp2_with (go_at_call 15; (with_reducible refine (KTu.out _).mono ?_); rintro e v3 ⟨rfl, q3⟩)
      have z3 := z2.trans (q3.mono z2.size)
      have HA3 : Hid (Tk6 v3 XA tbZ taZ) := Lib.hid ((q3.block _ HA2.out.lt).trans HA2.out)
      refine hK.out _ _ (HS.out _ z3) (fun hS3 => ?_)
      clear hK K
      refine wpAnyH_ready (rs := [4]) (by kernel_rfl) (by simp) (AllReadyH.cons rfl (fun K hK => ?_) AllReadyH.nil)
      go_simp
      go_wp2_with (go_at_call 22; (with_reducible refine (KMG.out _ z3).mono ?_); rintro e v4 ⟨x, ax, rfl, hcm, hst, q4⟩)
      have z4 := z3.trans (q4.mono z3.size)
      have HA4 : Hid (Tk6 v4 XA tbZ taZ) := Lib.hid ((q4.block _ HA3.out.lt).trans HA3.out)
      have HM4 := Lib.hid hst
      have HC := Lib.hid hcm
      clear hcm hst
      refine hK.out _ _ (HS.out _ z4) (fun hS4 => ?_)
      clear hK K
      refine wpAnyH_ready (rs := [6]) (by kernel_rfl) (by simp) (AllReadyH.cons rfl (fun K hK => ?_) AllReadyH.nil)
      obtain ⟨g0, g1, g2, g3, g4, g5⟩ := thaw6 HA4.out
      obtain ⟨f0, f1, f2, f3, f4, f5⟩ := cells6 HA4.out
      have HB := Lib.hid (Bxt.put z4 HX.out HA4.out HM4.out)
      go_simp
      refine hK.out _ _ (HS.out _ HB.out.be) (fun hSZ => ?_)
      clear hK K
      refine wpAnyH_done (by kernel_rfl) ?_ _
      go_wp2_with fail
      go_meet
      exact ⟨XA, x, ax, rfl, HB, HC⟩
  case rest =>
  obtain ⟨X3, x3, a3, rfl, HX3, HC3⟩ := hcut
  obtain ⟨V9, hV9⟩ : ∃ V, V = wc := ⟨_, rfl⟩
  subst hV9
  have HL3 : Hid (x3.sp.length ≤ 120 ∧ x3.ci.length ≤ 240 ∧ x3.no.length ≤ 240 ∧ x3.bf.length ≤ 240) := Lib.hid (by
    have q := HC3.out.few
    have := HL1.out
    have := HL2.out
    simp only [Pg.cat, Tp, List.length_append, pl_length] at q
    omega)
  have Z9 := Lib.hid (Z8.out.trans (HX3.out.be.mono Z8.out.size))
  have HX9 : Hid (Bxt w5 V9 X1 x1 a1) := Lib.hid ⟨(HX3.out.be.block _ HX8.out.tk.lt).trans HX8.out.tk, HX8.out.tm.below HX3.out.be, HX8.out.be.trans (HX3.out.be.mono HX8.out.be.size)⟩
  have HY9 := Lib.hid (HY8.out.low HX3.out.be)
  have HSX : Hid (∀ W, Below V9.heap.size V9 W → (fun w' => Cl6 w' T0 t a ∧ Cl6 w' T1 u b ∧ Cl6 w' X3 x3 a3) W) := Lib.hid fun W hW => ⟨cells6 (HT0.out W (Z9.out.trans (hW.mono Z9.out.size))), cells6 (HT1.out W (Z9.out.trans (hW.mono Z9.out.size))), cells6 (HX3.out.low hW).tk⟩
  go_upto_region 7 with fail
  go_cut [9] from 10 to 68 (fun tx wx => ∃ (X : Nat) (x : Tb) (ax : Ta), tx = .pointer (some ⟨X, 0, none⟩) ∧ Hid (Bxt V9 wx X x ax) ∧ Hid (Cm ((Tp x3).cat (Tp u)) (Tp x)))
  case first =>
    have HS := HSX
    have KMG : Hid (∀ W, Below V9.heap.size V9 W → Calls Tryz.prog 22 #[tbv x3 a3, tbv u b] W fun e w' => ∃ x ax, e = .returned (tbv x ax) ∧ Cm ((Tp x3).cat (Tp u)) (Tp x) ∧ Stm 0 w' x ax ∧ Below W.heap.size W w') := Lib.hid fun W hW => Merge_any W ((HX3.out.low hW).tm.now) (HSU.out W (Z9.out.trans (hW.mono Z9.out.size))) (by have := HL3.out; have := HL2.out; simp only [Pb, Pg.cat, Tp, List.length_append, pl_length]; omega)
    unfold tbv at KMG
    have z0 : Below V9.heap.size V9 V9.drew := (Below.refl _ _).drew
    refine wp_region_held_drew (S := fun w' => Cl6 w' T0 t a ∧ Cl6 w' T1 u b ∧ Cl6 w' X3 x3 a3) (by kernel_rfl) (HS.out _ z0) (fun hS0 => ?_)
    try dsimp only at hS0
    generalize V9.drew = v0 at *
    refine wpAnyH_take (i := 0) (oi := { dst := some 40, op := Op.load 33 (Operand.tmp 8), type := 33, pos := "law.go:112", after := #[], guard := none }) (v := ?_) rfl (by kernel_rfl) (by kernel_rfl) (by kernel_rfl) (fun _ _ _ h => h) (Or.inl ⟨by rfl, ?_⟩) (by assumption) ?_
    rotate_left
    · intro w' hSw; obtain ⟨⟨d0, d1, d2, d3, d4, d5⟩, ⟨e0, e1, e2, e3, e4, e5⟩, ⟨f0, f1, f2, f3, f4, f5⟩⟩ := hSw; go_simp; try with_reducible rfl
    simp only [Act.put, List.setIfInBounds_toArray, List.set_cons_zero, List.set_cons_succ]
    refine wpAnyH_take (i := 1) (oi := { dst := some 41, op := Op.load 27 (Operand.tmp 3), type := 27, pos := "law.go:112", after := #[], guard := none }) (v := ?_) rfl (by kernel_rfl) (by kernel_rfl) (by kernel_rfl) (fun _ _ _ h => h) (Or.inl ⟨by rfl, ?_⟩) (by assumption) ?_
    rotate_left
    · intro w' hSw; obtain ⟨⟨d0, d1, d2, d3, d4, d5⟩, ⟨e0, e1, e2, e3, e4, e5⟩, ⟨f0, f1, f2, f3, f4, f5⟩⟩ := hSw; go_simp; try with_reducible rfl
    simp only [Act.put, List.setIfInBounds_toArray, List.set_cons_zero, List.set_cons_succ]
    refine wpAnyH_ready (rs := [2, 4]) (by kernel_rfl) (by simp) (AllReadyH.cons rfl (fun K hK => ?_) (AllReadyH.cons rfl (fun K hK => ?_) AllReadyH.nil))
    · go_simp
      go_wp2_with (go_at_call 15; (with_reducible refine (KTu.out _).mono ?_); rintro e v1 ⟨rfl, q1⟩)
      have z1 := z0.trans (q1.mono z0.size)
      refine hK.out _ _ (HS.out _ z1) (fun hS1 => ?_)
      clear hK K
      refine wpAnyH_ready (rs := [3, 4]) (by kernel_rfl) (by simp) (AllReadyH.cons rfl (fun K hK => ?_) (AllReadyH.cons rfl (fun K hK => ?_) AllReadyH.nil))
      · go_simp
        go_wp2_with (go_at_call 22; (with_reducible refine (KMG.out _ z1).mono ?_); rintro e v2 ⟨x, ax, rfl, hcm, hst, q2⟩)
        have z2 := z1.trans (q2.mono z1.size)
        have HM2 := Lib.hid hst
        have HC := Lib.hid hcm
        clear hcm hst
        refine hK.out _ _ (HS.out _ z2) (fun hS2 => ?_)
        clear hK K
        refine wpAnyH_ready (rs := [4]) (by kernel_rfl) (by simp) (AllReadyH.cons rfl (fun K hK => ?_) AllReadyH.nil)
        go_simp
        have z3 := z2.alloc z2.size (.cells #[.string ⟨#[]⟩, .int .i64 0, .slice none 0 0, .slice none 0 0, .slice none 0 0, .slice none 0 0] 33)
        have HA3 := Lib.hid (new_zero v2)
        have q3 : Below v2.heap.size v2 (v2.alloc (.cells #[.string ⟨#[]⟩, .int .i64 0, .slice none 0 0, .slice none 0 0, .slice none 0 0, .slice none 0 0] 33)) := (Below.refl _ _).alloc (Nat.le_refl _) _
        have HX := Lib.hid z2.size
        have HM3 := Lib.hid (HM2.out.below q3)
        generalize v2.alloc (.cells #[.string ⟨#[]⟩, .int .i64 0, .slice none 0 0, .slice none 0 0, .slice none 0 0, .slice none 0 0] 33) = v3 at *
        generalize v2.heap.size = XA at *
        refine hK.out _ _ (HS.out _ z3) (fun hS3 => ?_)
        clear hK K
        refine wpAnyH_ready (rs := [5]) (by kernel_rfl) (by simp) (AllReadyH.cons rfl (fun K hK => ?_) AllReadyH.nil)
        obtain ⟨g0, g1, g2, g3, g4, g5⟩ := thaw6 HA3.out
        obtain ⟨f0, f1, f2, f3, f4, f5⟩ := cells6 HA3.out
        have HB := Lib.hid (Bxt.put z3 HX.out HA3.out HM3.out)
        go_simp
        refine hK.out _ _ (HS.out _ HB.out.be) (fun hSZ => ?_)
        clear hK K
        refine wpAnyH_done (by kernel_rfl) ?_ _
        go_wp2_with fail
        go_meet
        exact ⟨XA, x, ax, rfl, HB, HC⟩
      · go_simp
        have z2 := z1.alloc z1.size (.cells #[.string ⟨#[]⟩, .int .i64 0, .slice none 0 0, .slice none 0 0, .slice none 0 0, .slice none 0 0] 33)
        have HA2 := Lib.hid (new_zero v1)
        have q2 : Below v1.heap.size v1 (v1.alloc (.cells #[.string ⟨#[]⟩, .int .i64 0, .slice none 0 0, .slice none 0 0, .slice none 0 0, .slice none 0 0] 33)) := (Below.refl _ _).alloc (Nat.le_refl _) _
        have HX := Lib.hid z1.size
        generalize v1.alloc (.cells #[.string ⟨#[]⟩, .int .i64 0, .slice none 0 0, .slice none 0 0, .slice none 0 0, .slice none 0 0] 33) = v2 at *
        generalize v1.heap.size = XA at *
        refine hK.out _ _ (HS.out _ z2) (fun hS2 => ?_)
        clear hK K
        refine wpAnyH_ready (rs := [3]) (by kernel_rfl) (by simp) (AllReadyH.cons rfl (fun K hK => ?_) AllReadyH.nil)
        go_simp
        go_wp2_with (go_at_call 22; (with_reducible refine (KMG.out _ z2).mono ?_); rintro e v3 ⟨x, ax, rfl, hcm, hst, q3⟩)
        have z3 := z2.trans (q3.mono z2.size)
        have HA3 : Hid (Tk6 v3 XA tbZ taZ) := Lib.hid ((q3.block _ HA2.out.lt).trans HA2.out)
        have HM3 := Lib.hid hst
        have HC := Lib.hid hcm
        clear hcm hst
        refine hK.out _ _ (HS.out _ z3) (fun hS3 => ?_)
        clear hK K
        refine wpAnyH_ready (rs := [5]) (by kernel_rfl) (by simp) (AllReadyH.cons rfl (fun K hK => ?_) AllReadyH.nil)
        obtain ⟨g0, g1, g2, g3, g4, g5⟩ := thaw6 HA3.out
        obtain ⟨f0, f1, f2, f3, f4, f5⟩ := cells6 HA3.out
        have HB := Lib.hid (Bxt.put z3 HX.out HA3.out HM3.out)
        go_simp
        refine hK.out _ _ (HS.out _ HB.out.be) (fun hSZ => ?_)
        clear hK K
        refine wpAnyH_done (by kernel_rfl) ?_ _
        go_wp2_with fail
        go_meet
        exact ⟨XA, x, ax, rfl, HB, HC⟩
    · go_simp
      have z1 := z0.alloc z0.size (.cells #[.string ⟨#[]⟩, .int .i64 0, .slice none 0 0, .slice none 0 0, .slice none 0 0, .slice none 0 0] 33)
      have HA1 := Lib.hid (new_zero v0)
      have q1 : Below v0.heap.size v0 (v0.alloc (.cells #[.string ⟨#[]⟩, .int .i64 0, .slice none 0 0, .slice none 0 0, .slice none 0 0, .slice none 0 0] 33)) := (Below.refl _ _).alloc (Nat.le_refl _) _
      have HX := Lib.hid z0.size
      generalize v0.alloc (.cells #[.string ⟨#[]⟩, .int .i64 0, .slice none 0 0, .slice none 0 0, .slice none 0 0, .slice none 0 0] 33) = v1 at *
      generalize v0.heap.size = XA at *
      refine hK.out _ _ (HS.out _ z1) (fun hS1 => ?_)
      clear hK K
      refine wpAnyH_ready (rs := [2]) (by kernel_rfl) (by simp) (AllReadyH.cons rfl (fun K hK => ?_) AllReadyH.nil)
      go_simp
      go_wp2_with (go_at_call 15; (with_reducible refine (KTu.out _).mono ?_); rintro e v2 ⟨rfl, q2⟩)
      have z2 := z1.trans (q2.mono z1.size)
      have HA2 : Hid (Tk6 v2 XA tbZ taZ) := Lib.hid ((q2.block _ HA1.out.lt).trans HA1.out)
      refine hK.out _ _ (HS.out _ z2) (fun hS2 => ?_)
      clear hK K
      refine wpAnyH_ready (rs := [3]) (by kernel_rfl) (by simp) (AllReadyH.cons rfl (fun K hK => ?_) AllReadyH.nil)
      go_simp
      go_wp2_with (go_at_call 22; (with_reducible refine (KMG.out _ z2).mono ?_); rintro e v3 ⟨x, ax, rfl, hcm, hst, q3⟩)
      have z3 := z2.trans (q3.mono z2.size)
      have HA3 : Hid (Tk6 v3 XA tbZ taZ) := Lib.hid ((q3.block _ HA2.out.lt).trans HA2.out)
      have HM3 := Lib.hid hst
      have HC := Lib.hid hcm
      clear hcm hst
      refine hK.out _ _ (HS.out _ z3) (fun hS3 => ?_)
      clear hK K
      refine wpAnyH_ready (rs := [5]) (by kernel_rfl) (by simp) (AllReadyH.cons rfl (fun K hK => ?_) AllReadyH.nil)
      obtain ⟨g0, g1, g2, g3, g4, g5⟩ := thaw6 HA3.out
      obtain ⟨f0, f1, f2, f3, f4, f5⟩ := cells6 HA3.out
      have HB := Lib.hid (Bxt.put z3 HX.out HA3.out HM3.out)
      go_simp
      refine hK.out _ _ (HS.out _ HB.out.be) (fun hSZ => ?_)
      clear hK K
      refine wpAnyH_done (by kernel_rfl) ?_ _
      go_wp2_with fail
      go_meet
      exact ⟨XA, x, ax, rfl, HB, HC⟩
  case rest =>
  obtain ⟨X4, x4, a4, rfl, HX4, HC4⟩ := hcut
  obtain ⟨V10, hV10⟩ : ∃ V, V = wc := ⟨_, rfl⟩
  subst hV10
  have ZZ := Lib.hid (Z9.out.trans (HX4.out.be.mono Z9.out.size))
  have HB9 := HX4.out.be
  have G1 := Lib.hid (HX9.out.low HB9)
  have G2 := Lib.hid (HY9.out.low HB9)
  have G3 := Lib.hid (HX3.out.low HB9)
  have HS : Hid (∀ W, Below V10.heap.size V10 W → (fun w' => Cl6 w' T0 t a ∧ Cl6 w' X1 x1 a1 ∧ Cl6 w' X2 x2 a2 ∧ Cl6 w' X3 x3 a3 ∧ Cl6 w' X4 x4 a4) W) := Lib.hid fun W hW => ⟨cells6 (HT0.out W (ZZ.out.trans (hW.mono ZZ.out.size))), cells6 (G1.out.low hW).tk, cells6 (G2.out.low hW).tk, cells6 (G3.out.low hW).tk, cells6 (HX4.out.low hW).tk⟩
  have HEND : Hid (∀ W, Below V10.heap.size V10 W → Below w.heap.size w W) := Lib.hid fun W hW => HB1.out.trans ((ZZ.out.trans (hW.mono ZZ.out.size)).mono HB1.out.size)
  have q1 := (HC1.out.tq (by have := HL1.out; simp only [Pg.cat, Tp, List.length_append]; omega) (by have := HL1.out; simp only [Pg.cat, Tp, List.length_append]; omega) (by have := HL1.out; simp only [Pg.cat, Tp, List.length_append]; omega) (by have := HL1.out; simp only [Pg.cat, Tp, List.length_append, pl_length]; omega)).1
  have q2 := (HC2.out.tq (by have := HL1.out; simp only [Pg.cat, Pg.nil, Tp, List.append_nil]; omega) (by have := HL1.out; simp only [Pg.cat, Pg.nil, Tp, List.append_nil]; omega) (by have := HL1.out; simp only [Pg.cat, Pg.nil, Tp, List.append_nil]; omega) (by have := HL1.out; simp only [Pg.cat, Pg.nil, Tp, List.append_nil, pl_length]; omega)).1
  have q3 := (HC3.out.tq (by have := HL1.out; have := HL2.out; simp only [Pg.cat, Tp, List.length_append]; omega) (by have := HL1.out; have := HL2.out; simp only [Pg.cat, Tp, List.length_append]; omega) (by have := HL1.out; have := HL2.out; simp only [Pg.cat, Tp, List.length_append]; omega) (by have := HL1.out; have := HL2.out; simp only [Pg.cat, Tp, List.length_append, pl_length]; omega)).1
  have KD1 := Lib.hid (fun W => told_any x1 a1 W)
  have KD2 := Lib.hid (fun W => told_any x2 a2 W)
  have KD3 := Lib.hid (fun W => told_any x3 a3 W)
  have KD4 := Lib.hid (fun W => told_any x4 a4 W)
  have KS1 := Lib.hid (fun W (hW : Below V10.heap.size V10 W) => rSame9_yes (G1.out.low hW).tm.now (HST.out W (ZZ.out.trans (hW.mono ZZ.out.size))) (HTS1.out.twice HC1.out) q1)
  have KS2 := Lib.hid (fun W (hW : Below V10.heap.size V10 W) => rSame9_yes (G2.out.low hW).tm.now (HST.out W (ZZ.out.trans (hW.mono ZZ.out.size))) (HTS1.out.nil HC2.out) q2)
  have KS3 := Lib.hid (fun W (hW : Below V10.heap.size V10 W) => rSame9_yes (G3.out.low hW).tm.now (HX4.out.low hW).tm.now (merge_again HC3.out HC4.out).symm q3)
  have KSN : Hid (∀ W, Below V10.heap.size V10 W → Calls Tryz.prog 24 #[tbv x3 a3] W fun e w' => e = .returned (.bool true) ∧ Below W.heap.size W w') := Lib.hid fun W hW => (Sane_any9 W (G3.out.low hW).tm.now (by have := HL3.out; omega) (by have := HL3.out; omega) (by have := HL3.out; omega) (by have := HL3.out; omega)).mono (by
    rintro e w' ⟨c, rfl, hc, hb⟩
    exact ⟨by rw [hc.2 (ts_merge HTS1.out HC3.out)], hb⟩)
  clear q1 q2 q3 HB9
  unfold tbv at KD1 KD2 KD3 KD4 KS1 KS2 KS3 KSN
  go_upto_region 8 with fail
  have z0 : Below V10.heap.size V10 V10.drew := (Below.refl _ _).drew
  refine wp_region_held_drew (S := fun w' => Cl6 w' T0 t a ∧ Cl6 w' X1 x1 a1 ∧ Cl6 w' X2 x2 a2 ∧ Cl6 w' X3 x3 a3 ∧ Cl6 w' X4 x4 a4) (by kernel_rfl) (HS.out _ z0) (fun hS0 => ?_)
  try dsimp only at hS0
  generalize V10.drew = v0 at *
  refine wpAnyH_take (i := 0) (oi := { dst := some 44, op := Op.move (Operand.tmp 5), type := 4, pos := "law.go:113", after := #[], guard := none }) (v := ?_) rfl (by kernel_rfl) (by kernel_rfl) (by kernel_rfl) (fun _ _ _ h => h) (Or.inl ⟨by rfl, ?_⟩) (by assumption) ?_
  rotate_left
  · intro w' hSw; obtain ⟨⟨d0, d1, d2, d3, d4, d5⟩, ⟨e0, e1, e2, e3, e4, e5⟩, ⟨f0, f1, f2, f3, f4, f5⟩, ⟨g0, g1, g2, g3, g4, g5⟩, ⟨i0, i1, i2, i3, i4, i5⟩⟩ := hSw; go_simp; try with_reducible rfl
  simp only [Act.put, List.setIfInBounds_toArray, List.set_cons_zero, List.set_cons_succ]
  refine wpAnyH_take (i := 1) (oi := { dst := some 45, op := Op.move (Operand.tmp 44), type := 4, pos := "law.go:113", after := #[{ on := 0, ground := Ground.data }], guard := none }) (v := ?_) rfl (by kernel_rfl) (by kernel_rfl) (by kernel_rfl) (fun _ _ _ h => h) (Or.inl ⟨by rfl, ?_⟩) (by assumption) ?_
  rotate_left
  · intro w' hSw; obtain ⟨⟨d0, d1, d2, d3, d4, d5⟩, ⟨e0, e1, e2, e3, e4, e5⟩, ⟨f0, f1, f2, f3, f4, f5⟩, ⟨g0, g1, g2, g3, g4, g5⟩, ⟨i0, i1, i2, i3, i4, i5⟩⟩ := hSw; go_simp; try with_reducible rfl
  simp only [Act.put, List.setIfInBounds_toArray, List.set_cons_zero, List.set_cons_succ]
  refine wpAnyH_take (i := 2) (oi := { dst := some 46, op := Op.load 33 (Operand.tmp 6), type := 33, pos := "law.go:113", after := #[{ on := 1, ground := Ground.guard }], guard := some (1, true) }) (v := ?_) rfl (by kernel_rfl) (by kernel_rfl) (by kernel_rfl) (fun _ _ _ h => h) (Or.inl ⟨by rfl, ?_⟩) (by assumption) ?_
  rotate_left
  · intro w' hSw; obtain ⟨⟨d0, d1, d2, d3, d4, d5⟩, ⟨e0, e1, e2, e3, e4, e5⟩, ⟨f0, f1, f2, f3, f4, f5⟩, ⟨g0, g1, g2, g3, g4, g5⟩, ⟨i0, i1, i2, i3, i4, i5⟩⟩ := hSw; go_simp; try with_reducible rfl
  simp only [Act.put, List.setIfInBounds_toArray, List.set_cons_zero, List.set_cons_succ]
  refine wpAnyH_take (i := 4) (oi := { dst := some 48, op := Op.load 27 (Operand.tmp 2), type := 27, pos := "law.go:113", after := #[{ on := 1, ground := Ground.guard }], guard := some (1, true) }) (v := ?_) rfl (by kernel_rfl) (by kernel_rfl) (by kernel_rfl) (fun _ _ _ h => h) (Or.inl ⟨by rfl, ?_⟩) (by assumption) ?_
  rotate_left
  · intro w' hSw; obtain ⟨⟨d0, d1, d2, d3, d4, d5⟩, ⟨e0, e1, e2, e3, e4, e5⟩, ⟨f0, f1, f2, f3, f4, f5⟩, ⟨g0, g1, g2, g3, g4, g5⟩, ⟨i0, i1, i2, i3, i4, i5⟩⟩ := hSw; go_simp; try with_reducible rfl
  simp only [Act.put, List.setIfInBounds_toArray, List.set_cons_zero, List.set_cons_succ]
  refine wpAnyH_ready (rs := [3]) (by kernel_rfl) (by simp) (AllReadyH.cons rfl (fun K hK => ?_) AllReadyH.nil)
  go_simp
  go_wp2_with (go_at_call 13; (with_reducible refine (KD1.out _).mono ?_); rintro e v1 ⟨rfl, q1⟩)
  have z1 := z0.trans (q1.mono z0.size)
  refine hK.out _ _ (HS.out _ z1) (fun hS1 => ?_)
  clear hK K
  refine wpAnyH_ready (rs := [5]) (by kernel_rfl) (by simp) (AllReadyH.cons rfl (fun K hK => ?_) AllReadyH.nil)
  go_simp
  go_wp2_with (go_at_call 12; (with_reducible refine (KS1.out _ z1).mono ?_); rintro e v2 ⟨rfl, q2⟩)
  have z2 := z1.trans (q2.mono z1.size)
  refine hK.out _ _ (HS.out _ z2) (fun hS2 => ?_)
  clear hK K
  refine wpAnyH_take (i := 6) (oi := { dst := some 50, op := Op.pick (Operand.tmp 45) (Operand.tmp 49) (Operand.const (Value.bool false)), type := 4, pos := "law.go:113", after := #[{ on := 1, ground := Ground.data }, { on := 5, ground := Ground.data }], guard := none }) (v := ?_) rfl (by kernel_rfl) (by kernel_rfl) (by kernel_rfl) (fun _ _ _ h => h) (Or.inl ⟨by rfl, ?_⟩) (by assumption) ?_
  rotate_left
  · intro w' hSw; obtain ⟨⟨d0, d1, d2, d3, d4, d5⟩, ⟨e0, e1, e2, e3, e4, e5⟩, ⟨f0, f1, f2, f3, f4, f5⟩, ⟨g0, g1, g2, g3, g4, g5⟩, ⟨i0, i1, i2, i3, i4, i5⟩⟩ := hSw; go_simp; try with_reducible rfl
  simp only [Act.put, List.setIfInBounds_toArray, List.set_cons_zero, List.set_cons_succ]
  refine wpAnyH_take (i := 7) (oi := { dst := some 51, op := Op.move (Operand.tmp 50), type := 4, pos := "law.go:113", after := #[{ on := 6, ground := Ground.data }, { on := 5, ground := Ground.chain }], guard := none }) (v := ?_) rfl (by kernel_rfl) (by kernel_rfl) (by kernel_rfl) (fun _ _ _ h => h) (Or.inl ⟨by rfl, ?_⟩) (by assumption) ?_
  rotate_left
  · intro w' hSw; obtain ⟨⟨d0, d1, d2, d3, d4, d5⟩, ⟨e0, e1, e2, e3, e4, e5⟩, ⟨f0, f1, f2, f3, f4, f5⟩, ⟨g0, g1, g2, g3, g4, g5⟩, ⟨i0, i1, i2, i3, i4, i5⟩⟩ := hSw; go_simp; try with_reducible rfl
  simp only [Act.put, List.setIfInBounds_toArray, List.set_cons_zero, List.set_cons_succ]
  refine wpAnyH_take (i := 8) (oi := { dst := some 52, op := Op.load 33 (Operand.tmp 7), type := 33, pos := "law.go:113", after := #[{ on := 7, ground := Ground.guard }], guard := some (7, true) }) (v := ?_) rfl (by kernel_rfl) (by kernel_rfl) (by kernel_rfl) (fun _ _ _ h => h) (Or.inl ⟨by rfl, ?_⟩) (by assumption) ?_
  rotate_left
  · intro w' hSw; obtain ⟨⟨d0, d1, d2, d3, d4, d5⟩, ⟨e0, e1, e2, e3, e4, e5⟩, ⟨f0, f1, f2, f3, f4, f5⟩, ⟨g0, g1, g2, g3, g4, g5⟩, ⟨i0, i1, i2, i3, i4, i5⟩⟩ := hSw; go_simp; try with_reducible rfl
  simp only [Act.put, List.setIfInBounds_toArray, List.set_cons_zero, List.set_cons_succ]
  refine wpAnyH_take (i := 10) (oi := { dst := some 54, op := Op.load 27 (Operand.tmp 2), type := 27, pos := "law.go:113", after := #[{ on := 7, ground := Ground.guard }], guard := some (7, true) }) (v := ?_) rfl (by kernel_rfl) (by kernel_rfl) (by kernel_rfl) (fun _ _ _ h => h) (Or.inl ⟨by rfl, ?_⟩) (by assumption) ?_
  rotate_left
  · intro w' hSw; obtain ⟨⟨d0, d1, d2, d3, d4, d5⟩, ⟨e0, e1, e2, e3, e4, e5⟩, ⟨f0, f1, f2, f3, f4, f5⟩, ⟨g0, g1, g2, g3, g4, g5⟩, ⟨i0, i1, i2, i3, i4, i5⟩⟩ := hSw; go_simp; try with_reducible rfl
  simp only [Act.put, List.setIfInBounds_toArray, List.set_cons_zero, List.set_cons_succ]
  refine wpAnyH_ready (rs := [9]) (by kernel_rfl) (by simp) (AllReadyH.cons rfl (fun K hK => ?_) AllReadyH.nil)
  go_simp
  go_wp2_with (go_at_call 13; (with_reducible refine (KD2.out _).mono ?_); rintro e v3 ⟨rfl, q3⟩)
  have z3 := z2.trans (q3.mono z2.size)
  refine hK.out _ _ (HS.out _ z3) (fun hS3 => ?_)
  clear hK K
  refine wpAnyH_ready (rs := [11]) (by kernel_rfl) (by simp) (AllReadyH.cons rfl (fun K hK => ?_) AllReadyH.nil)
  go_simp
  go_wp2_with (go_at_call 12; (with_reducible refine (KS2.out _ z3).mono ?_); rintro e v4 ⟨rfl, q4⟩)
  have z4 := z3.trans (q4.mono z3.size)
  refine hK.out _ _ (HS.out _ z4) (fun hS4 => ?_)
  clear hK K
  refine wpAnyH_take (i := 12) (oi := { dst := some 56, op := Op.pick (Operand.tmp 51) (Operand.tmp 55) (Operand.const (Value.bool false)), type := 4, pos := "law.go:113", after := #[{ on := 7, ground := Ground.data }, { on := 11, ground := Ground.data }], guard := none }) (v := ?_) rfl (by kernel_rfl) (by kernel_rfl) (by kernel_rfl) (fun _ _ _ h => h) (Or.inl ⟨by rfl, ?_⟩) (by assumption) ?_
  rotate_left
  · intro w' hSw; obtain ⟨⟨d0, d1, d2, d3, d4, d5⟩, ⟨e0, e1, e2, e3, e4, e5⟩, ⟨f0, f1, f2, f3, f4, f5⟩, ⟨g0, g1, g2, g3, g4, g5⟩, ⟨i0, i1, i2, i3, i4, i5⟩⟩ := hSw; go_simp; try with_reducible rfl
  simp only [Act.put, List.setIfInBounds_toArray, List.set_cons_zero, List.set_cons_succ]
  refine wpAnyH_take (i := 13) (oi := { dst := some 57, op := Op.move (Operand.tmp 56), type := 4, pos := "law.go:113", after := #[{ on := 12, ground := Ground.data }, { on := 11, ground := Ground.chain }], guard := none }) (v := ?_) rfl (by kernel_rfl) (by kernel_rfl) (by kernel_rfl) (fun _ _ _ h => h) (Or.inl ⟨by rfl, ?_⟩) (by assumption) ?_
  rotate_left
  · intro w' hSw; obtain ⟨⟨d0, d1, d2, d3, d4, d5⟩, ⟨e0, e1, e2, e3, e4, e5⟩, ⟨f0, f1, f2, f3, f4, f5⟩, ⟨g0, g1, g2, g3, g4, g5⟩, ⟨i0, i1, i2, i3, i4, i5⟩⟩ := hSw; go_simp; try with_reducible rfl
  simp only [Act.put, List.setIfInBounds_toArray, List.set_cons_zero, List.set_cons_succ]
  refine wpAnyH_take (i := 14) (oi := { dst := some 58, op := Op.load 33 (Operand.tmp 8), type := 33, pos := "law.go:113", after := #[{ on := 13, ground := Ground.guard }], guard := some (13, true) }) (v := ?_) rfl (by kernel_rfl) (by kernel_rfl) (by kernel_rfl) (fun _ _ _ h => h) (Or.inl ⟨by rfl, ?_⟩) (by assumption) ?_
  rotate_left
  · intro w' hSw; obtain ⟨⟨d0, d1, d2, d3, d4, d5⟩, ⟨e0, e1, e2, e3, e4, e5⟩, ⟨f0, f1, f2, f3, f4, f5⟩, ⟨g0, g1, g2, g3, g4, g5⟩, ⟨i0, i1, i2, i3, i4, i5⟩⟩ := hSw; go_simp; try with_reducible rfl
  simp only [Act.put, List.setIfInBounds_toArray, List.set_cons_zero, List.set_cons_succ]
  refine wpAnyH_ready (rs := [15]) (by kernel_rfl) (by simp) (AllReadyH.cons rfl (fun K hK => ?_) AllReadyH.nil)
  go_simp
  go_wp2_with (go_at_call 24; (with_reducible refine (KSN.out _ z4).mono ?_); rintro e v5 ⟨rfl, q5⟩)
  have z5 := z4.trans (q5.mono z4.size)
  refine hK.out _ _ (HS.out _ z5) (fun hS5 => ?_)
  clear hK K
  refine wpAnyH_take (i := 16) (oi := { dst := some 60, op := Op.pick (Operand.tmp 57) (Operand.tmp 59) (Operand.const (Value.bool false)), type := 4, pos := "law.go:113", after := #[{ on := 13, ground := Ground.data }, { on := 15, ground := Ground.data }], guard := none }) (v := ?_) rfl (by kernel_rfl) (by kernel_rfl) (by kernel_rfl) (fun _ _ _ h => h) (Or.inl ⟨by rfl, ?_⟩) (by assumption) ?_
  rotate_left
  · intro w' hSw; obtain ⟨⟨d0, d1, d2, d3, d4, d5⟩, ⟨e0, e1, e2, e3, e4, e5⟩, ⟨f0, f1, f2, f3, f4, f5⟩, ⟨g0, g1, g2, g3, g4, g5⟩, ⟨i0, i1, i2, i3, i4, i5⟩⟩ := hSw; go_simp; try with_reducible rfl
  simp only [Act.put, List.setIfInBounds_toArray, List.set_cons_zero, List.set_cons_succ]
  refine wpAnyH_take (i := 17) (oi := { dst := some 61, op := Op.move (Operand.tmp 60), type := 4, pos := "law.go:113", after := #[{ on := 16, ground := Ground.data }, { on := 15, ground := Ground.chain }], guard := none }) (v := ?_) rfl (by kernel_rfl) (by kernel_rfl) (by kernel_rfl) (fun _ _ _ h => h) (Or.inl ⟨by rfl, ?_⟩) (by assumption) ?_
  rotate_left
  · intro w' hSw; obtain ⟨⟨d0, d1, d2, d3, d4, d5⟩, ⟨e0, e1, e2, e3, e4, e5⟩, ⟨f0, f1, f2, f3, f4, f5⟩, ⟨g0, g1, g2, g3, g4, g5⟩, ⟨i0, i1, i2, i3, i4, i5⟩⟩ := hSw; go_simp; try with_reducible rfl
  simp only [Act.put, List.setIfInBounds_toArray, List.set_cons_zero, List.set_cons_succ]
  refine wpAnyH_take (i := 18) (oi := { dst := some 62, op := Op.load 33 (Operand.tmp 8), type := 33, pos := "law.go:113", after := #[{ on := 17, ground := Ground.guard }], guard := some (17, true) }) (v := ?_) rfl (by kernel_rfl) (by kernel_rfl) (by kernel_rfl) (fun _ _ _ h => h) (Or.inl ⟨by rfl, ?_⟩) (by assumption) ?_
  rotate_left
  · intro w' hSw; obtain ⟨⟨d0, d1, d2, d3, d4, d5⟩, ⟨e0, e1, e2, e3, e4, e5⟩, ⟨f0, f1, f2, f3, f4, f5⟩, ⟨g0, g1, g2, g3, g4, g5⟩, ⟨i0, i1, i2, i3, i4, i5⟩⟩ := hSw; go_simp; try with_reducible rfl
  simp only [Act.put, List.setIfInBounds_toArray, List.set_cons_zero, List.set_cons_succ]
  refine wpAnyH_take (i := 20) (oi := { dst := some 64, op := Op.load 33 (Operand.tmp 9), type := 33, pos := "law.go:113", after := #[{ on := 17, ground := Ground.guard }], guard := some (17, true) }) (v := ?_) rfl (by kernel_rfl) (by kernel_rfl) (by kernel_rfl) (fun _ _ _ h => h) (Or.inl ⟨by rfl, ?_⟩) (by assumption) ?_
  rotate_left
  · intro w' hSw; obtain ⟨⟨d0, d1, d2, d3, d4, d5⟩, ⟨e0, e1, e2, e3, e4, e5⟩, ⟨f0, f1, f2, f3, f4, f5⟩, ⟨g0, g1, g2, g3, g4, g5⟩, ⟨i0, i1, i2, i3, i4, i5⟩⟩ := hSw; go_simp; try with_reducible rfl
  simp only [Act.put, List.setIfInBounds_toArray, List.set_cons_zero, List.set_cons_succ]
  refine wpAnyH_ready (rs := [19]) (by kernel_rfl) (by simp) (AllReadyH.cons rfl (fun K hK => ?_) AllReadyH.nil)
  go_simp
  go_wp2_with (go_at_call 13; (with_reducible refine (KD3.out _).mono ?_); rintro e v6 ⟨rfl, q6⟩)
  have z6 := z5.trans (q6.mono z5.size)
  refine hK.out _ _ (HS.out _ z6) (fun hS6 => ?_)
  clear hK K
  refine wpAnyH_ready (rs := [21]) (by kernel_rfl) (by simp) (AllReadyH.cons rfl (fun K hK => ?_) AllReadyH.nil)
  go_simp
  go_wp2_with (go_at_call 13; (with_reducible refine (KD4.out _).mono ?_); rintro e v7 ⟨rfl, q7⟩)
  have z7 := z6.trans (q7.mono z6.size)
  refine hK.out _ _ (HS.out _ z7) (fun hS7 => ?_)
  clear hK K
  refine wpAnyH_ready (rs := [22]) (by kernel_rfl) (by simp) (AllReadyH.cons rfl (fun K hK => ?_) AllReadyH.nil)
  go_simp
  go_wp2_with (go_at_call 12; (with_reducible refine (KS3.out _ z7).mono ?_); rintro e v8 ⟨rfl, q8⟩)
  have z8 := z7.trans (q8.mono z7.size)
  refine hK.out _ _ (HS.out _ z8) (fun hS8 => ?_)
  clear hK K
  refine wpAnyH_take (i := 23) (oi := { dst := some 67, op := Op.pick (Operand.tmp 61) (Operand.tmp 66) (Operand.const (Value.bool false)), type := 4, pos := "law.go:113", after := #[{ on := 17, ground := Ground.data }, { on := 22, ground := Ground.data }], guard := none }) (v := ?_) rfl (by kernel_rfl) (by kernel_rfl) (by kernel_rfl) (fun _ _ _ h => h) (Or.inl ⟨by rfl, ?_⟩) (by assumption) ?_
  rotate_left
  · intro w' hSw; obtain ⟨⟨d0, d1, d2, d3, d4, d5⟩, ⟨e0, e1, e2, e3, e4, e5⟩, ⟨f0, f1, f2, f3, f4, f5⟩, ⟨g0, g1, g2, g3, g4, g5⟩, ⟨i0, i1, i2, i3, i4, i5⟩⟩ := hSw; go_simp; try with_reducible rfl
  simp only [Act.put, List.setIfInBounds_toArray, List.set_cons_zero, List.set_cons_succ]
  refine wpAnyH_take (i := 24) (oi := { dst := some 4, op := Op.assign (Operand.tmp 67), type := 4, pos := "law.go:113", after := #[{ on := 23, ground := Ground.data }, { on := 22, ground := Ground.chain }, { on := 0, ground := Ground.phase }, { on := 1, ground := Ground.phase }, { on := 2, ground := Ground.phase }, { on := 3, ground := Ground.phase }, { on := 4, ground := Ground.phase }, { on := 5, ground := Ground.phase }, { on := 6, ground := Ground.phase }, { on := 7, ground := Ground.phase }, { on := 8, ground := Ground.phase }, { on := 9, ground := Ground.phase }, { on := 10, ground := Ground.phase }, { on := 11, ground := Ground.phase }, { on := 12, ground := Ground.phase }, { on := 13, ground := Ground.phase }, { on := 14, ground := Ground.phase }, { on := 15, ground := Ground.phase }, { on := 16, ground := Ground.phase }, { on := 17, ground := Ground.phase }, { on := 18, ground := Ground.phase }, { on := 19, ground := Ground.phase }, { on := 20, ground := Ground.phase }, { on := 21, ground := Ground.phase }, { on := 22, ground := Ground.phase }, { on := 23, ground := Ground.phase }], guard := none }) (v := ?_) rfl (by kernel_rfl) (by kernel_rfl) (by kernel_rfl) (fun _ _ _ h => h) (Or.inl ⟨by rfl, ?_⟩) (by assumption) ?_
  rotate_left
  · intro w' hSw; obtain ⟨⟨d0, d1, d2, d3, d4, d5⟩, ⟨e0, e1, e2, e3, e4, e5⟩, ⟨f0, f1, f2, f3, f4, f5⟩, ⟨g0, g1, g2, g3, g4, g5⟩, ⟨i0, i1, i2, i3, i4, i5⟩⟩ := hSw; go_simp; try with_reducible rfl
  simp only [Act.put, List.setIfInBounds_toArray, List.set_cons_zero, List.set_cons_succ]
  refine wpAnyH_done (by kernel_rfl) ?_ _
  go_wp2
  go_ret
  exact ⟨rfl, HEND.out _ z8⟩
end Go.Proofs.YtmjneokjgcgchaaGreat
