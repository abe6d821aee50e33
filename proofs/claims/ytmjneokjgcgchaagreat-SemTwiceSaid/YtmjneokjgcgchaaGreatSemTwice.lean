/-
  WHAT IS SAID TWICE IS SAID ONCE: the law's walk.
-/
import Derived.Test.YtmjneokjgcgchaaGreatSemLaw0
import Derived.Test.YtmjneokjgcgchaaGreatSemCm
namespace Go.Proofs.YtmjneokjgcgchaaGreat
open Go.RowKit

theorem own_empty9 (w : World) (B : Nat) (e : TypeId) (hB : B ≤ w.heap.size) : (w.alloc (.cells #[] e)).ownsRow B e 8 (.slice (some ⟨w.heap.size, 0, none⟩) 0 0) 0 (([] : List (Im × Value)).flatMap iq) :=
  ⟨rfl, .inr ⟨w.heap.size, 0, #[], rfl, hB, heap_alloc_new w _, Nat.le_refl _, by unfold maxLen; omega, rfl, rfl⟩⟩
set_option maxRecDepth 100000 in
set_option maxHeartbeats 8000000 in
theorem twice_walk {v : Value} {is : List Im} (w : World) (hx : Ix w (fun _ => False) v is) (hl : is.length ≤ maxLen) (hb : ∀ x ∈ is, Ib x) (hz : ∀ x ∈ is, Iz x) :
    Calls Tryz.prog 8 #[v] w fun e w' => e = .returned (.bool true) ∧ Below w.heap.size w w' := by
  obtain ⟨i0, hi, hz0, hz1, hz2⟩ := info_parts infoI5
  have HA := Lib.hid (fun W => awake9_any W)
  have KS := Lib.hid (fun W (hW : Below w.heap.size w W) => rShort9_any W (hx.any (Kp.of_below hW)) hl hb hz)
  have HX := Lib.hid hx
  obtain ⟨d, hd, hr, hn⟩ := hx
  obtain ⟨Av, cv, hve, _⟩ := id hr
  subst hve
  have hdl : d.length = is.length := by rw [hd]; simp
  have HD := Lib.hid hd
  have HR := Lib.hid hr
  have HN := Lib.hid hn
  have HDL := Lib.hid hdl
  unfold maxLen at hl
  rw [← hdl] at hl
  clear hd hr hn hdl hb hz
  generalize hnn : d.length = n at *
  have HL := Lib.hid hnn
  clear hnn
  go_enter Tryz.func8, Tryz.ntmps8
  go_wp2_with fail
  refine (HA.out _).mono ?_
  rintro e w1 ⟨rfl, hb1⟩
  go_wp2_with fail
  refine (KS.out _ hb1).mono ?_
  rintro e w2 ⟨b0, rfl, hb0, hb2⟩
  have hbw2 := hb1.trans (hb2.mono hb1.size)
  have HB2 := Lib.hid hbw2
  have HB0 := Lib.hid hb0
  clear hb1 hb2 hbw2 hb0
  cases b0 with
  | false =>
    go_wp2
    go_ret
    exact ⟨rfl, HB2.out⟩
  | true =>
    obtain ⟨hs1, hs2⟩ := HB0.out rfl
    by_cases h30 : 30 < n
    · have t30 : decide ((n : Int) > 30) = true := by simp; omega
      go_wp2
      go_ret
      exact ⟨rfl, HB2.out⟩
    · have t30 : decide ((n : Int) > 30) = false := by simp; omega
      have hix2 := HX.out.any (Kp.of_below HB2.out)
      have hxb := short_xb hs1 hs2
      have HXB := Lib.hid hxb
      have hpb := short_lens hs1 hs2 Pg.nil
      have hpb2 := short_lens hs1 hs2 (lstL Pg.nil is)
      simp only [show Pg.nil.sp.length = 0 from rfl, show Pg.nil.ci.length = 0 from rfl, show Pg.nil.no.length = 0 from rfl, show Pg.nil.bf.length = 0 from rfl] at hpb
      have HP1 : Hid (Pb (lstL Pg.nil is)) := Lib.hid ⟨by omega, by omega, by omega, by omega⟩
      have HP2 : Hid (Pb (lstL Pg.nil (is ++ is))) := Lib.hid (by rw [lstL_append]; exact ⟨by omega, by omega, by omega, by omega⟩)
      have HIS := Lib.hid hs1
      have KO := Lib.hid (ours_any w2 hix2 (by omega) (fun x hx => Nat.le_trans (hxb x hx).1 (by omega)))
      clear hix2 hxb hpb hpb2 hs1 hs2
      go_wp2_with fail
      refine KO.out.mono ?_
      rintro e w3 ⟨v3, rfl, hix3, hb3⟩
      have KA := Lib.hid (All_any w3 hix3 (by have := HIS.out; omega) HXB.out HP1.out)
      have HB3 := Lib.hid (HB2.out.trans (hb3.mono HB2.out.size))
      clear hix3 hb3
      go_wp2_with fail
      refine KA.out.mono ?_
      rintro e w4 ⟨t, a, rfl, hcm, hst, hb4⟩
      have HCM := Lib.hid hcm
      have HST := Lib.hid hst
      have HB4 := Lib.hid (HB3.out.trans (hb4.mono HB3.out.size))
      clear hcm hst hb4
      have hb5 : Below w4.heap.size w4 (w4.alloc (.cells #[.string (str t.nm), .int .i64 t.wm, .slice a.a0 t.sp.length a.c0, .slice a.a1 t.ci.length a.c1, .slice a.a2 t.no.length a.c2, .slice a.a3 t.bf.length a.c3] 33)) := (Below.refl _ _).alloc (Nat.le_refl _) _
      have hx4 := heap_alloc_new w4 (.cells #[.string (str t.nm), .int .i64 t.wm, .slice a.a0 t.sp.length a.c0, .slice a.a1 t.ci.length a.c1, .slice a.a2 t.no.length a.c2, .slice a.a3 t.bf.length a.c3] 33)
      obtain ⟨W5, hW5⟩ : ∃ W, W = w4.alloc (.cells #[.string (str t.nm), .int .i64 t.wm, .slice a.a0 t.sp.length a.c0, .slice a.a1 t.ci.length a.c1, .slice a.a2 t.no.length a.c2, .slice a.a3 t.bf.length a.c3] 33) := ⟨_, rfl⟩
      rw [← hW5] at hb5 hx4
      have HB5 := Lib.hid (HB4.out.trans (hb5.mono HB4.out.size))
      have HST5 := Lib.hid (HST.out.below hb5)
      have HX4 := Lib.hid hx4
      have hV5 := hW5.symm
      have hsz5 : w.heap.size ≤ W5.heap.size := HB5.out.size
      have hwr : Rw W5 (fun _ => False) 8 iq (.slice Av n cv) d := HR.out.any (Kp.of_below HB5.out)
      have HWR : Hid (∀ W, Below W5.heap.size W5 W → Rw W (fun _ => False) 8 iq (.slice Av n cv) d) := Lib.hid fun W hW => Rw.any hwr (Kp.of_below hW)
      have hone : ∀ p ∈ d, ∃ A n c, p.2 = .slice A n c := fun p hp => (HN.out p hp).shape'
      have HONE := Lib.hid hone
      have hbE : Below W5.heap.size W5 (W5.alloc (.cells #[] 46)) := (Below.refl _ _).alloc (Nat.le_refl _) _
      have HBE := Lib.hid hbE
      clear hb5 hx4 hW5 hwr hone hbE
      unfold tbv
      go_wp2_with (first | (at_builtin; refine app_items rfl (.tmp 20) (.tmp 21) _ rfl W5.heap.size 46 i0 (.agg #[.int .i64 0, .int .i64 0, .string ⟨#[]⟩, .int .i64 0, .int .i64 0, .int .i64 0, .string ⟨#[]⟩, .slice none 0 0]) Tryz.underlying22 hi hz0 hz1 hz2 rfl _ 0 [] rfl (own_empty9 W5 _ _ (Nat.le_refl _)) (fun _ => False) _ d rfl (HWR.out _ HBE.out) HONE.out (by have := HL.out; omega) HBE.out.size ?_; intro v6 w6 hown6 hgrow6; have z6 := HBE.out.grown hgrow6 HBE.out.size (fun g hg => ((own_empty9 W5 W5.heap.size 46 (Nat.le_refl _)).lt g hg).1)) | (at_builtin; refine app_items rfl (.tmp 23) (.tmp 24) _ rfl W5.heap.size 46 i0 (.agg #[.int .i64 0, .int .i64 0, .string ⟨#[]⟩, .int .i64 0, .int .i64 0, .int .i64 0, .string ⟨#[]⟩, .slice none 0 0]) Tryz.underlying22 hi hz0 hz1 hz2 rfl _ _ ([] ++ d) rfl hown6 (fun _ => False) _ d rfl (HWR.out _ z6) HONE.out (by have := HL.out; omega) z6.size ?_; intro v7 w7 hown7 hgrow7; have z7 := z6.grown hgrow7 z6.size (fun g hg => (hown6.lt g hg).1)))
      have hix7 : Ix w7 (fun _ => False) v7 (is ++ is) := by
        have e7 : (([] ++ d : List (Im × Value)) ++ d).map (·.1) = is ++ is := by rw [HD.out]; simp
        rw [← e7]
        exact Ix.both (HB5.out.trans (z7.mono hsz5)) hown7 (fun p hp => HN.out p (by simpa using hp)) HN.out
      have KO2 := Lib.hid (ours_any w7 hix7 (by have := HIS.out; simp; omega) (fun x hx => Nat.le_trans (HXB.out x (by simpa using hx)).1 (by omega)))
      have Z7 := Lib.hid z7
      clear hix7 hown6 hgrow6 hown7 hgrow7 z6 z7
      go_wp2_with fail
      refine KO2.out.mono ?_
      rintro e w8 ⟨v8, rfl, hix8, hb8⟩
      have KA2 := Lib.hid (All_any w8 hix8 (by have := HIS.out; simp; omega) (fun x hx => HXB.out x (by simpa using hx)) HP2.out)
      have Z8 := Lib.hid (Z7.out.trans (hb8.mono Z7.out.size))
      clear hix8 hb8
      go_wp2_with fail
      refine KA2.out.mono ?_
      rintro e w9 ⟨u, b, rfl, hcm2, hst2, hb9⟩
      have Z9 := Lib.hid (Z8.out.trans (hb9.mono Z8.out.size))
      have hbA : Below w9.heap.size w9 (w9.alloc (.cells #[.string (str u.nm), .int .i64 u.wm, .slice b.a0 u.sp.length b.c0, .slice b.a1 u.ci.length b.c1, .slice b.a2 u.no.length b.c2, .slice b.a3 u.bf.length b.c3] 33)) := (Below.refl _ _).alloc (Nat.le_refl _) _
      have hx6 := heap_alloc_new w9 (.cells #[.string (str u.nm), .int .i64 u.wm, .slice b.a0 u.sp.length b.c0, .slice b.a1 u.ci.length b.c1, .slice b.a2 u.no.length b.c2, .slice b.a3 u.bf.length b.c3] 33)
      have hx4' : (w9.alloc (.cells #[.string (str u.nm), .int .i64 u.wm, .slice b.a0 u.sp.length b.c0, .slice b.a1 u.ci.length b.c1, .slice b.a2 u.no.length b.c2, .slice b.a3 u.bf.length b.c3] 33)).heap[w4.heap.size]? = some (.cells #[.string (str t.nm), .int .i64 t.wm, .slice a.a0 t.sp.length a.c0, .slice a.a1 t.ci.length a.c1, .slice a.a2 t.no.length a.c2, .slice a.a3 t.bf.length a.c3] 33 (0, 0)) := (Below.heap_alloc _ _ _ (Nat.lt_of_lt_of_le (Array.getElem?_eq_some_iff.1 HX4.out).1 Z9.out.size)).trans ((Z9.out.block _ (Array.getElem?_eq_some_iff.1 HX4.out).1).trans HX4.out)
      have hstA := (HST5.out.below Z9.out).below hbA
      have hstB := hst2.below hbA
      have hbZ := (HB5.out.trans (Z9.out.mono hsz5)).trans (hbA.mono (HB5.out.trans (Z9.out.mono hsz5)).size)
      have HS : Hid (∀ W, Below (w9.alloc (.cells #[.string (str u.nm), .int .i64 u.wm, .slice b.a0 u.sp.length b.c0, .slice b.a1 u.ci.length b.c1, .slice b.a2 u.no.length b.c2, .slice b.a3 u.bf.length b.c3] 33)).heap.size (w9.alloc (.cells #[.string (str u.nm), .int .i64 u.wm, .slice b.a0 u.sp.length b.c0, .slice b.a1 u.ci.length b.c1, .slice b.a2 u.no.length b.c2, .slice b.a3 u.bf.length b.c3] 33)) W → (fun w' => (w'.cell? ⟨w4.heap.size, 0, none⟩ = some (.string (str t.nm)) ∧ w'.cell? ⟨w4.heap.size, 1, none⟩ = some (.int .i64 t.wm) ∧ w'.cell? ⟨w4.heap.size, 2, none⟩ = some (.slice a.a0 t.sp.length a.c0) ∧ w'.cell? ⟨w4.heap.size, 3, none⟩ = some (.slice a.a1 t.ci.length a.c1) ∧ w'.cell? ⟨w4.heap.size, 4, none⟩ = some (.slice a.a2 t.no.length a.c2) ∧ w'.cell? ⟨w4.heap.size, 5, none⟩ = some (.slice a.a3 t.bf.length a.c3)) ∧ (w'.cell? ⟨w9.heap.size, 0, none⟩ = some (.string (str u.nm)) ∧ w'.cell? ⟨w9.heap.size, 1, none⟩ = some (.int .i64 u.wm) ∧ w'.cell? ⟨w9.heap.size, 2, none⟩ = some (.slice b.a0 u.sp.length b.c0) ∧ w'.cell? ⟨w9.heap.size, 3, none⟩ = some (.slice b.a1 u.ci.length b.c1) ∧ w'.cell? ⟨w9.heap.size, 4, none⟩ = some (.slice b.a2 u.no.length b.c2) ∧ w'.cell? ⟨w9.heap.size, 5, none⟩ = some (.slice b.a3 u.bf.length b.c3))) W) := Lib.hid fun W hW => ⟨cells6 ((hW.block _ (by have := (Array.getElem?_eq_some_iff.1 hx4').1; exact this)).trans hx4'), cells6 ((hW.block _ (by simp)).trans hx6)⟩
      have HEND : Hid (∀ W, Below (w9.alloc (.cells #[.string (str u.nm), .int .i64 u.wm, .slice b.a0 u.sp.length b.c0, .slice b.a1 u.ci.length b.c1, .slice b.a2 u.no.length b.c2, .slice b.a3 u.bf.length b.c3] 33)).heap.size (w9.alloc (.cells #[.string (str u.nm), .int .i64 u.wm, .slice b.a0 u.sp.length b.c0, .slice b.a1 u.ci.length b.c1, .slice b.a2 u.no.length b.c2, .slice b.a3 u.bf.length b.c3] 33)) W → Below w.heap.size w W) := Lib.hid fun W hW => hbZ.trans (hW.mono hbZ.size)
      obtain ⟨q1, _⟩ := HCM.out.tq HP1.out.1 HP1.out.2.1 HP1.out.2.2.1 HP1.out.2.2.2
      obtain ⟨_, q3, q4, q5, q6⟩ := hcm2.tq HP2.out.1 HP2.out.2.1 HP2.out.2.2.1 HP2.out.2.2.2
      have KT1 := Lib.hid (fun W => told_any t a W)
      have KT2 := Lib.hid (fun W => told_any u b W)
      have KSM := Lib.hid (fun W (hW : Below (w9.alloc (.cells #[.string (str u.nm), .int .i64 u.wm, .slice b.a0 u.sp.length b.c0, .slice b.a1 u.ci.length b.c1, .slice b.a2 u.no.length b.c2, .slice b.a3 u.bf.length b.c3] 33)).heap.size (w9.alloc (.cells #[.string (str u.nm), .int .i64 u.wm, .slice b.a0 u.sp.length b.c0, .slice b.a1 u.ci.length b.c1, .slice b.a2 u.no.length b.c2, .slice b.a3 u.bf.length b.c3] 33)) W) => rSame9_yes (hstA.below hW).now (hstB.below hW).now (twice_cm HCM.out hcm2).symm q1)
      have KSN : Hid (∀ W, Below (w9.alloc (.cells #[.string (str u.nm), .int .i64 u.wm, .slice b.a0 u.sp.length b.c0, .slice b.a1 u.ci.length b.c1, .slice b.a2 u.no.length b.c2, .slice b.a3 u.bf.length b.c3] 33)).heap.size (w9.alloc (.cells #[.string (str u.nm), .int .i64 u.wm, .slice b.a0 u.sp.length b.c0, .slice b.a1 u.ci.length b.c1, .slice b.a2 u.no.length b.c2, .slice b.a3 u.bf.length b.c3] 33)) W → Calls Tryz.prog 24 #[tbv u b] W fun e w' => e = .returned (.bool true) ∧ Below W.heap.size W w') := Lib.hid fun W hW => (Sane_any9 W (hstB.below hW).now q3 (by omega) (by omega) (by omega)).mono (by
        rintro e w' ⟨c, rfl, hc, hb⟩
        exact ⟨by rw [hc.2 (ts_cm hcm2)], hb⟩)
      clear hcm2 hst2 hb9 hbA hx6 hx4' hstA hstB hbZ q1 q3 q4 q5 q6 hV5
      unfold tbv at KT1 KT2 KSM KSN ⊢
      go_wp2
      generalize hX4 : w4.heap.size = X4 at *
      generalize hX6 : w9.heap.size = X6 at *
      generalize w9.alloc (.cells #[.string (str u.nm), .int .i64 u.wm, .slice b.a0 u.sp.length b.c0, .slice b.a1 u.ci.length b.c1, .slice b.a2 u.no.length b.c2, .slice b.a3 u.bf.length b.c3] 33) = V1 at *
      have z0 : Below V1.heap.size V1 V1.drew := (Below.refl _ _).drew
      refine wp_region_held_drew (S := fun w' => (w'.cell? ⟨X4, 0, none⟩ = some (.string (str t.nm)) ∧ w'.cell? ⟨X4, 1, none⟩ = some (.int .i64 t.wm) ∧ w'.cell? ⟨X4, 2, none⟩ = some (.slice a.a0 t.sp.length a.c0) ∧ w'.cell? ⟨X4, 3, none⟩ = some (.slice a.a1 t.ci.length a.c1) ∧ w'.cell? ⟨X4, 4, none⟩ = some (.slice a.a2 t.no.length a.c2) ∧ w'.cell? ⟨X4, 5, none⟩ = some (.slice a.a3 t.bf.length a.c3)) ∧ (w'.cell? ⟨X6, 0, none⟩ = some (.string (str u.nm)) ∧ w'.cell? ⟨X6, 1, none⟩ = some (.int .i64 u.wm) ∧ w'.cell? ⟨X6, 2, none⟩ = some (.slice b.a0 u.sp.length b.c0) ∧ w'.cell? ⟨X6, 3, none⟩ = some (.slice b.a1 u.ci.length b.c1) ∧ w'.cell? ⟨X6, 4, none⟩ = some (.slice b.a2 u.no.length b.c2) ∧ w'.cell? ⟨X6, 5, none⟩ = some (.slice b.a3 u.bf.length b.c3))) (by kernel_rfl) (HS.out _ z0) (fun hS0 => ?_)
      try dsimp only at hS0
      refine wpAnyH_take (i := 0) (oi := { dst := some 29, op := Op.move (Operand.tmp 3), type := 4, pos := "more.go:40", after := #[], guard := none }) (v := ?_) rfl (by kernel_rfl) (by kernel_rfl) (by kernel_rfl) (fun _ _ _ h => h) (Or.inl ⟨by rfl, ?_⟩) (by assumption) ?_
      rotate_left
      · intro w' hSw; obtain ⟨⟨d0, d1, d2, d3, d4, d5⟩, ⟨e0, e1, e2, e3, e4, e5⟩⟩ := hSw; go_simp; try with_reducible rfl
      simp only [Act.put, List.setIfInBounds_toArray, List.set_cons_zero, List.set_cons_succ]
      refine wpAnyH_take (i := 1) (oi := { dst := some 30, op := Op.move (Operand.tmp 29), type := 4, pos := "more.go:40", after := #[{ on := 0, ground := Ground.data }], guard := none }) (v := ?_) rfl (by kernel_rfl) (by kernel_rfl) (by kernel_rfl) (fun _ _ _ h => h) (Or.inl ⟨by rfl, ?_⟩) (by assumption) ?_
      rotate_left
      · intro w' hSw; obtain ⟨⟨d0, d1, d2, d3, d4, d5⟩, ⟨e0, e1, e2, e3, e4, e5⟩⟩ := hSw; go_simp; try with_reducible rfl
      simp only [Act.put, List.setIfInBounds_toArray, List.set_cons_zero, List.set_cons_succ]
      refine wpAnyH_take (i := 2) (oi := { dst := some 31, op := Op.load 33 (Operand.tmp 4), type := 33, pos := "more.go:40", after := #[{ on := 1, ground := Ground.guard }], guard := some (1, true) }) (v := ?_) rfl (by kernel_rfl) (by kernel_rfl) (by kernel_rfl) (fun _ _ _ h => h) (Or.inl ⟨by rfl, ?_⟩) (by assumption) ?_
      rotate_left
      · intro w' hSw; obtain ⟨⟨d0, d1, d2, d3, d4, d5⟩, ⟨e0, e1, e2, e3, e4, e5⟩⟩ := hSw; go_simp; try with_reducible rfl
      simp only [Act.put, List.setIfInBounds_toArray, List.set_cons_zero, List.set_cons_succ]
      refine wpAnyH_take (i := 4) (oi := { dst := some 33, op := Op.load 33 (Operand.tmp 6), type := 33, pos := "more.go:40", after := #[{ on := 1, ground := Ground.guard }], guard := some (1, true) }) (v := ?_) rfl (by kernel_rfl) (by kernel_rfl) (by kernel_rfl) (fun _ _ _ h => h) (Or.inl ⟨by rfl, ?_⟩) (by assumption) ?_
      rotate_left
      · intro w' hSw; obtain ⟨⟨d0, d1, d2, d3, d4, d5⟩, ⟨e0, e1, e2, e3, e4, e5⟩⟩ := hSw; go_simp; try with_reducible rfl
      simp only [Act.put, List.setIfInBounds_toArray, List.set_cons_zero, List.set_cons_succ]
      refine wpAnyH_ready (rs := [3]) (by kernel_rfl) (by simp) (AllReadyH.cons rfl (fun K hK => ?_) AllReadyH.nil)
      go_simp
      go_wp2_with (go_at_call 13; (with_reducible refine (KT1.out _).mono ?_); rintro e v1 ⟨rfl, q1⟩)
      have z1 := z0.trans (q1.mono z0.size)
      refine hK.out _ _ (HS.out _ z1) (fun hS3 => ?_)
      clear hK K
      refine wpAnyH_ready (rs := [5]) (by kernel_rfl) (by simp) (AllReadyH.cons rfl (fun K hK => ?_) AllReadyH.nil)
      go_simp
      go_wp2_with (go_at_call 13; (with_reducible refine (KT2.out _).mono ?_); rintro e v2 ⟨rfl, q2⟩)
      have z2 := z1.trans (q2.mono z1.size)
      refine hK.out _ _ (HS.out _ z2) (fun hS5 => ?_)
      clear hK K
      refine wpAnyH_ready (rs := [6]) (by kernel_rfl) (by simp) (AllReadyH.cons rfl (fun K hK => ?_) AllReadyH.nil)
      go_simp
      go_wp2_with (go_at_call 12; (with_reducible refine (KSM.out _ z2).mono ?_); rintro e v3 ⟨rfl, q3⟩)
      have z3 := z2.trans (q3.mono z2.size)
      refine hK.out _ _ (HS.out _ z3) (fun hS6 => ?_)
      clear hK K
      refine wpAnyH_take (i := 7) (oi := { dst := some 36, op := Op.pick (Operand.tmp 30) (Operand.tmp 35) (Operand.const (Value.bool false)), type := 4, pos := "more.go:40", after := #[{ on := 1, ground := Ground.data }, { on := 6, ground := Ground.data }], guard := none }) (v := ?_) rfl (by kernel_rfl) (by kernel_rfl) (by kernel_rfl) (fun _ _ _ h => h) (Or.inl ⟨by rfl, ?_⟩) (by assumption) ?_
      rotate_left
      · intro w' hSw; obtain ⟨⟨d0, d1, d2, d3, d4, d5⟩, ⟨e0, e1, e2, e3, e4, e5⟩⟩ := hSw; go_simp; try with_reducible rfl
      simp only [Act.put, List.setIfInBounds_toArray, List.set_cons_zero, List.set_cons_succ]
      refine wpAnyH_take (i := 8) (oi := { dst := some 37, op := Op.move (Operand.tmp 36), type := 4, pos := "more.go:40", after := #[{ on := 7, ground := Ground.data }, { on := 6, ground := Ground.chain }], guard := none }) (v := ?_) rfl (by kernel_rfl) (by kernel_rfl) (by kernel_rfl) (fun _ _ _ h => h) (Or.inl ⟨by rfl, ?_⟩) (by assumption) ?_
      rotate_left
      · intro w' hSw; obtain ⟨⟨d0, d1, d2, d3, d4, d5⟩, ⟨e0, e1, e2, e3, e4, e5⟩⟩ := hSw; go_simp; try with_reducible rfl
      simp only [Act.put, List.setIfInBounds_toArray, List.set_cons_zero, List.set_cons_succ]
      refine wpAnyH_take (i := 9) (oi := { dst := some 38, op := Op.load 33 (Operand.tmp 6), type := 33, pos := "more.go:40", after := #[{ on := 8, ground := Ground.guard }], guard := some (8, true) }) (v := ?_) rfl (by kernel_rfl) (by kernel_rfl) (by kernel_rfl) (fun _ _ _ h => h) (Or.inl ⟨by rfl, ?_⟩) (by assumption) ?_
      rotate_left
      · intro w' hSw; obtain ⟨⟨d0, d1, d2, d3, d4, d5⟩, ⟨e0, e1, e2, e3, e4, e5⟩⟩ := hSw; go_simp; try with_reducible rfl
      simp only [Act.put, List.setIfInBounds_toArray, List.set_cons_zero, List.set_cons_succ]
      refine wpAnyH_ready (rs := [10]) (by kernel_rfl) (by simp) (AllReadyH.cons rfl (fun K hK => ?_) AllReadyH.nil)
      go_simp
      go_wp2_with (go_at_call 24; (with_reducible refine (KSN.out _ z3).mono ?_); rintro e v4 ⟨rfl, q4⟩)
      have z4 := z3.trans (q4.mono z3.size)
      refine hK.out _ _ (HS.out _ z4) (fun hS10 => ?_)
      clear hK K
      refine wpAnyH_take (i := 11) (oi := { dst := some 40, op := Op.pick (Operand.tmp 37) (Operand.tmp 39) (Operand.const (Value.bool false)), type := 4, pos := "more.go:40", after := #[{ on := 8, ground := Ground.data }, { on := 10, ground := Ground.data }], guard := none }) (v := ?_) rfl (by kernel_rfl) (by kernel_rfl) (by kernel_rfl) (fun _ _ _ h => h) (Or.inl ⟨by rfl, ?_⟩) (by assumption) ?_
      rotate_left
      · intro w' hSw; obtain ⟨⟨d0, d1, d2, d3, d4, d5⟩, ⟨e0, e1, e2, e3, e4, e5⟩⟩ := hSw; go_simp; try with_reducible rfl
      simp only [Act.put, List.setIfInBounds_toArray, List.set_cons_zero, List.set_cons_succ]
      refine wpAnyH_take (i := 12) (oi := { dst := some 2, op := Op.assign (Operand.tmp 40), type := 4, pos := "more.go:40", after := #[{ on := 11, ground := Ground.data }, { on := 10, ground := Ground.chain }, { on := 0, ground := Ground.phase }, { on := 1, ground := Ground.phase }, { on := 2, ground := Ground.phase }, { on := 3, ground := Ground.phase }, { on := 4, ground := Ground.phase }, { on := 5, ground := Ground.phase }, { on := 6, ground := Ground.phase }, { on := 7, ground := Ground.phase }, { on := 8, ground := Ground.phase }, { on := 9, ground := Ground.phase }, { on := 10, ground := Ground.phase }, { on := 11, ground := Ground.phase }], guard := none }) (v := ?_) rfl (by kernel_rfl) (by kernel_rfl) (by kernel_rfl) (fun _ _ _ h => h) (Or.inl ⟨by rfl, ?_⟩) (by assumption) ?_
      rotate_left
      · intro w' hSw; obtain ⟨⟨d0, d1, d2, d3, d4, d5⟩, ⟨e0, e1, e2, e3, e4, e5⟩⟩ := hSw; go_simp; try with_reducible rfl
      simp only [Act.put, List.setIfInBounds_toArray, List.set_cons_zero, List.set_cons_succ]
      refine wpAnyH_done (by kernel_rfl) ?_ _
      go_wp2
      go_ret
      exact ⟨rfl, HEND.out _ z4⟩
end Go.Proofs.YtmjneokjgcgchaaGreat
