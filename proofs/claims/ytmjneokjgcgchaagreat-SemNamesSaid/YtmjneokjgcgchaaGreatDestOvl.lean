/-
  The program's own overlay.
-/
import Derived.Test.YtmjneokjgcgchaaGreatDestOv
import Derived.Deep.RegionHeldLaw
import Derived.Deep.LoopGhost
import Derived.Deep.CutRange
import Derived.Deep.RegionLaw
namespace Go.Proofs.YtmjneokjgcgchaaGreat
open Go.RowKit
attribute [local go_sem ↓] Go.wp_at_zero Go.wp_at_succ

set_option maxRecDepth 100000 in
set_option maxHeartbeats 4000000 in
theorem doverlay_any (At Av : Option Addr) (ct cv bt lo hi bv ov hv M : Nat) (T V : List Me) (w : World) (hT : Rsd w bt lo hi At T) (hV : Rsd w bv ov hv Av V) (hct : T.length ≤ ct) (hcv : V.length ≤ cv) (hut : Utl w T) (huv : Utl w V) (hcT : Ct (pl T)) (hcV : Ct (pl V)) (hM : 2 * T.length + 2 * V.length + 1 ≤ M) (hM2 : M ≤ 1000000) (hbt : bt < w.heap.size) (hbv : bv < w.heap.size) (hdis : bv ≠ bt ∨ hv ≤ lo ∨ hi ≤ ov) :
    Calls Tryz.prog 141 #[.slice At T.length ct, .slice Av V.length cv] w fun e w' => ∃ v' m, e = .returned v' ∧ w'.ownsRow w.heap.size 73 4 v' m.length (dvs m) ∧ Utl w' m ∧ Fz w w' bt lo hi ∧ Ct (pl m) ∧ ∀ n y, lastB (pl m) n y = (lastB (pl V) n y).or (lastB (pl T) n y) := by
  obtain ⟨i0, hi0, hz0, hz1, hz2⟩ := info_parts infoB
  obtain ⟨G, hG⟩ : ∃ G : Int → Int → Option (List Int), G = fun n y => (lastB (pl V) n y).or (lastB (pl T) n y) := ⟨_, rfl⟩
  have HG := Lib.hid hG
  have hP0 : OvP G M (pl T) (pl V) (pl []) := ⟨IvB.start hcT hcV, fun n y => by rw [hG]; simp [mB, lastB, pl], by have := hd1_le (pl T) (pl V); rw [pl_length, pl_length, pl_length]; simp; omega⟩
  have hmk : ∀ W : World, (Instr.makeSlice 25 (.int .i64 0) (.int .i64 ((T.length : Int) + (V.length : Int)))).run Tryz.prog W = .ok (.slice (some ⟨W.heap.size, 0, none⟩) 0 (T.length + V.length)) (W.alloc (.cells (madeCells (Value.agg #[.int .i64 0, .int .i64 0, .int .i64 0, .slice none 0 0]).cells ((T.length + V.length) * 4)) 73)) := fun W => by
    have h := run_make (P := Tryz.prog) W 25 73 i0 (.agg #[.int .i64 0, .int .i64 0, .int .i64 0, .slice none 0 0]) Tryz.underlying25 hi0 hz0 .i64 .i64 0 ((T.length : Int) + (V.length : Int)) (Int.le_refl _) (by omega) (by rw [hz2]; omega) (by omega)
    rw [hz1, show ((T.length : Int) + (V.length : Int)).toNat = T.length + V.length by omega] at h
    exact h
  have hlt1 : (T.length : Int) ≤ 1000000 := by omega
  have hlt2 : (V.length : Int) ≤ 1000000 := by omega
  go_enter Tryz.func141, Tryz.ntmps141
  go_wp2
  have hr := World.ownsRow_made (base := w.heap.size) (e := 73) (size := 4) w (madeCells #[.int .i64 0, .int .i64 0, .int .i64 0, .slice none 0 0] ((T.length + V.length) * 4)) (T.length + V.length) (Nat.le_refl _) (by unfold maxLen; omega) (size_madeCells _ _)
  have hb0 : Below w.heap.size w (w.alloc (.cells (madeCells #[.int .i64 0, .int .i64 0, .int .i64 0, .slice none 0 0] ((T.length + V.length) * 4)) 73)) := al_below _ _
  clear hmk
  generalize w.alloc (.cells (madeCells #[.int .i64 0, .int .i64 0, .int .i64 0, .slice none 0 0] ((T.length + V.length) * 4)) 73) = W0 at *
  have hM0 : OvM w bt lo hi bv ov hv At Av T V [] W0 := ⟨hT.below hb0, hV.below hb0, hut.ik (Ik.of_below hb0), huv.ik (Ik.of_below hb0), (fun _ h => by cases h), Fz.of_below hb0⟩
  have HM0 := Lib.hid hM0
  have HP0 := Lib.hid hP0
  clear hM0 hP0 hut huv hcT hcV hG hT hV
  go_loopg [0, 1, 5] (wid (pl T) + V.length) (fun k a b o wr => ∃ (T V O : List Me) (At Av : Option Addr) (ct cv : Nat), Hid (k = wid (pl T) + V.length) ∧ a = .slice At T.length ct ∧ T.length ≤ ct ∧ b = .slice Av V.length cv ∧ V.length ≤ cv ∧ wr.ownsRow w.heap.size 73 4 o O.length (dvs O) ∧ Hid (OvM w bt lo hi bv ov hv At Av T V O wr) ∧ Hid (OvP G M (pl T) (pl V) (pl O)))
  case atStart => exact ⟨T, V, [], At, Av, ct, cv, Lib.hid rfl, rfl, hct, rfl, hcv, hr, HM0, HP0⟩
  case round =>
    clear hr hb0 HM0 HP0 hct hcv hM hlt1 hlt2
    obtain ⟨T, V, O, At, Av, ct, cv, HK, rfl, hct, rfl, hcv, hown, HM, HP⟩ := hrel
    have hlen := HP.out.len
    rw [pl_length, pl_length, pl_length] at hlen
    have HLEN : Hid (O.length + 2 * T.length + 2 * V.length ≤ 1000000) := Lib.hid (by omega)
    have HSZ : Hid (w.heap.size ≤ wr.heap.size) := Lib.hid HM.out.fz.size
    have OWN : Hid (∀ g, (u5).ownBlock = some g → w.heap.size ≤ g ∧ g < wr.heap.size ∧ Tq wr g) := Lib.hid fun g hg => ⟨(own_ltD hown hg).1, (own_ltD hown hg).2, own_tq hown hg⟩
    clear hlen
    cases T with
    | nil =>
      have K1 := Lib.hid (dAddAll_any w.heap.size u5 At ct O [] wr hown HSZ.out (fun h => absurd h (by simp)) (by have := HLEN.out; simp at *; omega) HM.out.uo HM.out.ut (of_pl HP.out.so) (of_pl HP.out.st))
      go_wp2_with fail
      refine K1.out.mono ?_
      rintro e W1 ⟨⟨v1, rfl, h1, h2, h3⟩, h4, h5, h6⟩
      have hM1 := HM.out.grown h2 hbt hbv (fun g hg => ⟨(OWN.out g hg).1, (OWN.out g hg).2.2⟩)
      have hs1 := h2.size
      have K2 := Lib.hid (dAddAll_any w.heap.size v1 Av cv ([].foldl addM O) V W1 h1 (by have := HSZ.out; omega) (hM1.rv.rd _ (by omega)) (by have := foldM_length [] O; have := HLEN.out; simp at *; omega) h4 hM1.uv h6 (of_pl HP.out.sv))
      have H3 : Hid (∀ g, v1.ownBlock = some g → w.heap.size ≤ g ∧ Tq W1 g) := Lib.hid fun g hg => ⟨(own_ltD h1 hg).1, own_tq h1 hg⟩
      clear h1 h3 h4 h6
      go_wp2_with fail
      refine K2.out.mono ?_
      rintro e W2 ⟨⟨v2, rfl, q1, q2, q3⟩, q4, q5, q6⟩
      have hM2 := hM1.grown q2 hbt hbv H3.out
      obtain ⟨z1, z2⟩ := HP.out.endV
      go_wp2
      go_ret
      refine ⟨v2, _, rfl, q1, q4, hM2.fz, ?_, fun n y => ?_⟩
      · rw [foldM_pl, foldM_pl]
        exact z1
      · rw [foldM_pl, foldM_pl]
        refine (z2 n y).trans ?_
        rw [HG.out]
    | cons ma T =>
      cases V with
      | nil =>
        have K1 := Lib.hid (dAddAll_any w.heap.size u5 At ct O (ma :: T) wr hown HSZ.out (HM.out.rt.rd _ hbt) (by have := HLEN.out; simp at *; omega) HM.out.uo HM.out.ut (of_pl HP.out.so) (of_pl HP.out.st))
        go_wp2_with fail
        refine K1.out.mono ?_
        rintro e W1 ⟨⟨v1, rfl, h1, h2, h3⟩, h4, h5, h6⟩
        have hM1 := HM.out.grown h2 hbt hbv (fun g hg => ⟨(OWN.out g hg).1, (OWN.out g hg).2.2⟩)
        have hs1 := h2.size
        have K2 := Lib.hid (dAddAll_any w.heap.size v1 Av cv ((ma :: T).foldl addM O) [] W1 h1 (by have := HSZ.out; omega) (fun h => absurd h (by simp)) (by have := foldM_length (ma :: T) O; have := HLEN.out; simp at *; omega) h4 hM1.uv h6 (of_pl HP.out.sv))
        have H3 : Hid (∀ g, v1.ownBlock = some g → w.heap.size ≤ g ∧ Tq W1 g) := Lib.hid fun g hg => ⟨(own_ltD h1 hg).1, own_tq h1 hg⟩
        clear h1 h3 h4 h6
        go_wp2_with fail
        refine K2.out.mono ?_
        rintro e W2 ⟨⟨v2, rfl, q1, q2, q3⟩, q4, q5, q6⟩
        have hM2 := hM1.grown q2 hbt hbv H3.out
        obtain ⟨z1, z2⟩ := HP.out.endT
        go_wp2
        go_ret
        refine ⟨v2, _, rfl, q1, q4, hM2.fz, ?_, fun n y => ?_⟩
        · rw [foldM_pl, foldM_pl]
          exact z1
        · rw [foldM_pl, foldM_pl]
          refine (z2 n y).trans ?_
          rw [HG.out]
      | cons mb V =>
        obtain ⟨pa, rfl, ha1, ha2, ha3⟩ := HM.out.rt (by simp)
        obtain ⟨pb, rfl, hb1, hb2, hb3⟩ := HM.out.rv (by simp)
        have hlT : (ma :: T).length = T.length + 1 := rfl
        have hlV : (mb :: V).length = V.length + 1 := rfl
        have ra := ha3.f4 (j := 0) (x := ma) rfl
        have rb := hb3.f4 (j := 0) (x := mb) rfl
        rw [Nat.zero_mul, Nat.add_zero] at ra rb
        obtain ⟨x0, x1, x2, x3⟩ := ra
        obtain ⟨y0, y1, y2, y3⟩ := rb
        have hz1 := ha3.lt
        have hz2 := hb3.lt
        have hsa : Sb ma.b := HP.out.sa
        have hsb : Sb mb.b := HP.out.sb
        have HSA := Lib.hid hsa
        have HSB := Lib.hid hsb
        have HHI : Hid (lo ≤ pa ∧ pa + 4 ≤ hi ∧ pa + (T.length + 1) * 4 ≤ hi) := Lib.hid (by simp at ha2; omega)
        rw [hlT] at hct ⊢
        rw [hlV] at hcv ⊢
        go_upto_region 3 with fail
        go_cut [6, 7] from 14 to 79 (fun ta tb wx => ∃ ba bb : Nat, ta = .pointer (some ⟨ba, 0, none⟩) ∧ tb = .pointer (some ⟨bb, 0, none⟩) ∧ (wr.heap.size ≤ ba ∧ ba < wx.heap.size ∧ wr.heap.size ≤ bb ∧ bb < wx.heap.size) ∧ Fb wx ba ma ∧ Fb wx bb mb ∧ Hid (Below wr.heap.size wr wx))
        case first =>
          go_region_held (fun w' => (w'.cell? ⟨bt, pa, none⟩ = some (.int .i64 ma.b.n) ∧ w'.cell? ⟨bt, pa + 1, none⟩ = some (.int .i64 ma.b.lo) ∧ w'.cell? ⟨bt, pa + 2, none⟩ = some (.int .i64 ma.b.hi) ∧ w'.cell? ⟨bt, pa + 3, none⟩ = some (.slice ma.a ma.b.u.length ma.c)) ∧ (w'.cell? ⟨bv, pb, none⟩ = some (.int .i64 mb.b.n) ∧ w'.cell? ⟨bv, pb + 1, none⟩ = some (.int .i64 mb.b.lo) ∧ w'.cell? ⟨bv, pb + 2, none⟩ = some (.int .i64 mb.b.hi) ∧ w'.cell? ⟨bv, pb + 3, none⟩ = some (.slice mb.a mb.b.u.length mb.c))) (go_keep) (fail)
          all_goals
            go_wp2_with fail
            go_meet
            exact ⟨_, _, rfl, rfl, ⟨by simp, by simp <;> omega, by simp, by simp <;> omega⟩, ⟨by simp, by simp, by simp, by simp⟩, ⟨by simp, by simp, by simp, by simp⟩, Lib.hid ((((Below.refl _ _).alloc (Nat.le_refl _) _).alloc (by simp) _).drew)⟩
        case rest =>
          obtain ⟨ba, bb, rfl, rfl, ⟨g1, g2, g3, g4⟩, fa, fb, HB⟩ := hcut
          clear x0 x1 x2 x3 y0 y1 y2 y3 hz1 hz2 ha1 ha2 ha3 hb1 hb2 hb3
          have hsc := HB.out.size
          have hMc := HM.out.below HB.out
          have hownc := own_belowD hown HB.out (Nat.le_refl _)
          have FF : Hid (∀ W, Below wc.heap.size wc W → Fb W ba ma ∧ Fb W bb mb) := Lib.hid fun W hW => ⟨Fb.below fa hW g2, Fb.below fb hW g4⟩
          have K1 := Lib.hid (fun W => dAhead_any ma mb W)
          have K2 := Lib.hid (fun W => dAhead_any mb ma W)
          have HMC := Lib.hid hMc
          have HWC := Lib.hid hownc
          have OWC : Hid (∀ W, Below wc.heap.size wc W → ∀ g, (u5).ownBlock = some g → w.heap.size ≤ g ∧ Tq W g) := Lib.hid fun W hW g hg => ⟨(own_ltD hownc hg).1, own_tq (own_belowD hownc hW (Nat.le_refl _)) hg⟩
          have HLT : Hid (w.heap.size ≤ wc.heap.size) := Lib.hid (by have := HSZ.out; omega)
          /- what adding comes to -/
          have KADD : Hid (∀ W, Below wc.heap.size wc W → ∀ x : Me, Un W x.a x.c x.b.u → Sb x.b → Calls Tryz.prog 156 #[u5, fv x] W fun e w' => ∃ v', e = .returned v' ∧ w'.ownsRow w.heap.size 73 4 v' (addM O x).length (dvs (addM O x)) ∧ W.grownBy w' (u5).ownBlock ∧ Ik W w' ∧ OvM w bt lo hi bv ov hv (some ⟨bt, pa, none⟩) (some ⟨bv, pb, none⟩) (ma :: T) (mb :: V) O w') := Lib.hid fun W hW x hx hs => by
            have hMW := hMc.below hW
            refine (dAdd_any w.heap.size u5 O x W (own_belowD hownc hW (Nat.le_refl _)) (by have := HLT.out; have := hW.size; omega) (by have := HLEN.out; simp at *; omega) hMW.uo.ul hx (of_pl HP.out.so) hs).mono ?_
            rintro e w' ⟨v', rfl, h1, h2, h3⟩
            exact ⟨v', rfl, h1, h2, Ik.of_grown h2 (fun g hg => (OWC.out W hW g hg).2), hMW.grown h2 hbt hbv (OWC.out W hW)⟩
          clear hMc hownc hown hsc
          unfold fv at K1 K2
          cases h1 : decide (ahB ma.b mb.b) with
          | true =>
            rw [h1] at K1
            have H1 := Lib.hid (of_decide_eq_true h1)
            clear h1
            obtain ⟨c0, c1, c2, c3⟩ := fa
            obtain ⟨e0, e1, e2, e3⟩ := fb
            simp only [Nat.zero_add] at c1 c2 c3 e1 e2 e3
            go_wp2_with fail
            refine (K1.out _).mono ?_
            rintro e W1 ⟨rfl, hb1⟩
            clear c0 c1 c2 c3 e0 e1 e2 e3
            have F1 := Lib.hid (fun W (hW : Below W1.heap.size W1 W) => FF.out W (hb1.trans (hW.mono hb1.size)))
            have z0 : Below W1.heap.size W1 W1.drew := (Below.refl _ _).drew
            have KA := Lib.hid (KADD.out W1.drew (hb1.trans (z0.mono hb1.size)) ma ((HMC.out.below (hb1.trans (z0.mono hb1.size))).ut ma List.mem_cons_self).un HSA.out)
            unfold fv at KA
            have SS : Hid (∀ W, Below W1.heap.size W1 W → (fun w' => (w'.cell? ⟨ba, 0, none⟩ = some (.int .i64 ma.b.n) ∧ w'.cell? ⟨ba, 1, none⟩ = some (.int .i64 ma.b.lo) ∧ w'.cell? ⟨ba, 2, none⟩ = some (.int .i64 ma.b.hi) ∧ w'.cell? ⟨ba, 3, none⟩ = some (.slice ma.a ma.b.u.length ma.c)) ∧ (w'.cell? ⟨bb, 0, none⟩ = some (.int .i64 mb.b.n) ∧ w'.cell? ⟨bb, 1, none⟩ = some (.int .i64 mb.b.lo) ∧ w'.cell? ⟨bb, 2, none⟩ = some (.int .i64 mb.b.hi) ∧ w'.cell? ⟨bb, 3, none⟩ = some (.slice mb.a mb.b.u.length mb.c))) W) := Lib.hid fun W hW => by
              obtain ⟨p, q⟩ := F1.out W hW
              exact ⟨⟨p.c0, p.c1, p.c2, p.c3⟩, q.c0, q.c1, q.c2, q.c3⟩
            have FG : Hid (∀ W', W1.drew.grownBy W' (u5).ownBlock → (fun w' => (w'.cell? ⟨ba, 0, none⟩ = some (.int .i64 ma.b.n) ∧ w'.cell? ⟨ba, 1, none⟩ = some (.int .i64 ma.b.lo) ∧ w'.cell? ⟨ba, 2, none⟩ = some (.int .i64 ma.b.hi) ∧ w'.cell? ⟨ba, 3, none⟩ = some (.slice ma.a ma.b.u.length ma.c)) ∧ (w'.cell? ⟨bb, 0, none⟩ = some (.int .i64 mb.b.n) ∧ w'.cell? ⟨bb, 1, none⟩ = some (.int .i64 mb.b.lo) ∧ w'.cell? ⟨bb, 2, none⟩ = some (.int .i64 mb.b.hi) ∧ w'.cell? ⟨bb, 3, none⟩ = some (.slice mb.a mb.b.u.length mb.c))) W') := Lib.hid fun W' hg => by
              obtain ⟨p, q⟩ := F1.out _ z0
              have hne : ∀ g, (u5).ownBlock = some g → g < wr.heap.size := fun g hg => (OWN.out g hg).2.1
              have p' := F4.keep p (w' := W') fun i => hg.cell_far ⟨ba, i, none⟩ (by have := hb1.size; have := z0.size; show ba < _; omega) (fun e => by have := hne _ e.symm; simp at this; omega)
              have q' := F4.keep q (w' := W') fun i => hg.cell_far ⟨bb, i, none⟩ (by have := hb1.size; have := z0.size; show bb < _; omega) (fun e => by have := hne _ e.symm; simp at this; omega)
              exact ⟨⟨p'.c0, p'.c1, p'.c2, p'.c3⟩, q'.c0, q'.c1, q'.c2, q'.c3⟩
            clear K1 K2 KADD hb1
            by_cases hq0 : ct - 1 = 0
            all_goals
              go_wp2_with fail
              go_region_held (fun w' => (w'.cell? ⟨ba, 0, none⟩ = some (.int .i64 ma.b.n) ∧ w'.cell? ⟨ba, 1, none⟩ = some (.int .i64 ma.b.lo) ∧ w'.cell? ⟨ba, 2, none⟩ = some (.int .i64 ma.b.hi) ∧ w'.cell? ⟨ba, 3, none⟩ = some (.slice ma.a ma.b.u.length ma.c)) ∧ (w'.cell? ⟨bb, 0, none⟩ = some (.int .i64 mb.b.n) ∧ w'.cell? ⟨bb, 1, none⟩ = some (.int .i64 mb.b.lo) ∧ w'.cell? ⟨bb, 2, none⟩ = some (.int .i64 mb.b.hi) ∧ w'.cell? ⟨bb, 3, none⟩ = some (.slice mb.a mb.b.u.length mb.c))) (first | with_reducible exact FG.out _ r2 | with_reducible exact SS.out _ z0)
                ((go_at_call 156; (with_reducible refine KA.out.mono ?_); rintro e X7 ⟨v7, rfl, r1, r2, r3, r4⟩))
              all_goals
                go_wp2
                go_roundg (wid (pl T) + (V.length + 1))
                case measure =>
                  rw [HK.out]
                  have := wid_sb HSA.out
                  have e := wid_cons ma.b (pl T)
                  have e2 : pl (ma :: T) = ma.b :: pl T := rfl
                  rw [e2, e]
                  simp only [List.length_cons]
                  omega
                case rel =>
                  refine ⟨T, mb :: V, addM O ma, _, some ⟨bv, pb, none⟩, _, cv, Lib.hid (by simp), rfl, by omega, by rw [hlV], by rw [hlV]; exact hcv, r1, Lib.hid ⟨?_, r4.rv, fun m hm => r4.ut m (List.mem_cons_of_mem _ hm), r4.uv, addM_ul r4.uo (r4.ut ma List.mem_cons_self), r4.fz⟩, Lib.hid ?_⟩
                  · intro hn
                    obtain ⟨p, ep, p1, p2, p3⟩ := r4.rt (by simp)
                    injection ep with ep
                    injection ep with _ ep
                    subst ep
                    refine ⟨pa + 4, ?_, by omega, by simp at p2; omega, p3.tail⟩
                    first | rfl | (exfalso; omega)
                  · rw [addM_pl]
                    exact HP.out.low H1.out
          | false =>
            rw [h1] at K1
            have H1 := Lib.hid (of_decide_eq_false h1)
            clear h1
            cases h2 : decide (ahB mb.b ma.b) with
            | true =>
              rw [h2] at K2
              have H2 := Lib.hid (of_decide_eq_true h2)
              clear h2
              obtain ⟨c0, c1, c2, c3⟩ := fa
              obtain ⟨e0, e1, e2, e3⟩ := fb
              simp only [Nat.zero_add] at c1 c2 c3 e1 e2 e3
              go_wp2_with fail
              refine (K1.out _).mono ?_
              rintro e W0 ⟨rfl, hb0⟩
              clear c0 c1 c2 c3 e0 e1 e2 e3
              obtain ⟨⟨c0, c1, c2, c3⟩, e0, e1, e2, e3⟩ := FF.out W0 hb0
              simp only [Nat.zero_add] at c1 c2 c3 e1 e2 e3
              go_wp2_with fail
              refine (K2.out _).mono ?_
              rintro e W1 ⟨rfl, hb2⟩
              have hb1 := hb0.trans (hb2.mono hb0.size)
              clear c0 c1 c2 c3 e0 e1 e2 e3 hb0 hb2
              have F1 := Lib.hid (fun W (hW : Below W1.heap.size W1 W) => FF.out W (hb1.trans (hW.mono hb1.size)))
              have z0 : Below W1.heap.size W1 W1.drew := (Below.refl _ _).drew
              have KA := Lib.hid (KADD.out W1.drew (hb1.trans (z0.mono hb1.size)) mb ((HMC.out.below (hb1.trans (z0.mono hb1.size))).uv mb List.mem_cons_self).un HSB.out)
              unfold fv at KA
              have SS : Hid (∀ W, Below W1.heap.size W1 W → (fun w' => (w'.cell? ⟨ba, 0, none⟩ = some (.int .i64 ma.b.n) ∧ w'.cell? ⟨ba, 1, none⟩ = some (.int .i64 ma.b.lo) ∧ w'.cell? ⟨ba, 2, none⟩ = some (.int .i64 ma.b.hi) ∧ w'.cell? ⟨ba, 3, none⟩ = some (.slice ma.a ma.b.u.length ma.c)) ∧ (w'.cell? ⟨bb, 0, none⟩ = some (.int .i64 mb.b.n) ∧ w'.cell? ⟨bb, 1, none⟩ = some (.int .i64 mb.b.lo) ∧ w'.cell? ⟨bb, 2, none⟩ = some (.int .i64 mb.b.hi) ∧ w'.cell? ⟨bb, 3, none⟩ = some (.slice mb.a mb.b.u.length mb.c))) W) := Lib.hid fun W hW => by
                obtain ⟨p, q⟩ := F1.out W hW
                exact ⟨⟨p.c0, p.c1, p.c2, p.c3⟩, q.c0, q.c1, q.c2, q.c3⟩
              have FG : Hid (∀ W', W1.drew.grownBy W' (u5).ownBlock → (fun w' => (w'.cell? ⟨ba, 0, none⟩ = some (.int .i64 ma.b.n) ∧ w'.cell? ⟨ba, 1, none⟩ = some (.int .i64 ma.b.lo) ∧ w'.cell? ⟨ba, 2, none⟩ = some (.int .i64 ma.b.hi) ∧ w'.cell? ⟨ba, 3, none⟩ = some (.slice ma.a ma.b.u.length ma.c)) ∧ (w'.cell? ⟨bb, 0, none⟩ = some (.int .i64 mb.b.n) ∧ w'.cell? ⟨bb, 1, none⟩ = some (.int .i64 mb.b.lo) ∧ w'.cell? ⟨bb, 2, none⟩ = some (.int .i64 mb.b.hi) ∧ w'.cell? ⟨bb, 3, none⟩ = some (.slice mb.a mb.b.u.length mb.c))) W') := Lib.hid fun W' hg => by
                obtain ⟨p, q⟩ := F1.out _ z0
                have hne : ∀ g, (u5).ownBlock = some g → g < wr.heap.size := fun g hg => (OWN.out g hg).2.1
                have p' := F4.keep p (w' := W') fun i => hg.cell_far ⟨ba, i, none⟩ (by have := hb1.size; have := z0.size; show ba < _; omega) (fun e => by have := hne _ e.symm; simp at this; omega)
                have q' := F4.keep q (w' := W') fun i => hg.cell_far ⟨bb, i, none⟩ (by have := hb1.size; have := z0.size; show bb < _; omega) (fun e => by have := hne _ e.symm; simp at this; omega)
                exact ⟨⟨p'.c0, p'.c1, p'.c2, p'.c3⟩, q'.c0, q'.c1, q'.c2, q'.c3⟩
              clear K1 K2 KADD hb1
              by_cases hq0 : cv - 1 = 0
              all_goals
                go_wp2_with fail
                go_region_held (fun w' => (w'.cell? ⟨ba, 0, none⟩ = some (.int .i64 ma.b.n) ∧ w'.cell? ⟨ba, 1, none⟩ = some (.int .i64 ma.b.lo) ∧ w'.cell? ⟨ba, 2, none⟩ = some (.int .i64 ma.b.hi) ∧ w'.cell? ⟨ba, 3, none⟩ = some (.slice ma.a ma.b.u.length ma.c)) ∧ (w'.cell? ⟨bb, 0, none⟩ = some (.int .i64 mb.b.n) ∧ w'.cell? ⟨bb, 1, none⟩ = some (.int .i64 mb.b.lo) ∧ w'.cell? ⟨bb, 2, none⟩ = some (.int .i64 mb.b.hi) ∧ w'.cell? ⟨bb, 3, none⟩ = some (.slice mb.a mb.b.u.length mb.c))) (first | with_reducible exact FG.out _ r2 | with_reducible exact SS.out _ z0)
                  ((go_at_call 156; (with_reducible refine KA.out.mono ?_); rintro e X7 ⟨v7, rfl, r1, r2, r3, r4⟩))
                all_goals
                  go_wp2
                  go_roundg (wid (pl (ma :: T)) + V.length)
                  case measure =>
                    rw [HK.out]
                    simp only [List.length_cons]
                    omega
                  case rel =>
                    refine ⟨ma :: T, V, addM O mb, some ⟨bt, pa, none⟩, _, ct, _, Lib.hid rfl, by rw [hlT], by rw [hlT]; exact hct, by first | rfl | simp, by omega, r1, Lib.hid ⟨r4.rt, ?_, r4.ut, fun m hm => r4.uv m (List.mem_cons_of_mem _ hm), addM_ul r4.uo (r4.uv mb List.mem_cons_self), r4.fz⟩, Lib.hid ?_⟩
                    · intro hn
                      obtain ⟨p, ep, p1, p2, p3⟩ := r4.rv (by simp)
                      injection ep with ep
                      injection ep with _ ep
                      subst ep
                      refine ⟨pb + 4, ?_, by omega, by simp at p2; omega, p3.tail⟩
                      first | rfl | (exfalso; omega)
                    · rw [addM_pl]
                      exact HP.out.up H2.out
            | false =>
              rw [h2] at K2
              have H2 := Lib.hid (of_decide_eq_false h2)
              clear h2
              obtain ⟨c0, c1, c2, c3⟩ := fa
              obtain ⟨e0, e1, e2, e3⟩ := fb
              simp only [Nat.zero_add] at c1 c2 c3 e1 e2 e3
              go_wp2_with fail
              refine (K1.out _).mono ?_
              rintro e W0 ⟨rfl, hb0⟩
              clear c0 c1 c2 c3 e0 e1 e2 e3
              obtain ⟨⟨c0, c1, c2, c3⟩, e0, e1, e2, e3⟩ := FF.out W0 hb0
              simp only [Nat.zero_add] at c1 c2 c3 e1 e2 e3
              go_wp2_with fail
              refine (K2.out _).mono ?_
              rintro e W1 ⟨rfl, hb2⟩
              have hb1 := hb0.trans (hb2.mono hb0.size)
              clear c0 c1 c2 c3 e0 e1 e2 e3 hb0 hb2 K1 K2
              have F1 := Lib.hid (fun W (hW : Below W1.heap.size W1 W) => FF.out W (hb1.trans (hW.mono hb1.size)))
              have hM1 := HMC.out.below hb1
              obtain ⟨⟨c0, c1, c2, c3⟩, e0, e1, e2, e3⟩ := F1.out W1 (Below.refl _ _)
              simp only [Nat.zero_add] at c1 c2 c3 e1 e2 e3
              have nra := saneB_top HSA.out.1
              have nrb := saneB_top HSA.out.2.1
              have nrc := saneB_top HSB.out.1
              have nrd := saneB_top HSB.out.2.1
              cases h3 : decide (ma.b.lo < mb.b.lo) with
              | true =>
                have H3 := Lib.hid (of_decide_eq_true h3)
                have e3 := meet_eq H1.out H2.out
                have hwr : IntKind.i64.wrap (mb.b.lo - 1) = mb.b.lo - 1 := IntWalk.i64_in _ (by omega)
                have KU : Hid (∀ W, Calls Tryz.prog 157 #[.agg #[.int .i64 ma.b.n, .int .i64 ma.b.lo, .int .i64 ma.b.hi, .slice ma.a ma.b.u.length ma.c], .int .i64 (mb.b.lo - 1)] W fun e w' => e = .returned (.agg #[.int .i64 ma.b.n, .int .i64 ma.b.lo, .int .i64 (mb.b.lo - 1), .slice ma.a ma.b.u.length ma.c]) ∧ Below W.heap.size W w') := Lib.hid fun W => upTo_any ma (mb.b.lo - 1) W
                have KF : Hid (∀ W, Un W ma.a ma.c ma.b.u → Calls Tryz.prog 114 #[.agg #[.int .i64 ma.b.n, .int .i64 ma.b.lo, .int .i64 ma.b.hi, .slice ma.a ma.b.u.length ma.c], .int .i64 mb.b.lo] W fun e w' => ∃ a c, e = .returned (.agg #[.int .i64 ma.b.n, .int .i64 mb.b.lo, .int .i64 ma.b.hi, .slice a (goB ma.b mb.b.lo).length c]) ∧ Ut w' a c (goB ma.b mb.b.lo) ∧ Below W.heap.size W w') := Lib.hid fun W hW => from_any ma mb.b.lo W hW HSA.out.2.2.2.1 nra.1 nra.2.1 (by omega) (by omega)
                have KA : Hid (∀ W, Below W1.heap.size W1 W → Calls Tryz.prog 156 #[u5, .agg #[.int .i64 ma.b.n, .int .i64 ma.b.lo, .int .i64 (mb.b.lo - 1), .slice ma.a ma.b.u.length ma.c]] W fun e w' => ∃ v', e = .returned v' ∧ w'.ownsRow w.heap.size 73 4 v' (addM O ⟨{ ma.b with hi := mb.b.lo - 1 }, ma.a, ma.c⟩).length (dvs (addM O ⟨{ ma.b with hi := mb.b.lo - 1 }, ma.a, ma.c⟩)) ∧ W.grownBy w' (u5).ownBlock ∧ Ik W w' ∧ OvM w bt lo hi bv ov hv (some ⟨bt, pa, none⟩) (some ⟨bv, pb, none⟩) (ma :: T) (mb :: V) O w') := Lib.hid fun W hW => KADD.out W (hb1.trans (hW.mono hb1.size)) ⟨{ ma.b with hi := mb.b.lo - 1 }, ma.a, ma.c⟩ ((hM1.below hW).ut ma List.mem_cons_self).un (by
                  have h3 := H3.out
                  show Sb { ma.b with hi := mb.b.lo - 1 }
                  rw [partB_up]
                  exact partB_sn HSA.out (Int.le_refl _) (by omega) (by omega))
                have HM1 := Lib.hid hM1
                have SS3 : Hid (∀ W, OvM w bt lo hi bv ov hv (some ⟨bt, pa, none⟩) (some ⟨bv, pb, none⟩) (ma :: T) (mb :: V) O W → Fb W ba ma ∧ Fb W bb mb → (fun w' => ((w'.cell? ⟨ba, 0, none⟩ = some (.int .i64 ma.b.n) ∧ w'.cell? ⟨ba, 1, none⟩ = some (.int .i64 ma.b.lo) ∧ w'.cell? ⟨ba, 2, none⟩ = some (.int .i64 ma.b.hi) ∧ w'.cell? ⟨ba, 3, none⟩ = some (.slice ma.a ma.b.u.length ma.c)) ∧ (w'.cell? ⟨bb, 0, none⟩ = some (.int .i64 mb.b.n) ∧ w'.cell? ⟨bb, 1, none⟩ = some (.int .i64 mb.b.lo) ∧ w'.cell? ⟨bb, 2, none⟩ = some (.int .i64 mb.b.hi) ∧ w'.cell? ⟨bb, 3, none⟩ = some (.slice mb.a mb.b.u.length mb.c))) ∧ Tz w' bt (pa + 4)) W) := Lib.hid fun W hM hF => by
                  obtain ⟨p, q⟩ := hF
                  obtain ⟨p', ep, _, _, p3⟩ := hM.rt (by simp)
                  injection ep with ep
                  injection ep with _ ep
                  subst ep
                  have p0 := p.c0; have p1 := p.c1; have p2 := p.c2; have p4 := p.c3
                  have q0 := q.c0; have q1 := q.c1; have q2 := q.c2; have q4 := q.c3
                  simp only [Nat.zero_add] at p1 p2 p4 q1 q2 q4
                  exact ⟨⟨⟨p0, p1, p2, p4⟩, q0, q1, q2, q4⟩, p3.tz⟩
                have LS : Hid (∀ X Y, Below W1.heap.size W1 X → X.grownBy Y (u5).ownBlock → ba < Y.heap.size ∧ bb < Y.heap.size) := Lib.hid fun X Y hX hY => by
                  have := hb1.size; have := hX.size; have := hY.size
                  omega
                have FG : Hid (∀ X Y, Below W1.heap.size W1 X → X.grownBy Y (u5).ownBlock → Fb Y ba ma ∧ Fb Y bb mb) := Lib.hid fun X Y hX hg => by
                  obtain ⟨p, q⟩ := F1.out X hX
                  have hne : ∀ g, (u5).ownBlock = some g → g < wr.heap.size := fun g hg => (OWN.out g hg).2.1
                  exact ⟨F4.keep p (w' := Y) fun i => hg.cell_far ⟨ba, i, none⟩ (by have := hb1.size; have := hX.size; show ba < _; omega) (fun e => by have := hne _ e.symm; simp at this; omega), F4.keep q (w' := Y) fun i => hg.cell_far ⟨bb, i, none⟩ (by have := hb1.size; have := hX.size; show bb < _; omega) (fun e => by have := hne _ e.symm; simp at this; omega)⟩
                have z0 : Below W1.heap.size W1 W1.drew := (Below.refl _ _).drew
                clear nra nrb nrc nrd KADD hM1 e3 hb1
                go_wp2_with fail
                clear c0 c1 c2 c3 e0 e1 e2 e3
                refine wp_region_held_drew (S := fun w' => ((w'.cell? ⟨ba, 0, none⟩ = some (.int .i64 ma.b.n) ∧ w'.cell? ⟨ba, 1, none⟩ = some (.int .i64 ma.b.lo) ∧ w'.cell? ⟨ba, 2, none⟩ = some (.int .i64 ma.b.hi) ∧ w'.cell? ⟨ba, 3, none⟩ = some (.slice ma.a ma.b.u.length ma.c)) ∧ (w'.cell? ⟨bb, 0, none⟩ = some (.int .i64 mb.b.n) ∧ w'.cell? ⟨bb, 1, none⟩ = some (.int .i64 mb.b.lo) ∧ w'.cell? ⟨bb, 2, none⟩ = some (.int .i64 mb.b.hi) ∧ w'.cell? ⟨bb, 3, none⟩ = some (.slice mb.a mb.b.u.length mb.c))) ∧ Tz w' bt (pa + 4)) (by kernel_rfl) (SS3.out _ (HM1.out.below z0) (F1.out _ z0)) (fun hS0 => ?_)
                try dsimp only at hS0
                refine wpAnyH_take (i := 0) (oi := { dst := some 54, op := Op.move (Operand.tmp 0), type := 25, pos := "dest.go:157", after := #[{ on := 12, ground := Ground.gcOnly Departure.lateStores }], guard := none }) (v := ?_) rfl (by kernel_rfl) (by kernel_rfl) (by kernel_rfl) (fun _ _ _ h => h) (Or.inl ⟨by rfl, ?_⟩) (by assumption) ?_
                rotate_left
                · intro w' hSw; obtain ⟨⟨⟨d0, d1, d2, d3⟩, e0, e1, e2, e3⟩, tz⟩ := hSw; go_simp; try with_reducible rfl
                simp only [Act.put, List.setIfInBounds_toArray, List.set_cons_zero, List.set_cons_succ]
                refine wpAnyH_take (i := 1) (oi := { dst := some 55, op := Op.move (Operand.tmp 5), type := 25, pos := "dest.go:157", after := #[], guard := none }) (v := ?_) rfl (by kernel_rfl) (by kernel_rfl) (by kernel_rfl) (fun _ _ _ h => h) (Or.inl ⟨by rfl, ?_⟩) (by assumption) ?_
                rotate_left
                · intro w' hSw; obtain ⟨⟨⟨d0, d1, d2, d3⟩, e0, e1, e2, e3⟩, tz⟩ := hSw; go_simp; try with_reducible rfl
                simp only [Act.put, List.setIfInBounds_toArray, List.set_cons_zero, List.set_cons_succ]
                refine wpAnyH_take (i := 2) (oi := { dst := some 56, op := Op.load 73 (Operand.tmp 6), type := 73, pos := "dest.go:157", after := #[], guard := none }) (v := ?_) rfl (by kernel_rfl) (by kernel_rfl) (by kernel_rfl) (fun _ _ _ h => h) (Or.inl ⟨by rfl, ?_⟩) (by assumption) ?_
                rotate_left
                · intro w' hSw; obtain ⟨⟨⟨d0, d1, d2, d3⟩, e0, e1, e2, e3⟩, tz⟩ := hSw; go_simp; try with_reducible rfl
                simp only [Act.put, List.setIfInBounds_toArray, List.set_cons_zero, List.set_cons_succ]
                refine wpAnyH_take (i := 3) (oi := { dst := some 57, op := Op.fieldAddr 73 (Operand.tmp 7) 1, type := 0, pos := "dest.go:157", after := #[], guard := none }) (v := ?_) rfl (by kernel_rfl) (by kernel_rfl) (by kernel_rfl) (fun _ _ _ h => h) (Or.inl ⟨by rfl, ?_⟩) (by assumption) ?_
                rotate_left
                · intro w' hSw; obtain ⟨⟨⟨d0, d1, d2, d3⟩, e0, e1, e2, e3⟩, tz⟩ := hSw; go_simp; try with_reducible rfl
                simp only [Act.put, List.setIfInBounds_toArray, List.set_cons_zero, List.set_cons_succ]
                refine wpAnyH_take (i := 4) (oi := { dst := some 58, op := Op.load 3 (Operand.tmp 57), type := 3, pos := "dest.go:157", after := #[{ on := 3, ground := Ground.data }], guard := none }) (v := ?_) rfl (by kernel_rfl) (by kernel_rfl) (by kernel_rfl) (fun _ _ _ h => h) (Or.inl ⟨by rfl, ?_⟩) (by assumption) ?_
                rotate_left
                · intro w' hSw; obtain ⟨⟨⟨d0, d1, d2, d3⟩, e0, e1, e2, e3⟩, tz⟩ := hSw; go_simp; try with_reducible rfl
                simp only [Act.put, List.setIfInBounds_toArray, List.set_cons_zero, List.set_cons_succ]
                refine wpAnyH_take (i := 5) (oi := { dst := some 59, op := Op.binOp BinOp.sub 3 (Operand.tmp 58) (Operand.const (Value.int IntKind.i64 1)) 3, type := 3, pos := "dest.go:157", after := #[{ on := 4, ground := Ground.data }], guard := none }) (v := ?_) rfl (by kernel_rfl) (by kernel_rfl) (by kernel_rfl) (fun _ _ _ h => h) (Or.inl ⟨by rfl, ?_⟩) (by assumption) ?_
                rotate_left
                · intro w' hSw; obtain ⟨⟨⟨d0, d1, d2, d3⟩, e0, e1, e2, e3⟩, tz⟩ := hSw; go_simp; try with_reducible rfl
                simp only [Act.put, List.setIfInBounds_toArray, List.set_cons_zero, List.set_cons_succ]
                refine wpAnyH_take (i := 8) (oi := { dst := some 62, op := Op.load 73 (Operand.tmp 6), type := 73, pos := "dest.go:157", after := #[], guard := none }) (v := ?_) rfl (by kernel_rfl) (by kernel_rfl) (by kernel_rfl) (fun _ _ _ h => h) (Or.inl ⟨by rfl, ?_⟩) (by assumption) ?_
                rotate_left
                · intro w' hSw; obtain ⟨⟨⟨d0, d1, d2, d3⟩, e0, e1, e2, e3⟩, tz⟩ := hSw; go_simp; try with_reducible rfl
                simp only [Act.put, List.setIfInBounds_toArray, List.set_cons_zero, List.set_cons_succ]
                refine wpAnyH_take (i := 9) (oi := { dst := some 63, op := Op.fieldAddr 73 (Operand.tmp 7) 1, type := 0, pos := "dest.go:157", after := #[], guard := none }) (v := ?_) rfl (by kernel_rfl) (by kernel_rfl) (by kernel_rfl) (fun _ _ _ h => h) (Or.inl ⟨by rfl, ?_⟩) (by assumption) ?_
                rotate_left
                · intro w' hSw; obtain ⟨⟨⟨d0, d1, d2, d3⟩, e0, e1, e2, e3⟩, tz⟩ := hSw; go_simp; try with_reducible rfl
                simp only [Act.put, List.setIfInBounds_toArray, List.set_cons_zero, List.set_cons_succ]
                refine wpAnyH_take (i := 10) (oi := { dst := some 64, op := Op.load 3 (Operand.tmp 63), type := 3, pos := "dest.go:157", after := #[{ on := 9, ground := Ground.data }], guard := none }) (v := ?_) rfl (by kernel_rfl) (by kernel_rfl) (by kernel_rfl) (fun _ _ _ h => h) (Or.inl ⟨by rfl, ?_⟩) (by assumption) ?_
                rotate_left
                · intro w' hSw; obtain ⟨⟨⟨d0, d1, d2, d3⟩, e0, e1, e2, e3⟩, tz⟩ := hSw; go_simp; try with_reducible rfl
                simp only [Act.put, List.setIfInBounds_toArray, List.set_cons_zero, List.set_cons_succ]
                refine wpAnyH_ready (rs := [6]) (by kernel_rfl) (by simp) (AllReadyH.cons rfl (fun K hK => ?_) AllReadyH.nil)
                go_simp
                go_wp2_with ((go_at_call 157; (with_reducible refine (KU.out _).mono ?_); rintro e X6 ⟨rfl, y6⟩))
                have z6 := z0.trans (y6.mono z0.size)
                refine hK.out _ _ (SS3.out _ (HM1.out.below z6) (F1.out _ z6)) (fun hS6 => ?_)
                clear hK K
                try dsimp only at hS6
                refine wpAnyH_ready (rs := [7]) (by kernel_rfl) (by simp) (AllReadyH.cons rfl (fun K hK => ?_) AllReadyH.nil)
                go_simp
                go_wp2_with ((go_at_call 156; (with_reducible refine (KA.out X6 z6).mono ?_); rintro e X7 ⟨v7, rfl, r1, r2, r3, r4⟩))
                have F7 := FG.out X6 X7 z6 r2
                have l7 := LS.out X6 X7 z6 r2
                have u7 := (r4.ut ma List.mem_cons_self).un
                refine hK.out _ _ (SS3.out _ r4 F7) (fun hS7 => ?_)
                clear hK K
                try dsimp only at hS7
                refine wpAnyH_ready (rs := [11]) (by kernel_rfl) (by simp) (AllReadyH.cons rfl (fun K hK => ?_) AllReadyH.nil)
                go_simp
                go_wp2_with ((go_at_call 114; (with_reducible refine (KF.out X7 u7).mono ?_); rintro e X11 ⟨fa11, fc11, rfl, r11, y11⟩))
                have hM11 := r4.below y11
                have F11 := And.intro (Fb.below F7.1 y11 l7.1) (Fb.below F7.2 y11 l7.2)
                have o11 := own_belowD r1 y11 (Nat.le_refl _)
                refine hK.out _ _ (SS3.out _ hM11 F11) (fun hS11 => ?_)
                clear hK K
                try dsimp only at hS11
                refine wpAnyH_take (i := 12) (oi := { dst := some 5, op := Op.assign (Operand.tmp 61), type := 25, pos := "dest.go:157", after := #[{ on := 7, ground := Ground.data }, { on := 11, ground := Ground.chain }, { on := 0, ground := Ground.textOnly Departure.lateStores }, { on := 1, ground := Ground.phase }, { on := 2, ground := Ground.phase }, { on := 3, ground := Ground.phase }, { on := 4, ground := Ground.phase }, { on := 5, ground := Ground.phase }, { on := 6, ground := Ground.phase }, { on := 7, ground := Ground.phase }, { on := 8, ground := Ground.textOnly Departure.lateStores }, { on := 9, ground := Ground.textOnly Departure.lateStores }, { on := 10, ground := Ground.textOnly Departure.lateStores }, { on := 11, ground := Ground.textOnly Departure.lateStoresUnsure }], guard := none }) (v := ?_) rfl (by kernel_rfl) (by kernel_rfl) (by kernel_rfl) (fun _ _ _ h => h) (Or.inl ⟨by rfl, ?_⟩) (by assumption) ?_
                rotate_left
                · intro w' hSw; obtain ⟨⟨⟨d0, d1, d2, d3⟩, e0, e1, e2, e3⟩, tz⟩ := hSw; go_simp; try with_reducible rfl
                simp only [Act.put, List.setIfInBounds_toArray, List.set_cons_zero, List.set_cons_succ]
                refine wpAnyH_take (i := 13) (oi := { dst := some 66, op := Op.indexAddr 25 (Operand.tmp 54) (Operand.const (Value.int IntKind.i64 0)), type := 0, pos := "dest.go:157", after := #[{ on := 0, ground := Ground.data }, { on := 0, ground := Ground.phase }, { on := 1, ground := Ground.phase }, { on := 2, ground := Ground.phase }, { on := 3, ground := Ground.phase }, { on := 4, ground := Ground.phase }, { on := 5, ground := Ground.phase }, { on := 6, ground := Ground.phase }, { on := 7, ground := Ground.phase }, { on := 8, ground := Ground.phase }, { on := 9, ground := Ground.phase }, { on := 10, ground := Ground.phase }, { on := 11, ground := Ground.phase }, { on := 12, ground := Ground.phase }], guard := none }) (v := ?_) rfl (by kernel_rfl) (by kernel_rfl) (by kernel_rfl) (fun _ _ _ h => h) (Or.inl ⟨by rfl, ?_⟩) (by assumption) ?_
                rotate_left
                · intro w' hSw; obtain ⟨⟨⟨d0, d1, d2, d3⟩, e0, e1, e2, e3⟩, tz⟩ := hSw; go_simp; try with_reducible rfl
                simp only [Act.put, List.setIfInBounds_toArray, List.set_cons_zero, List.set_cons_succ]
                obtain ⟨p, ep, p1, p2, p3⟩ := hM11.rt (by simp)
                injection ep with ep
                injection ep with _ ep
                subst ep
                obtain ⟨x0, x1, x2, x3⟩ := p3.f4 (j := 0) (x := ma) rfl
                simp only [Nat.zero_mul, Nat.add_zero] at x0 x1 x2 x3
                have f0 := p3.frozen pa
                have f1 := p3.frozen (pa + 1)
                have f2 := p3.frozen (pa + 2)
                have f3 := p3.frozen (pa + 3)
                have HP3 := Lib.hid p3
                have KSET := Lib.hid (store_head (lo := lo) (hi := hi) ⟨partB ma.b mb.b.lo ma.b.hi, fa11, fc11⟩ p3 HHI.out.1 HHI.out.2.1)
                have HM11 := Lib.hid hM11
                have HO11 := Lib.hid o11
                have HR11 := Lib.hid r11
                have HF11 := Lib.hid F11
                have HL11 := Lib.hid (And.intro (Nat.lt_of_lt_of_le l7.1 y11.size) (Nat.lt_of_lt_of_le l7.2 y11.size))
                clear p3 p1 p2 hM11 o11 r11 F11 F7 u7 l7 r1 r2 r3 r4 y11 y6 z6 hS0 hS6 hS7
                refine wpAnyH_ready (rs := [14]) (by kernel_rfl) (by simp) (AllReadyH.cons rfl (fun K hK => ?_) AllReadyH.nil)
                go_simp
                go_wp2_with fail
                obtain ⟨k1, k2⟩ := KSET.out _ rfl
                dsimp only [partB] at k1 k2
                generalize (((X11.setCell ⟨bt, pa, none⟩ (.int .i64 ma.b.n)).setCell ⟨bt, pa + 1, none⟩ (.int .i64 mb.b.lo)).setCell ⟨bt, pa + 2, none⟩ (.int .i64 ma.b.hi)).setCell ⟨bt, pa + 3, none⟩ (.slice fa11 (goB ma.b mb.b.lo).length fc11) = X at *
                have SF : (fun w' => ((w'.cell? ⟨ba, 0, none⟩ = some (.int .i64 ma.b.n) ∧ w'.cell? ⟨ba, 1, none⟩ = some (.int .i64 ma.b.lo) ∧ w'.cell? ⟨ba, 2, none⟩ = some (.int .i64 ma.b.hi) ∧ w'.cell? ⟨ba, 3, none⟩ = some (.slice ma.a ma.b.u.length ma.c)) ∧ (w'.cell? ⟨bb, 0, none⟩ = some (.int .i64 mb.b.n) ∧ w'.cell? ⟨bb, 1, none⟩ = some (.int .i64 mb.b.lo) ∧ w'.cell? ⟨bb, 2, none⟩ = some (.int .i64 mb.b.hi) ∧ w'.cell? ⟨bb, 3, none⟩ = some (.slice mb.a mb.b.u.length mb.c))) ∧ Tz w' bt (pa + 4)) X := by
                  have hbn : bt < wr.heap.size := Nat.lt_of_lt_of_le hbt HSZ.out
                  have p := F4.keep HF11.out.1 (w' := X) fun i => World.cell?_of_block (a := ⟨ba, i, none⟩) (k2.keep ba HL11.out.1 (by omega))
                  have q := F4.keep HF11.out.2 (w' := X) fun i => World.cell?_of_block (a := ⟨bb, i, none⟩) (k2.keep bb HL11.out.2 (by omega))
                  have p0 := p.c0; have p1 := p.c1; have p2 := p.c2; have p4 := p.c3
                  have q0 := q.c0; have q1 := q.c1; have q2 := q.c2; have q4 := q.c3
                  simp only [Nat.zero_add] at p1 p2 p4 q1 q2 q4
                  exact ⟨⟨⟨p0, p1, p2, p4⟩, q0, q1, q2, q4⟩, k1.tz⟩
                refine hK.out _ _ SF (fun hS14 => ?_)
                clear hK K SF hS14 x0 x1 x2 x3 f0 f1 f2 f3
                refine wpAnyH_done (by kernel_rfl) ?_ _
                go_wp2
                go_roundg (wid (partB ma.b mb.b.lo ma.b.hi :: pl T) + (V.length + 1))
                case measure =>
                  rw [HK.out]
                  have e2 : pl (ma :: T) = ma.b :: pl T := rfl
                  have e3 := meet_eq H1.out H2.out
                  have e4 := H3.out
                  rw [e2, wid_cons, wid_cons]
                  simp only [List.length_cons, partB]
                  omega
                case rel =>
                  refine ⟨⟨partB ma.b mb.b.lo ma.b.hi, fa11, fc11⟩ :: T, mb :: V, addM O ⟨{ ma.b with hi := mb.b.lo - 1 }, ma.a, ma.c⟩, some ⟨bt, pa, none⟩, some ⟨bv, pb, none⟩, ct, cv, Lib.hid rfl, by first | rfl | simp, by simpa using hct, by rw [hlV], by rw [hlV]; exact hcv, own_fzD HO11.out k2 hbt, Lib.hid ?_, Lib.hid ?_⟩
                  · have hM := HM11.out.head ⟨partB ma.b mb.b.lo ma.b.hi, fa11, fc11⟩ HR11.out k1 k2 ⟨HHI.out.1, HHI.out.2.2⟩ HP3.out.tq hdis
                    exact ⟨hM.rt, hM.rv, hM.ut, hM.uv, addM_ul hM.uo (((HM11.out.ut ma List.mem_cons_self)).ik (k2.ik HP3.out.tq)), hM.fz⟩
                  · have := HP.out.cutLo H1.out H2.out H3.out
                    rw [← partB_up] at this
                    rw [addM_pl]
                    exact this
              | false =>
                have H3 := Lib.hid (of_decide_eq_false h3)
                cases h4 : decide (mb.b.hi < ma.b.hi) with
                | true =>
                  have H4 := Lib.hid (of_decide_eq_true h4)
                  have hwr : IntKind.i64.wrap (mb.b.hi + 1) = mb.b.hi + 1 := IntWalk.i64_in _ (by omega)
                  have KF := Lib.hid (from_any ma (mb.b.hi + 1) W1 (hM1.ut ma List.mem_cons_self).un HSA.out.2.2.2.1 nra.1 nra.2.1 (by omega) (by omega))
                  have HM1 := Lib.hid hM1
                  have HB1 := Lib.hid hb1
                  unfold fv at KF
                  clear nra nrb nrc nrd KADD hM1 hb1
                  go_wp2_with fail
                  refine KF.out.mono ?_
                  rintro e W2 ⟨fa2, fc2, rfl, r1, hb3⟩
                  have hM2 := HM1.out.below hb3
                  have hown2 := own_belowD HWC.out (HB1.out.trans (hb3.mono HB1.out.size)) (Nat.le_refl _)
                  obtain ⟨p, ep, p1, p2, p3⟩ := hM2.rt (by simp)
                  injection ep with ep
                  injection ep with _ ep
                  subst ep
                  obtain ⟨x0, x1, x2, x3⟩ := p3.f4 (j := 0) (x := ma) rfl
                  simp only [Nat.zero_mul, Nat.add_zero] at x0 x1 x2 x3
                  have f0 := p3.frozen pa
                  have f1 := p3.frozen (pa + 1)
                  have f2 := p3.frozen (pa + 2)
                  have f3 := p3.frozen (pa + 3)
                  have HP3 := Lib.hid p3
                  have HM2 := Lib.hid hM2
                  have HO2 := Lib.hid hown2
                  have HR1 := Lib.hid r1
                  have KSET := Lib.hid (store_head (lo := lo) (hi := hi) ⟨partB ma.b (mb.b.hi + 1) ma.b.hi, fa2, fc2⟩ p3 HHI.out.1 HHI.out.2.1)
                  clear r1 hM2 hown2 p3 c0 c1 c2 c3 e0 e1 e2 e3
                  dsimp only [fv, partB]
                  go_wp2
                  obtain ⟨k1, k2⟩ := KSET.out _ rfl
                  dsimp only [partB] at k1 k2
                  generalize (((W2.setCell ⟨bt, pa, none⟩ (.int .i64 ma.b.n)).setCell ⟨bt, pa + 1, none⟩ (.int .i64 (mb.b.hi + 1))).setCell ⟨bt, pa + 2, none⟩ (.int .i64 ma.b.hi)).setCell ⟨bt, pa + 3, none⟩ (.slice fa2 (goB ma.b (mb.b.hi + 1)).length fc2) = X at *
                  go_roundg (wid (partB ma.b (mb.b.hi + 1) ma.b.hi :: pl T) + (V.length + 1))
                  case measure =>
                    rw [HK.out]
                    have e2 : pl (ma :: T) = ma.b :: pl T := rfl
                    have e3 := meet_eq H1.out H2.out
                    have e4 := H4.out
                    rw [e2, wid_cons, wid_cons]
                    simp only [List.length_cons, partB]
                    omega
                  case rel =>
                    refine ⟨⟨partB ma.b (mb.b.hi + 1) ma.b.hi, fa2, fc2⟩ :: T, mb :: V, O, some ⟨bt, pa, none⟩, some ⟨bv, pb, none⟩, ct, cv, Lib.hid rfl, by first | rfl | simp, by simpa using hct, by rw [hlV], by rw [hlV]; exact hcv, own_fzD HO2.out k2 hbt, Lib.hid (HM2.out.head ⟨partB ma.b (mb.b.hi + 1) ma.b.hi, fa2, fc2⟩ HR1.out k1 k2 ⟨HHI.out.1, HHI.out.2.2⟩ HP3.out.tq hdis), Lib.hid ?_⟩
                    exact HP.out.cutHi H1.out H2.out (Int.not_lt.2 H3.out) H4.out
                | false =>
                  have H4 := Lib.hid (of_decide_eq_false h4)
                  have HM1 := Lib.hid hM1
                  have HB1 := Lib.hid hb1
                  clear nra nrb nrc nrd KADD hM1 hb1
                  by_cases hq0 : ct - 1 = 0
                  all_goals
                    go_wp2
                    go_roundg (wid (pl T) + (V.length + 1))
                    case measure =>
                      rw [HK.out]
                      have := wid_sb HSA.out
                      have e := wid_cons ma.b (pl T)
                      have e2 : pl (ma :: T) = ma.b :: pl T := rfl
                      rw [e2, e]
                      simp only [List.length_cons]
                      omega
                    case rel =>
                      have r4 := HM1.out
                      refine ⟨T, mb :: V, O, _, some ⟨bv, pb, none⟩, _, cv, Lib.hid (by simp), by first | rfl | simp, by omega, by rw [hlV], by rw [hlV]; exact hcv, own_belowD HWC.out HB1.out (Nat.le_refl _), Lib.hid ⟨?_, r4.rv, fun m hm => r4.ut m (List.mem_cons_of_mem _ hm), r4.uv, r4.uo, r4.fz⟩, Lib.hid ?_⟩
                      · intro hn
                        obtain ⟨p, ep, p1, p2, p3⟩ := r4.rt (by simp)
                        injection ep with ep
                        injection ep with _ ep
                        subst ep
                        refine ⟨pa + 4, ?_, by omega, by simp at p2; omega, p3.tail⟩
                        first | rfl | (exfalso; omega)
                      · exact HP.out.skip H1.out H2.out (Int.not_lt.2 H3.out) (Int.not_lt.2 H4.out)
end Go.Proofs.YtmjneokjgcgchaaGreat
