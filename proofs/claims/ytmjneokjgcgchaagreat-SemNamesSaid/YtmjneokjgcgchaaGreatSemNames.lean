/-
  DEFINITIONS CHANGE NO TABLE, AND SECTIONS NO NAME: the law's walk.
-/
import Derived.Test.YtmjneokjgcgchaaGreatSemBox
import Derived.Test.YtmjneokjgcgchaaGreatSemDoN
import Derived.Test.YtmjneokjgcgchaaGreatSemShort
import Derived.Deep.Cut
import Derived.Deep.CutRange
namespace Go.Proofs.YtmjneokjgcgchaaGreat
open Go.RowKit

theorem cL_one {is : List Im} {x : Im} (h1 : is.length ≤ 60) (h2 : cL is ≤ 120) (hx : x ∈ is) : cL [x] ≤ 120 := by
  have h3 := le_sum cI hx
  rw [cL, List.take_of_length_le h1] at h2
  simp only [cL, List.take, List.map_cons, List.map_nil, List.sum_cons, List.sum_nil]
  omega
set_option maxRecDepth 100000 in
set_option maxHeartbeats 8000000 in
theorem names_walk {t : Tb} {a : Ta} {v : Value} {is : List Im} (w : World) (h : Tm w t a) (hl : Tl t) (hx : Ix w (fun _ => False) v is) (hln : is.length ≤ maxLen) (hb : ∀ x ∈ is, Ib x) (hz : ∀ x ∈ is, Iz x) :
    Calls Tryz.prog 7 #[tbv t a, v] w fun e w' => e = .returned (.bool true) ∧ Below w.heap.size w w' := by
  have HA := Lib.hid (fun W => awake9_any W)
  have H1 : Below w.heap.size w (w.alloc (.cells #[.string (str t.nm), .int .i64 t.wm, .slice a.a0 t.sp.length a.c0, .slice a.a1 t.ci.length a.c1, .slice a.a2 t.no.length a.c2, .slice a.a3 t.bf.length a.c3] 27)) ∧ (w.alloc (.cells #[.string (str t.nm), .int .i64 t.wm, .slice a.a0 t.sp.length a.c0, .slice a.a1 t.ci.length a.c1, .slice a.a2 t.no.length a.c2, .slice a.a3 t.bf.length a.c3] 27)).heap[w.heap.size]? = some (.cells #[.string (str t.nm), .int .i64 t.wm, .slice a.a0 t.sp.length a.c0, .slice a.a1 t.ci.length a.c1, .slice a.a2 t.no.length a.c2, .slice a.a3 t.bf.length a.c3] 27 (0, 0)) := ⟨(Below.refl _ _).alloc (Nat.le_refl _) _, heap_alloc_new w _⟩
  obtain ⟨W1, hW1⟩ : ∃ W, W = w.alloc (.cells #[.string (str t.nm), .int .i64 t.wm, .slice a.a0 t.sp.length a.c0, .slice a.a1 t.ci.length a.c1, .slice a.a2 t.no.length a.c2, .slice a.a3 t.bf.length a.c3] 27) := ⟨_, rfl⟩
  rw [← hW1] at H1
  have HST : Hid (∀ W, Below W1.heap.size W1 W → Tm W t a) := Lib.hid fun W hW => (h.over H1.1).over hW
  have HT0 : Hid (∀ W, Below W1.heap.size W1 W → W.heap[w.heap.size]? = some (.cells #[.string (str t.nm), .int .i64 t.wm, .slice a.a0 t.sp.length a.c0, .slice a.a1 t.ci.length a.c1, .slice a.a2 t.no.length a.c2, .slice a.a3 t.bf.length a.c3] 27 (0, 0))) := Lib.hid fun W hW => (hW.block _ (Array.getElem?_eq_some_iff.1 H1.2).1).trans H1.2
  have HB1 := Lib.hid H1.1
  have KF1 := Lib.hid (fun W hW => rFew9_any (HST.out W hW) hl)
  have KTt := Lib.hid (fun W => table_any t a W)
  have KS := Lib.hid (fun W (hW : Below w.heap.size w W) => rShort9_any W (hx.any (Kp.of_below hW)) hln hb hz)
  have HX := Lib.hid hx
  obtain ⟨d, hd, hr, hn⟩ := hx
  obtain ⟨Av, cv, hve, _⟩ := id hr
  subst hve
  have hdl : d.length = is.length := by rw [hd]; simp
  generalize hnn : d.length = n at *
  have HL := Lib.hid hdl
  clear h hl H1 hd hr hn hdl hb hz hln hnn
  unfold tbv at KF1 KTt ⊢
  have hV1 := hW1.symm
  clear hW1
  go_enter Tryz.func7, Tryz.ntmps7
  go_wp2_with fail
  refine (HA.out _).mono ?_
  rintro e w1 ⟨rfl, hb1⟩
  have Z1 := Lib.hid hb1
  clear hb1 hV1
  obtain ⟨T0, hT0⟩ : ∃ T, T = w.heap.size := ⟨_, rfl⟩
  rw [← hT0] at HT0
  rw [← hT0]
  have HTT := Lib.hid hT0
  clear hT0
  obtain ⟨d0, d1, d2, d3, d4, d5⟩ := cells6 (HT0.out _ Z1.out)
  go_wp2_with fail
  refine (KF1.out _ Z1.out).mono ?_
  rintro e w2 ⟨b1, rfl, hf1, hb2⟩
  have Z2 := Lib.hid (Z1.out.trans (hb2.mono Z1.out.size))
  have HF1 := Lib.hid hf1
  clear hf1 hb2 d0 d1 d2 d3 d4 d5
  cases b1 with
  | false =>
    go_wp2
    go_ret
    exact ⟨rfl, HB1.out.trans (Z2.out.mono HB1.out.size)⟩
  | true =>
  have KS1 := Lib.hid (KS.out _ (HB1.out.trans (Z2.out.mono HB1.out.size)))
  go_wp2_with fail
  refine KS1.out.mono ?_
  rintro e w3 ⟨b2, rfl, hsh, hb3⟩
  have Z3 := Lib.hid (Z2.out.trans (hb3.mono Z2.out.size))
  have HSH := Lib.hid hsh
  clear hsh hb3 KS1 KS KF1
  cases b2 with
  | false =>
    go_wp2
    go_ret
    exact ⟨rfl, HB1.out.trans (Z3.out.mono HB1.out.size)⟩
  | true =>
  by_cases hn0 : n = 0
  · have t0 : ((n : Int) == 0) = true := by simp; omega
    go_wp2
    go_ret
    exact ⟨rfl, HB1.out.trans (Z3.out.mono HB1.out.size)⟩
  have t0 : ((n : Int) == 0) = false := by simp; omega
  have HL1 : Hid (t.sp.length ≤ 60 ∧ t.ci.length ≤ 60 ∧ t.no.length ≤ 60 ∧ t.bf.length ≤ 60) := Lib.hid (by
    obtain ⟨_, q0, q1, q2, q3⟩ := HF1.out (by first | rfl | trivial)
    have := q3.2
    simp only [pl_length] at this
    exact ⟨q0, q1, q2, this⟩)
  have HLU : Hid (∀ m ∈ t.bf, m.b.u.length ≤ 70) := Lib.hid (by
    obtain ⟨_, _, _, _, q3⟩ := HF1.out (by first | rfl | trivial)
    exact fun m hm => q3.all m.b (List.mem_map_of_mem hm))
  have HS1 : Hid (is.length ≤ 60 ∧ cL is ≤ 120) := Lib.hid (HSH.out (by first | rfl | trivial))
  have HXB := Lib.hid (short_xb HS1.out.1 HS1.out.2)
  have HN0 := Lib.hid hn0
  have KO := Lib.hid (ours_any w3 (HX.out.any (Kp.of_below (HB1.out.trans (Z3.out.mono HB1.out.size)))) (by have := HS1.out; omega) (fun x hx => Nat.le_trans (HXB.out x hx).1 (by omega)))
  clear hn0 HSH HF1
  go_wp2_with fail
  refine KO.out.mono ?_
  rintro e w4 ⟨v4, rfl, hix4, hb4⟩
  have Z4 := Lib.hid (Z3.out.trans (hb4.mono Z3.out.size))
  obtain ⟨d4, hd4, hr4, hn4⟩ := hix4
  obtain ⟨A4, c4, hve, _⟩ := id hr4
  subst hve
  have hdl4 : d4.length = is.length := by rw [hd4]; simp
  obtain ⟨b, p, c, q, e1, g1, hm, q1⟩ := Rw.at hr4 (j := 0) (by have := HL.out; have := HN0.out; omega)
  injection e1 with e1 e1n e1c
  clear e1n
  subst e1 e1c
  have hzz := hn4 q hm
  have hisk : q.1 ∈ is := by rw [hd4]; exact List.mem_map_of_mem hm
  obtain ⟨x, v1⟩ := q
  obtain ⟨xA, xn, xc, hv1⟩ := hzz.shape'
  simp only at hzz hv1 hisk
  subst hv1
  have hpos : (0 : Nat) < d4.length := by have := HL.out; have := HN0.out; omega
  simp only [Nat.zero_mul, Nat.add_zero] at q1
  have y0 : w4.cell? ⟨b, p, none⟩ = some (.int .i64 x.kind) := by simpa using q1 0 _ rfl
  have y1 : w4.cell? ⟨b, p + 1, none⟩ = some (.int .i64 x.at_) := q1 1 _ rfl
  have y2 : w4.cell? ⟨b, p + 2, none⟩ = some (.string (str x.name)) := q1 2 _ rfl
  have y3 : w4.cell? ⟨b, p + 3, none⟩ = some (.int .i64 x.val.kind) := q1 3 _ rfl
  have y4 : w4.cell? ⟨b, p + 4, none⟩ = some (.int .i64 x.val.at_) := q1 4 _ rfl
  have y5 : w4.cell? ⟨b, p + 5, none⟩ = some (.int .i64 x.val.n) := q1 5 _ rfl
  have y6 : w4.cell? ⟨b, p + 6, none⟩ = some (.string (str x.val.s)) := q1 6 _ rfl
  have y7 : w4.cell? ⟨b, p + 7, none⟩ = some (.slice xA xn xc) := q1 7 _ rfl
  have HEX : Hid (∀ W, Below w4.heap.size w4 W → Ex W (fun _ => False) (.slice xA xn xc) x.ents) := Lib.hid fun W hW => hzz.any (Kp.of_below hW)
  have HIN := Lib.hid hisk
  have hA5 : Below w4.heap.size w4 (w4.alloc (.cells #[.int .i64 x.kind, .int .i64 x.at_, .string (str x.name), .int .i64 x.val.kind, .int .i64 x.val.at_, .int .i64 x.val.n, .string (str x.val.s), .slice xA xn xc] 40)) := (Below.refl _ _).alloc (Nat.le_refl _) _
  have hx5 := heap_alloc_new w4 (.cells #[.int .i64 x.kind, .int .i64 x.at_, .string (str x.name), .int .i64 x.val.kind, .int .i64 x.val.at_, .int .i64 x.val.n, .string (str x.val.s), .slice xA xn xc] 40)
  obtain ⟨V5, hV5⟩ : ∃ V, V = w4.alloc (.cells #[.int .i64 x.kind, .int .i64 x.at_, .string (str x.name), .int .i64 x.val.kind, .int .i64 x.val.at_, .int .i64 x.val.n, .string (str x.val.s), .slice xA xn xc] 40) := ⟨_, rfl⟩
  rw [← hV5] at hA5 hx5
  have Z5 := Lib.hid (Z4.out.trans (hA5.mono Z4.out.size))
  have HA5 := Lib.hid hA5
  have HX5 := Lib.hid hx5
  have hV := hV5.symm
  clear hb4 hd4 hr4 hn4 g1 hm q1 hzz hisk hA5 hx5 hV5 hdl4
  go_upto_region 5 with fail
  clear hV y0 y1 y2 y3 y4 y5 y6 y7
  obtain ⟨X6, hX6⟩ : ∃ X, X = w4.heap.size := ⟨_, rfl⟩
  rw [← hX6] at HX5
  rw [← hX6]
  clear hX6
  have HC8 : Hid (∀ W, Below V5.heap.size V5 W → (fun w' => Cl6 w' T0 t a ∧ (w'.cell? ⟨X6, 0, none⟩ = some (.int .i64 x.kind) ∧ w'.cell? ⟨X6, 1, none⟩ = some (.int .i64 x.at_) ∧ w'.cell? ⟨X6, 2, none⟩ = some (.string (str x.name)) ∧ w'.cell? ⟨X6, 3, none⟩ = some (.int .i64 x.val.kind) ∧ w'.cell? ⟨X6, 4, none⟩ = some (.int .i64 x.val.at_) ∧ w'.cell? ⟨X6, 5, none⟩ = some (.int .i64 x.val.n) ∧ w'.cell? ⟨X6, 6, none⟩ = some (.string (str x.val.s)) ∧ w'.cell? ⟨X6, 7, none⟩ = some (.slice xA xn xc))) W) := Lib.hid fun W hW => ⟨cells6 (HT0.out W (Z5.out.trans (hW.mono Z5.out.size))), cells8 ((hW.block _ (Array.getElem?_eq_some_iff.1 HX5.out).1).trans HX5.out)⟩
  have KDO : Hid (∀ W, Below V5.heap.size V5 W → Calls Tryz.prog 14 #[tbv t a, itv x xA xn xc] W fun e w' => ∃ z az, e = .returned (tbv z az) ∧ Did (Tp t) x (Tp z) ∧ ((x.kind = 0 ∨ (x.kind = 1 ∨ x.kind < 0 ∨ 8 < x.kind)) → az = (⟨a.a0, t.sp.length, a.a1, t.ci.length, a.a2, t.no.length, a.a3, t.bf.length⟩ : Ta) ∧ (z.sp = t.sp ∧ z.ci = t.ci ∧ z.no = t.no ∧ z.bf = t.bf)) ∧ Below W.heap.size W w') := Lib.hid fun W hW => by
    have htm := HST.out W (Z5.out.trans (hW.mono Z5.out.size))
    have hex := HEX.out W (HA5.out.trans (hW.mono HA5.out.size))
    have hxb := HXB.out x HIN.out
    have hpt : Pb (Tp t) := by have := HL1.out; simp only [Pb, Tp, pl_length]; omega
    have hpl : Pb (lstI (Tp t) x) := by
      have q := short_lens (is := [x]) (by simp) (cL_one HS1.out.1 HS1.out.2 HIN.out) (Tp t)
      have := HL1.out
      have e : lstL (Tp t) [x] = lstI (Tp t) x := rfl
      rw [e] at q
      have e2 : (Tp t).bf.length = t.bf.length := pl_length _
      simp only [show (Tp t).sp = t.sp from rfl, show (Tp t).ci = t.ci from rfl, show (Tp t).no = t.no from rfl, e2] at q
      exact ⟨by omega, by omega, by omega, by omega⟩
    by_cases hkn : (x.kind = 0 ∨ (x.kind = 1 ∨ x.kind < 0 ∨ 8 < x.kind))
    · refine (DoN_any W htm hex hxb hpt hpl hkn).mono ?_
      rintro e w' ⟨z, az, he, ha, hd, hs, hb⟩
      exact ⟨z, az, he, hd, fun _ => ⟨ha, hs⟩, hb⟩
    · refine (Do_any W htm hex hxb hpt hpl).mono ?_
      rintro e w' ⟨z, az, he, hd, _, hb⟩
      exact ⟨z, az, he, hd, fun hk => absurd hk hkn, hb⟩
  unfold tbv itv at KDO
  go_cut [7] from 9 to 83 (fun ty wx => ∃ (X : Nat) (z : Tb) (az : Ta), ty = .pointer (some ⟨X, 0, none⟩) ∧ Hid (wx.heap[X]? = some (Obj.cells #[.string (str z.nm), .int .i64 z.wm, .slice az.a0 z.sp.length az.c0, .slice az.a1 z.ci.length az.c1, .slice az.a2 z.no.length az.c2, .slice az.a3 z.bf.length az.c3] 27 (0, 0))) ∧ Hid (Did (Tp t) x (Tp z)) ∧ Hid ((x.kind = 0 ∨ (x.kind = 1 ∨ x.kind < 0 ∨ 8 < x.kind)) → az = (⟨a.a0, t.sp.length, a.a1, t.ci.length, a.a2, t.no.length, a.a3, t.bf.length⟩ : Ta) ∧ (z.sp = t.sp ∧ z.ci = t.ci ∧ z.no = t.no ∧ z.bf = t.bf)) ∧ Hid (Below V5.heap.size V5 wx))
  case first =>
    have HS := HC8
    have z0 : Below V5.heap.size V5 V5.drew := (Below.refl _ _).drew
    refine wp_region_held_drew (S := fun w' => Cl6 w' T0 t a ∧ (w'.cell? ⟨X6, 0, none⟩ = some (.int .i64 x.kind) ∧ w'.cell? ⟨X6, 1, none⟩ = some (.int .i64 x.at_) ∧ w'.cell? ⟨X6, 2, none⟩ = some (.string (str x.name)) ∧ w'.cell? ⟨X6, 3, none⟩ = some (.int .i64 x.val.kind) ∧ w'.cell? ⟨X6, 4, none⟩ = some (.int .i64 x.val.at_) ∧ w'.cell? ⟨X6, 5, none⟩ = some (.int .i64 x.val.n) ∧ w'.cell? ⟨X6, 6, none⟩ = some (.string (str x.val.s)) ∧ w'.cell? ⟨X6, 7, none⟩ = some (.slice xA xn xc))) (by kernel_rfl) (HS.out _ z0) (fun hS0 => ?_)
    try dsimp only at hS0
    generalize V5.drew = v0 at *
    refine wpAnyH_take (i := 0) (oi := { dst := some 28, op := Op.load 27 (Operand.tmp 2), type := 27, pos := "more.go:17", after := #[], guard := none }) (v := ?_) rfl (by kernel_rfl) (by kernel_rfl) (by kernel_rfl) (fun _ _ _ h => h) (Or.inl ⟨by rfl, ?_⟩) (by assumption) ?_
    rotate_left
    · intro w' hSw; obtain ⟨⟨d0, d1, d2, d3, d4, d5⟩, ⟨e0, e1, e2, e3, e4, e5, e6, e7⟩⟩ := hSw; go_simp; try with_reducible rfl
    simp only [Act.put, List.setIfInBounds_toArray, List.set_cons_zero, List.set_cons_succ]
    refine wpAnyH_take (i := 2) (oi := { dst := some 30, op := Op.load 40 (Operand.tmp 6), type := 40, pos := "more.go:17", after := #[], guard := none }) (v := ?_) rfl (by kernel_rfl) (by kernel_rfl) (by kernel_rfl) (fun _ _ _ h => h) (Or.inl ⟨by rfl, ?_⟩) (by assumption) ?_
    rotate_left
    · intro w' hSw; obtain ⟨⟨d0, d1, d2, d3, d4, d5⟩, ⟨e0, e1, e2, e3, e4, e5, e6, e7⟩⟩ := hSw; go_simp; try with_reducible rfl
    simp only [Act.put, List.setIfInBounds_toArray, List.set_cons_zero, List.set_cons_succ]
    refine wpAnyH_ready (rs := [1, 5]) (by kernel_rfl) (by simp) (AllReadyH.cons rfl (fun K hK => ?_) (AllReadyH.cons rfl (fun K hK => ?_) AllReadyH.nil))
    · go_simp
      go_wp2_with (go_at_call 15; (with_reducible refine (KTt.out _).mono ?_); rintro e v1 ⟨rfl, q1⟩)
      have z1 := z0.trans (q1.mono z0.size)
      refine hK.out _ _ (HS.out _ z1) (fun hS1 => ?_)
      clear hK K
      refine wpAnyH_ready (rs := [3, 5]) (by kernel_rfl) (by simp) (AllReadyH.cons rfl (fun K hK => ?_) (AllReadyH.cons rfl (fun K hK => ?_) AllReadyH.nil))
      · go_simp
        go_wp2_with (go_at_call 14; (with_reducible refine (KDO.out _ z1).mono ?_); rintro e v2 ⟨z, az, rfl, hdid, hsm, q2⟩)
        have z2 := z1.trans (q2.mono z1.size)
        have HDD := Lib.hid hdid
        have HSM := Lib.hid hsm
        have KTD := Lib.hid (fun W => told_any z az W)
        unfold tbv at KTD
        clear hdid hsm
        refine hK.out _ _ (HS.out _ z2) (fun hS2 => ?_)
        clear hK K
        refine wpAnyH_ready (rs := [4, 5]) (by kernel_rfl) (by simp) (AllReadyH.cons rfl (fun K hK => ?_) (AllReadyH.cons rfl (fun K hK => ?_) AllReadyH.nil))
        · go_simp
          go_wp2_with (go_at_call 13; (with_reducible refine (KTD.out _).mono ?_); rintro e v3 ⟨rfl, q3⟩)
          have z3 := z2.trans (q3.mono z2.size)
          refine hK.out _ _ (HS.out _ z3) (fun hS3 => ?_)
          clear hK K
          refine wpAnyH_ready (rs := [5]) (by kernel_rfl) (by simp) (AllReadyH.cons rfl (fun K hK => ?_) AllReadyH.nil)
          go_simp
          have z4 := z3.alloc z3.size (.cells #[.string ⟨#[]⟩, .int .i64 0, .slice none 0 0, .slice none 0 0, .slice none 0 0, .slice none 0 0] 27)
          have HA4 := Lib.hid (heap_alloc_new v3 (.cells #[.string ⟨#[]⟩, .int .i64 0, .slice none 0 0, .slice none 0 0, .slice none 0 0, .slice none 0 0] 27))
          have HX := Lib.hid z3.size
          generalize v3.alloc (.cells #[.string ⟨#[]⟩, .int .i64 0, .slice none 0 0, .slice none 0 0, .slice none 0 0, .slice none 0 0] 27) = v4 at *
          generalize v3.heap.size = XA at *
          refine hK.out _ _ (HS.out _ z4) (fun hS4 => ?_)
          clear hK K
          refine wpAnyH_ready (rs := [6]) (by kernel_rfl) (by simp) (AllReadyH.cons rfl (fun K hK => ?_) AllReadyH.nil)
          obtain ⟨g0, g1, g2, g3, g4, g5⟩ := thaw6 HA4.out
          obtain ⟨f0, f1, f2, f3, f4, f5⟩ := cells6 HA4.out
          have HB := Lib.hid (put6_below z4 HX.out (.string (str z.nm)) (.int .i64 z.wm) (.slice az.a0 z.sp.length az.c0) (.slice az.a1 z.ci.length az.c1) (.slice az.a2 z.no.length az.c2) (.slice az.a3 z.bf.length az.c3))
          have HZ := Lib.hid (put6_heap HA4.out (.string (str z.nm)) (.int .i64 z.wm) (.slice az.a0 z.sp.length az.c0) (.slice az.a1 z.ci.length az.c1) (.slice az.a2 z.no.length az.c2) (.slice az.a3 z.bf.length az.c3))
          unfold put6 at HB HZ
          go_simp
          refine hK.out _ _ (HS.out _ HB.out) (fun hSZ => ?_)
          clear hK K
          refine wpAnyH_done (by kernel_rfl) ?_ _
          go_wp2_with fail
          go_meet
          exact ⟨XA, z, az, rfl, HZ, HDD, HSM, HB⟩
        · go_simp
          have z3 := z2.alloc z2.size (.cells #[.string ⟨#[]⟩, .int .i64 0, .slice none 0 0, .slice none 0 0, .slice none 0 0, .slice none 0 0] 27)
          have HA3 := Lib.hid (heap_alloc_new v2 (.cells #[.string ⟨#[]⟩, .int .i64 0, .slice none 0 0, .slice none 0 0, .slice none 0 0, .slice none 0 0] 27))
          have HX := Lib.hid z2.size
          generalize v2.alloc (.cells #[.string ⟨#[]⟩, .int .i64 0, .slice none 0 0, .slice none 0 0, .slice none 0 0, .slice none 0 0] 27) = v3 at *
          generalize v2.heap.size = XA at *
          refine hK.out _ _ (HS.out _ z3) (fun hS3 => ?_)
          clear hK K
          refine wpAnyH_ready (rs := [4]) (by kernel_rfl) (by simp) (AllReadyH.cons rfl (fun K hK => ?_) AllReadyH.nil)
          go_simp
          go_wp2_with (go_at_call 13; (with_reducible refine (KTD.out _).mono ?_); rintro e v4 ⟨rfl, q4⟩)
          have z4 := z3.trans (q4.mono z3.size)
          have HA4 : Hid (v4.heap[XA]? = some (Obj.cells #[.string ⟨#[]⟩, .int .i64 0, .slice none 0 0, .slice none 0 0, .slice none 0 0, .slice none 0 0] 27 (0, 0))) := Lib.hid ((q4.block _ (Array.getElem?_eq_some_iff.1 HA3.out).1).trans HA3.out)
          refine hK.out _ _ (HS.out _ z4) (fun hS4 => ?_)
          clear hK K
          refine wpAnyH_ready (rs := [6]) (by kernel_rfl) (by simp) (AllReadyH.cons rfl (fun K hK => ?_) AllReadyH.nil)
          obtain ⟨g0, g1, g2, g3, g4, g5⟩ := thaw6 HA4.out
          obtain ⟨f0, f1, f2, f3, f4, f5⟩ := cells6 HA4.out
          have HB := Lib.hid (put6_below z4 HX.out (.string (str z.nm)) (.int .i64 z.wm) (.slice az.a0 z.sp.length az.c0) (.slice az.a1 z.ci.length az.c1) (.slice az.a2 z.no.length az.c2) (.slice az.a3 z.bf.length az.c3))
          have HZ := Lib.hid (put6_heap HA4.out (.string (str z.nm)) (.int .i64 z.wm) (.slice az.a0 z.sp.length az.c0) (.slice az.a1 z.ci.length az.c1) (.slice az.a2 z.no.length az.c2) (.slice az.a3 z.bf.length az.c3))
          unfold put6 at HB HZ
          go_simp
          refine hK.out _ _ (HS.out _ HB.out) (fun hSZ => ?_)
          clear hK K
          refine wpAnyH_done (by kernel_rfl) ?_ _
          go_wp2_with fail
          go_meet
          exact ⟨XA, z, az, rfl, HZ, HDD, HSM, HB⟩
      · go_simp
        have z2 := z1.alloc z1.size (.cells #[.string ⟨#[]⟩, .int .i64 0, .slice none 0 0, .slice none 0 0, .slice none 0 0, .slice none 0 0] 27)
        have HA2 := Lib.hid (heap_alloc_new v1 (.cells #[.string ⟨#[]⟩, .int .i64 0, .slice none 0 0, .slice none 0 0, .slice none 0 0, .slice none 0 0] 27))
        have HX := Lib.hid z1.size
        generalize v1.alloc (.cells #[.string ⟨#[]⟩, .int .i64 0, .slice none 0 0, .slice none 0 0, .slice none 0 0, .slice none 0 0] 27) = v2 at *
        generalize v1.heap.size = XA at *
        refine hK.out _ _ (HS.out _ z2) (fun hS2 => ?_)
        clear hK K
        refine wpAnyH_ready (rs := [3]) (by kernel_rfl) (by simp) (AllReadyH.cons rfl (fun K hK => ?_) AllReadyH.nil)
        go_simp
        go_wp2_with (go_at_call 14; (with_reducible refine (KDO.out _ z2).mono ?_); rintro e v3 ⟨z, az, rfl, hdid, hsm, q3⟩)
        have z3 := z2.trans (q3.mono z2.size)
        have HA3 : Hid (v3.heap[XA]? = some (Obj.cells #[.string ⟨#[]⟩, .int .i64 0, .slice none 0 0, .slice none 0 0, .slice none 0 0, .slice none 0 0] 27 (0, 0))) := Lib.hid ((q3.block _ (Array.getElem?_eq_some_iff.1 HA2.out).1).trans HA2.out)
        have HDD := Lib.hid hdid
        have HSM := Lib.hid hsm
        have KTD := Lib.hid (fun W => told_any z az W)
        unfold tbv at KTD
        clear hdid hsm
        refine hK.out _ _ (HS.out _ z3) (fun hS3 => ?_)
        clear hK K
        refine wpAnyH_ready (rs := [4]) (by kernel_rfl) (by simp) (AllReadyH.cons rfl (fun K hK => ?_) AllReadyH.nil)
        go_simp
        go_wp2_with (go_at_call 13; (with_reducible refine (KTD.out _).mono ?_); rintro e v4 ⟨rfl, q4⟩)
        have z4 := z3.trans (q4.mono z3.size)
        have HA4 : Hid (v4.heap[XA]? = some (Obj.cells #[.string ⟨#[]⟩, .int .i64 0, .slice none 0 0, .slice none 0 0, .slice none 0 0, .slice none 0 0] 27 (0, 0))) := Lib.hid ((q4.block _ (Array.getElem?_eq_some_iff.1 HA3.out).1).trans HA3.out)
        refine hK.out _ _ (HS.out _ z4) (fun hS4 => ?_)
        clear hK K
        refine wpAnyH_ready (rs := [6]) (by kernel_rfl) (by simp) (AllReadyH.cons rfl (fun K hK => ?_) AllReadyH.nil)
        obtain ⟨g0, g1, g2, g3, g4, g5⟩ := thaw6 HA4.out
        obtain ⟨f0, f1, f2, f3, f4, f5⟩ := cells6 HA4.out
        have HB := Lib.hid (put6_below z4 HX.out (.string (str z.nm)) (.int .i64 z.wm) (.slice az.a0 z.sp.length az.c0) (.slice az.a1 z.ci.length az.c1) (.slice az.a2 z.no.length az.c2) (.slice az.a3 z.bf.length az.c3))
        have HZ := Lib.hid (put6_heap HA4.out (.string (str z.nm)) (.int .i64 z.wm) (.slice az.a0 z.sp.length az.c0) (.slice az.a1 z.ci.length az.c1) (.slice az.a2 z.no.length az.c2) (.slice az.a3 z.bf.length az.c3))
        unfold put6 at HB HZ
        go_simp
        refine hK.out _ _ (HS.out _ HB.out) (fun hSZ => ?_)
        clear hK K
        refine wpAnyH_done (by kernel_rfl) ?_ _
        go_wp2_with fail
        go_meet
        exact ⟨XA, z, az, rfl, HZ, HDD, HSM, HB⟩
    · go_simp
      have z1 := z0.alloc z0.size (.cells #[.string ⟨#[]⟩, .int .i64 0, .slice none 0 0, .slice none 0 0, .slice none 0 0, .slice none 0 0] 27)
      have HA1 := Lib.hid (heap_alloc_new v0 (.cells #[.string ⟨#[]⟩, .int .i64 0, .slice none 0 0, .slice none 0 0, .slice none 0 0, .slice none 0 0] 27))
      have HX := Lib.hid z0.size
      generalize v0.alloc (.cells #[.string ⟨#[]⟩, .int .i64 0, .slice none 0 0, .slice none 0 0, .slice none 0 0, .slice none 0 0] 27) = v1 at *
      generalize v0.heap.size = XA at *
      refine hK.out _ _ (HS.out _ z1) (fun hS1 => ?_)
      clear hK K
      refine wpAnyH_ready (rs := [1]) (by kernel_rfl) (by simp) (AllReadyH.cons rfl (fun K hK => ?_) AllReadyH.nil)
      go_simp
      go_wp2_with (go_at_call 15; (with_reducible refine (KTt.out _).mono ?_); rintro e v2 ⟨rfl, q2⟩)
      have z2 := z1.trans (q2.mono z1.size)
      have HA2 : Hid (v2.heap[XA]? = some (Obj.cells #[.string ⟨#[]⟩, .int .i64 0, .slice none 0 0, .slice none 0 0, .slice none 0 0, .slice none 0 0] 27 (0, 0))) := Lib.hid ((q2.block _ (Array.getElem?_eq_some_iff.1 HA1.out).1).trans HA1.out)
      refine hK.out _ _ (HS.out _ z2) (fun hS2 => ?_)
      clear hK K
      refine wpAnyH_ready (rs := [3]) (by kernel_rfl) (by simp) (AllReadyH.cons rfl (fun K hK => ?_) AllReadyH.nil)
      go_simp
      go_wp2_with (go_at_call 14; (with_reducible refine (KDO.out _ z2).mono ?_); rintro e v3 ⟨z, az, rfl, hdid, hsm, q3⟩)
      have z3 := z2.trans (q3.mono z2.size)
      have HA3 : Hid (v3.heap[XA]? = some (Obj.cells #[.string ⟨#[]⟩, .int .i64 0, .slice none 0 0, .slice none 0 0, .slice none 0 0, .slice none 0 0] 27 (0, 0))) := Lib.hid ((q3.block _ (Array.getElem?_eq_some_iff.1 HA2.out).1).trans HA2.out)
      have HDD := Lib.hid hdid
      have HSM := Lib.hid hsm
      have KTD := Lib.hid (fun W => told_any z az W)
      unfold tbv at KTD
      clear hdid hsm
      refine hK.out _ _ (HS.out _ z3) (fun hS3 => ?_)
      clear hK K
      refine wpAnyH_ready (rs := [4]) (by kernel_rfl) (by simp) (AllReadyH.cons rfl (fun K hK => ?_) AllReadyH.nil)
      go_simp
      go_wp2_with (go_at_call 13; (with_reducible refine (KTD.out _).mono ?_); rintro e v4 ⟨rfl, q4⟩)
      have z4 := z3.trans (q4.mono z3.size)
      have HA4 : Hid (v4.heap[XA]? = some (Obj.cells #[.string ⟨#[]⟩, .int .i64 0, .slice none 0 0, .slice none 0 0, .slice none 0 0, .slice none 0 0] 27 (0, 0))) := Lib.hid ((q4.block _ (Array.getElem?_eq_some_iff.1 HA3.out).1).trans HA3.out)
      refine hK.out _ _ (HS.out _ z4) (fun hS4 => ?_)
      clear hK K
      refine wpAnyH_ready (rs := [6]) (by kernel_rfl) (by simp) (AllReadyH.cons rfl (fun K hK => ?_) AllReadyH.nil)
      obtain ⟨g0, g1, g2, g3, g4, g5⟩ := thaw6 HA4.out
      obtain ⟨f0, f1, f2, f3, f4, f5⟩ := cells6 HA4.out
      have HB := Lib.hid (put6_below z4 HX.out (.string (str z.nm)) (.int .i64 z.wm) (.slice az.a0 z.sp.length az.c0) (.slice az.a1 z.ci.length az.c1) (.slice az.a2 z.no.length az.c2) (.slice az.a3 z.bf.length az.c3))
      have HZ := Lib.hid (put6_heap HA4.out (.string (str z.nm)) (.int .i64 z.wm) (.slice az.a0 z.sp.length az.c0) (.slice az.a1 z.ci.length az.c1) (.slice az.a2 z.no.length az.c2) (.slice az.a3 z.bf.length az.c3))
      unfold put6 at HB HZ
      go_simp
      refine hK.out _ _ (HS.out _ HB.out) (fun hSZ => ?_)
      clear hK K
      refine wpAnyH_done (by kernel_rfl) ?_ _
      go_wp2_with fail
      go_meet
      exact ⟨XA, z, az, rfl, HZ, HDD, HSM, HB⟩
  case rest =>
  obtain ⟨X7, z, az, rfl, HZ7, HDD, HSM, HB7⟩ := hcut
  obtain ⟨V6, hV6⟩ : ∃ V, V = wc := ⟨_, rfl⟩
  subst hV6
  have Z6 := Lib.hid (Z5.out.trans (HB7.out.mono Z5.out.size))
  obtain ⟨d0, d1, d2, d3, d4', d5⟩ := (HC8.out _ HB7.out).1
  have y0 := (HC8.out _ HB7.out).2.1
  obtain ⟨f0, f1, f2, f3, f4, f5⟩ := cells6 HZ7.out
  have hkk : x.kind = 1 ∨ x.kind < 0 ∨ 8 < x.kind ∨ x.kind = 0 ∨ (1 < x.kind ∧ x.kind ≤ 8) := by omega
  rcases hkk with hk1 | hk2 | hk3 | hk4 | hk5
  ·
    have hk : Hid (x.kind = 1 ∨ x.kind < 0 ∨ 8 < x.kind) := Lib.hid (Or.inl hk1)
    have k1 : (x.kind == 1) = true := by simp [hk1]
    clear hk1
    have HSS := Lib.hid (HSM.out (by have := hk.out; omega))
    have htm := tm_same (HST.out _ Z6.out) HSS.out.2
    rw [← HSS.out.1] at htm
    have KS := Lib.hid (rSame9_yes htm (HST.out _ Z6.out) (did_else hk.out HDD.out) (by obtain ⟨_, e0, e1, e2, e3⟩ := HSS.out; have := HL1.out; exact ⟨by rw [e0]; omega, by rw [e1]; omega, by rw [e2]; omega, by rw [e3]; omega, fun m hm => by rw [e3] at hm; have := HLU.out m hm; omega⟩))
    clear htm
    unfold tbv at KS
    go_wp2_with fail
    refine KS.out.mono ?_
    rintro e w7 ⟨rfl, hb7⟩
    have HEND := Lib.hid (HB1.out.trans ((Z6.out.trans (hb7.mono Z6.out.size)).mono HB1.out.size))
    clear hb7
    go_wp2
    go_ret
    exact ⟨rfl, HEND.out⟩
  ·
    have hk : Hid (x.kind = 1 ∨ x.kind < 0 ∨ 8 < x.kind) := Lib.hid (Or.inr (Or.inl hk2))
    have k1 : (x.kind == 1) = false := by simp; omega
    have k2 : decide (x.kind < 0) = true := by simp; omega
    clear hk2
    have HSS := Lib.hid (HSM.out (by have := hk.out; omega))
    have htm := tm_same (HST.out _ Z6.out) HSS.out.2
    rw [← HSS.out.1] at htm
    have KS := Lib.hid (rSame9_yes htm (HST.out _ Z6.out) (did_else hk.out HDD.out) (by obtain ⟨_, e0, e1, e2, e3⟩ := HSS.out; have := HL1.out; exact ⟨by rw [e0]; omega, by rw [e1]; omega, by rw [e2]; omega, by rw [e3]; omega, fun m hm => by rw [e3] at hm; have := HLU.out m hm; omega⟩))
    clear htm
    unfold tbv at KS
    go_wp2_with fail
    refine KS.out.mono ?_
    rintro e w7 ⟨rfl, hb7⟩
    have HEND := Lib.hid (HB1.out.trans ((Z6.out.trans (hb7.mono Z6.out.size)).mono HB1.out.size))
    clear hb7
    go_wp2
    go_ret
    exact ⟨rfl, HEND.out⟩
  ·
    have hk : Hid (x.kind = 1 ∨ x.kind < 0 ∨ 8 < x.kind) := Lib.hid (Or.inr (Or.inr hk3))
    have k1 : (x.kind == 1) = false := by simp; omega
    have k2 : decide (x.kind < 0) = false := by simp; omega
    have k3 : decide (x.kind > 8) = true := by simp; omega
    clear hk3
    have HSS := Lib.hid (HSM.out (by have := hk.out; omega))
    have htm := tm_same (HST.out _ Z6.out) HSS.out.2
    rw [← HSS.out.1] at htm
    have KS := Lib.hid (rSame9_yes htm (HST.out _ Z6.out) (did_else hk.out HDD.out) (by obtain ⟨_, e0, e1, e2, e3⟩ := HSS.out; have := HL1.out; exact ⟨by rw [e0]; omega, by rw [e1]; omega, by rw [e2]; omega, by rw [e3]; omega, fun m hm => by rw [e3] at hm; have := HLU.out m hm; omega⟩))
    clear htm
    unfold tbv at KS
    go_wp2_with fail
    refine KS.out.mono ?_
    rintro e w7 ⟨rfl, hb7⟩
    have HEND := Lib.hid (HB1.out.trans ((Z6.out.trans (hb7.mono Z6.out.size)).mono HB1.out.size))
    clear hb7
    go_wp2
    go_ret
    exact ⟨rfl, HEND.out⟩
  · have k1 : (x.kind == 1) = false := by simp; omega
    have k2 : decide (x.kind < 0) = false := by simp; omega
    have k3 : decide (x.kind > 8) = false := by simp; omega
    have k4 : (x.kind == 0) = true := by simp [hk4]
    have hk := Lib.hid hk4
    clear hk4
    have HSS := Lib.hid (HSM.out (Or.inl hk.out))
    have hA7 : Below V6.heap.size V6 (V6.alloc (.cells #[.string (str z.nm), .int .i64 z.wm, .slice az.a0 z.sp.length az.c0, .slice az.a1 z.ci.length az.c1, .slice az.a2 z.no.length az.c2, .slice az.a3 z.bf.length az.c3] 27)) := (Below.refl _ _).alloc (Nat.le_refl _) _
    have hx7 := heap_alloc_new V6 (.cells #[.string (str z.nm), .int .i64 z.wm, .slice az.a0 z.sp.length az.c0, .slice az.a1 z.ci.length az.c1, .slice az.a2 z.no.length az.c2, .slice az.a3 z.bf.length az.c3] 27)
    obtain ⟨V7, hV7⟩ : ∃ V, V = V6.alloc (.cells #[.string (str z.nm), .int .i64 z.wm, .slice az.a0 z.sp.length az.c0, .slice az.a1 z.ci.length az.c1, .slice az.a2 z.no.length az.c2, .slice az.a3 z.bf.length az.c3] 27) := ⟨_, rfl⟩
    rw [← hV7] at hA7 hx7
    have hV := hV7.symm
    clear hV7
    go_upto_region 10 with fail
    clear hV d0 d1 d2 d3 d4' d5 f0 f1 f2 f3 f4 f5 y0
    obtain ⟨X8, hX8⟩ : ∃ X, X = V6.heap.size := ⟨_, rfl⟩
    have HX8 := Lib.hid hX8
    rw [← hX8] at hx7 ⊢
    clear hX8
    have HA7 := Lib.hid hA7
    have HX7 := Lib.hid hx7
    clear hA7 hx7
    obtain ⟨p0, p1, p2, p3, p4, p5⟩ := cells6 HX7.out
    obtain ⟨r0, r1, r2, r3, r4, r5⟩ := thaw6 HX7.out
    obtain ⟨d0, d1, d2, d3, d4', d5⟩ := (HC8.out _ (HB7.out.trans (HA7.out.mono HB7.out.size))).1
    go_upto_region 11 with fail
    have hx8 : (V7.setCell ⟨X8, 0, none⟩ (.string (str t.nm))).heap[X8]? = some (Obj.cells #[.string (str t.nm), .int .i64 z.wm, .slice az.a0 z.sp.length az.c0, .slice az.a1 z.ci.length az.c1, .slice az.a2 z.no.length az.c2, .slice az.a3 z.bf.length az.c3] 27 (0, 0)) := _root_.Go.heap_setCell_same V7 X8 0 _ _ _ HX7.out
    have hB8 : Below V6.heap.size V6 (V7.setCell ⟨X8, 0, none⟩ (.string (str t.nm))) := HA7.out.setCell (by show V6.heap.size ≤ X8; rw [HX8.out]; exact Nat.le_refl _) _
    obtain ⟨V8, hV8⟩ : ∃ V, V = V7.setCell ⟨X8, 0, none⟩ (.string (str t.nm)) := ⟨_, rfl⟩
    rw [← hV8] at hx8 hB8 ⊢
    clear hV8 p0 p1 p2 p3 p4 p5 r0 r1 r2 r3 r4 r5 d0 d1 d2 d3 d4' d5
    have HA8 := Lib.hid hB8
    have HXX8 := Lib.hid hx8
    clear hB8 hx8
    obtain ⟨p0, p1, p2, p3, p4, p5⟩ := cells6 HXX8.out
    obtain ⟨r0, r1, r2, r3, r4, r5⟩ := thaw6 HXX8.out
    obtain ⟨d0, d1, d2, d3, d4', d5⟩ := (HC8.out _ (HB7.out.trans (HA8.out.mono HB7.out.size))).1
    go_upto_region 12 with fail
    have hx9 : (V8.setCell ⟨X8, 1, none⟩ (.int .i64 t.wm)).heap[X8]? = some (Obj.cells #[.string (str t.nm), .int .i64 t.wm, .slice az.a0 z.sp.length az.c0, .slice az.a1 z.ci.length az.c1, .slice az.a2 z.no.length az.c2, .slice az.a3 z.bf.length az.c3] 27 (0, 0)) := _root_.Go.heap_setCell_same V8 X8 1 _ _ _ HXX8.out
    have hB9 : Below V6.heap.size V6 (V8.setCell ⟨X8, 1, none⟩ (.int .i64 t.wm)) := HA8.out.setCell (by show V6.heap.size ≤ X8; rw [HX8.out]; exact Nat.le_refl _) _
    obtain ⟨V9, hV9⟩ : ∃ V, V = V8.setCell ⟨X8, 1, none⟩ (.int .i64 t.wm) := ⟨_, rfl⟩
    rw [← hV9] at hx9 hB9 ⊢
    clear hV9 p0 p1 p2 p3 p4 p5 r0 r1 r2 r3 r4 r5 d0 d1 d2 d3 d4' d5
    obtain ⟨p0, p1, p2, p3, p4, p5⟩ := cells6 hx9
    have Z9 := Lib.hid (Z6.out.trans (hB9.mono Z6.out.size))
    obtain ⟨d0, d1, d2, d3, d4', d5⟩ := (HC8.out _ (HB7.out.trans (hB9.mono HB7.out.size))).1
    clear hx9 hB9
    have htm := tm_same (t' := ⟨t.nm, t.wm, z.sp, z.ci, z.no, z.bf⟩) (HST.out _ Z9.out) HSS.out.2
    rw [← HSS.out.1] at htm
    have KS := Lib.hid (rSame9_yes htm (HST.out _ Z9.out) (did_def hk.out HDD.out) (by obtain ⟨_, e0, e1, e2, e3⟩ := HSS.out; have := HL1.out; exact ⟨by show z.sp.length ≤ _; rw [e0]; omega, by show z.ci.length ≤ _; rw [e1]; omega, by show z.no.length ≤ _; rw [e2]; omega, by show z.bf.length ≤ _; rw [e3]; omega, fun m hm => by have hm : m ∈ z.bf := hm; rw [e3] at hm; have := HLU.out m hm; omega⟩))
    clear htm
    unfold tbv at KS
    go_wp2_with fail
    refine KS.out.mono ?_
    rintro e w7 ⟨rfl, hb7⟩
    have HEND := Lib.hid (HB1.out.trans ((Z9.out.trans (hb7.mono Z9.out.size)).mono HB1.out.size))
    clear hb7
    go_wp2
    go_ret
    exact ⟨rfl, HEND.out⟩
  · have k1 : (x.kind == 1) = false := by simp; omega
    have k2 : decide (x.kind < 0) = false := by simp; omega
    have k3 : decide (x.kind > 8) = false := by simp; omega
    have k4 : (x.kind == 0) = false := by simp; omega
    obtain ⟨en, ew⟩ := did_sec (by omega : x.kind ≠ 0) HDD.out
    simp only [Tp] at en ew
    rw [en] at f0
    rw [ew] at f1
    have HEND := Lib.hid (HB1.out.trans (Z6.out.mono HB1.out.size))
    clear hk5 en ew
    go_wp2
    go_ret
    exact ⟨rfl, HEND.out⟩
end Go.Proofs.YtmjneokjgcgchaaGreat
