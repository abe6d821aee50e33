/-
  Two tables together: the program's own.
-/
import Derived.Test.YtmjneokjgcgchaaGreatSemAll
namespace Go.Proofs.YtmjneokjgcgchaaGreat
open Go.RowKit

theorem Rd.ov {w w' : World} {A : Option Addr} {l : List Me} (h : Rd w w.heap.size A l) (hb : Below w.heap.size w w') : Rd w' w'.heap.size A l := (h.below hb).more hb.size
theorem two_cells {w : World} (x y : Value) (t : TypeId) : (w.alloc (.cells #[x, y] t)).cell? ⟨w.heap.size, 0, none⟩ = some x ∧ (w.alloc (.cells #[x, y] t)).cell? ⟨w.heap.size, 1, none⟩ = some y := by
  constructor <;> simp
set_option maxRecDepth 100000 in
set_option maxHeartbeats 4000000 in
theorem Merge_any {t u : Tb} {a b : Ta} (w : World) (h : Tm w t a) (h' : Tm w u b) (hp : Pb ((Tp t).cat (Tp u))) :
    Calls Tryz.prog 22 #[tbv t a, tbv u b] w (TabR 0 w (Cm ((Tp t).cat (Tp u)))) := by
  have HPB := Lib.hid hp
  obtain ⟨hb0, hb1, hb2, hb3⟩ := hp
  simp only [Pg.cat, Tp, List.length_append, pl_length] at hb0 hb1 hb2 hb3
  have HPL : Hid (t.sp.length + u.sp.length ≤ 1000 ∧ t.ci.length + u.ci.length ≤ 1000 ∧ t.no.length + u.no.length ≤ 1000 ∧ t.bf.length + u.bf.length ≤ 1000) := Lib.hid ⟨hb0, hb1, hb2, hb3⟩
  have H3 := Lib.hid (three (w := w) #[.string (str t.nm), .int .i64 t.wm, .slice a.a0 t.sp.length a.c0, .slice a.a1 t.ci.length a.c1, .slice a.a2 t.no.length a.c2, .slice a.a3 t.bf.length a.c3] #[.string (str u.nm), .int .i64 u.wm, .slice b.a0 u.sp.length b.c0, .slice b.a1 u.ci.length b.c1, .slice b.a2 u.no.length b.c2, .slice b.a3 u.bf.length b.c3] #[.string (str []), .int .i64 0, .slice none 0 0, .slice none 0 0, .slice none 0 0, .slice none 0 0] 33 33 33)
  have HS := Lib.hid h.stm
  have HS' := Lib.hid h'.stm
  clear h h' hb0 hb1 hb2 hb3
  unfold tbv
  rw [str_nil] at H3
  obtain ⟨W1, hW1⟩ : ∃ W, W = ((w.alloc (.cells #[.string (str t.nm), .int .i64 t.wm, .slice a.a0 t.sp.length a.c0, .slice a.a1 t.ci.length a.c1, .slice a.a2 t.no.length a.c2, .slice a.a3 t.bf.length a.c3] 33)).alloc (.cells #[.string (str u.nm), .int .i64 u.wm, .slice b.a0 u.sp.length b.c0, .slice b.a1 u.ci.length b.c1, .slice b.a2 u.no.length b.c2, .slice b.a3 u.bf.length b.c3] 33)).alloc (.cells #[.string (⟨#[]⟩), .int .i64 0, .slice none 0 0, .slice none 0 0, .slice none 0 0, .slice none 0 0] 33) := ⟨_, rfl⟩
  rw [← hW1] at H3
  have HRt0 : Hid (Rtb W1 w.heap.size w.heap.size t a) := Lib.hid ⟨H3.out.2.1, Nat.le_refl _, HS.out.below H3.out.1⟩
  have HU0 : Hid (Tk6 W1 (w.heap.size + 1) u b) := Lib.hid H3.out.2.2.1
  have HK0 : Hid (Stm w.heap.size W1 u b) := Lib.hid (HS'.out.below H3.out.1)
  have HR0 : Hid (Tk6 W1 (w.heap.size + 2) tbZ taZ) := Lib.hid H3.out.2.2.2
  have HB0 := Lib.hid H3.out.1
  clear H3
  have hW := hW1.symm
  clear hW1
  go_enter Tryz.func22, Tryz.ntmps22
  obtain ⟨y0, y1, y2, y3, y4, y5⟩ := HRt0.out.tb.cells
  obtain ⟨x0, x1, x2, x3, x4, x5⟩ := HU0.out.cells
  have hbA0 : Below W1.heap.size W1 (W1.alloc (.cells #[.slice a.a0 t.sp.length a.c0, .slice b.a0 u.sp.length b.c0] 23)) := (Below.refl _ _).alloc (Nat.le_refl _) _
  have KC0 := ConcatR_any a.a0 b.a0 a.c0 b.c0 t.sp u.sp W1.heap.size (W1.alloc (.cells #[.slice a.a0 t.sp.length a.c0, .slice b.a0 u.sp.length b.c0] 23)) ((HRt0.out.now.sp).over hbA0) ((HK0.out.now.sp).over hbA0) (by have := HPL.out; omega) (by have := HPL.out; omega) (two_cells _ _ _).1 (two_cells _ _ _).2 (by simp)
  obtain ⟨l0, hl0⟩ : ∃ l, l = t.sp ++ u.sp := ⟨_, rfl⟩
  rw [← hl0] at KC0
  have HL0 := Lib.hid hl0
  have KH0 := Lib.hid KC0
  have HBA0 := Lib.hid hbA0
  clear KC0 hl0 hbA0
  go_wp2_with fail
  refine KH0.out.mono ?_
  rintro e w2 ⟨A0, d0, rfl, hcp, hsr, hb⟩
  have hb0 := HBA0.out.trans (hb.mono HBA0.out.size)
  obtain ⟨hrt, hfj⟩ := HRt0.out.put0 (l := l0) (c := d0) hb0 hcp hsr
  have q5 := (HRt0.out.below hb0).tb.cells.2.2.1
  have q6 := (HRt0.out.below hb0).tb.frozen 2
  obtain ⟨W2, hW2⟩ : ∃ W, W = w2.setCell ⟨w.heap.size, 2, none⟩ (.slice A0 l0.length d0) := ⟨_, rfl⟩
  rw [← hW2] at hrt hfj
  have HRt1 := Lib.hid hrt
  have HU1 : Hid (Tk6 W2 (w.heap.size + 1) u b) := Lib.hid ((hfj.keep _ HU0.out.lt (by omega)).trans HU0.out)
  have HK1 := Lib.hid (HK0.out.kt (hfj.kt (Nat.le_refl _) ⟨_, _, HRt0.out.tb⟩))
  have HR1 : Hid (Tk6 W2 (w.heap.size + 2) tbZ taZ) := Lib.hid ((hfj.keep _ HR0.out.lt (by omega)).trans HR0.out)
  have HB1 := Lib.hid (HB0.out.trans hfj.below)
  clear hrt hfj hb0 hb hsr hcp y0 y1 y2 y3 y4 y5 x0 x1 x2 x3 x4 x5
  have hV2 := hW2.symm
  clear hW2 hW
  obtain ⟨y0, y1, y2, y3, y4, y5⟩ := HRt1.out.tb.cells
  obtain ⟨x0, x1, x2, x3, x4, x5⟩ := HU1.out.cells
  try dsimp only at y0 y1 y2 y3 y4 y5
  have hbA1 : Below W2.heap.size W2 (W2.alloc (.cells #[.slice a.a1 t.ci.length a.c1, .slice b.a1 u.ci.length b.c1] 24)) := (Below.refl _ _).alloc (Nat.le_refl _) _
  have KC1 := ConcatS_any a.a1 b.a1 a.c1 b.c1 t.ci u.ci W2.heap.size (W2.alloc (.cells #[.slice a.a1 t.ci.length a.c1, .slice b.a1 u.ci.length b.c1] 24)) ((HRt1.out.now.ci).over hbA1) ((HK1.out.now.ci).over hbA1) (by have := HPL.out; omega) (by have := HPL.out; omega) (two_cells _ _ _).1 (two_cells _ _ _).2 (by simp)
  obtain ⟨l1, hl1⟩ : ∃ l, l = t.ci ++ u.ci := ⟨_, rfl⟩
  rw [← hl1] at KC1
  have HL1 := Lib.hid hl1
  have KH1 := Lib.hid KC1
  have HBA1 := Lib.hid hbA1
  clear KC1 hl1 hbA1
  go_wp2_with fail
  refine KH1.out.mono ?_
  rintro e w3 ⟨A1, d1, rfl, hcp, hsr, hb⟩
  have hb1 := HBA1.out.trans (hb.mono HBA1.out.size)
  obtain ⟨hrt, hfj⟩ := HRt1.out.put1 (l := l1) (c := d1) hb1 hcp hsr
  have q5 := (HRt1.out.below hb1).tb.cells.2.2.2.1
  have q6 := (HRt1.out.below hb1).tb.frozen 3
  obtain ⟨W3, hW3⟩ : ∃ W, W = w3.setCell ⟨w.heap.size, 3, none⟩ (.slice A1 l1.length d1) := ⟨_, rfl⟩
  rw [← hW3] at hrt hfj
  have HRt2 := Lib.hid hrt
  have HU2 : Hid (Tk6 W3 (w.heap.size + 1) u b) := Lib.hid ((hfj.keep _ HU1.out.lt (by omega)).trans HU1.out)
  have HK2 := Lib.hid (HK1.out.kt (hfj.kt (Nat.le_refl _) ⟨_, _, HRt1.out.tb⟩))
  have HR2 : Hid (Tk6 W3 (w.heap.size + 2) tbZ taZ) := Lib.hid ((hfj.keep _ HR1.out.lt (by omega)).trans HR1.out)
  have HB2 := Lib.hid (HB1.out.trans hfj.below)
  clear hrt hfj hb1 hb hsr hcp y0 y1 y2 y3 y4 y5 x0 x1 x2 x3 x4 x5
  have hV3 := hW3.symm
  clear hW3 hV2
  obtain ⟨y0, y1, y2, y3, y4, y5⟩ := HRt2.out.tb.cells
  obtain ⟨x0, x1, x2, x3, x4, x5⟩ := HU2.out.cells
  try dsimp only at y0 y1 y2 y3 y4 y5
  have hbA2 : Below W3.heap.size W3 (W3.alloc (.cells #[.slice a.a2 t.no.length a.c2, .slice b.a2 u.no.length b.c2] 24)) := (Below.refl _ _).alloc (Nat.le_refl _) _
  have KC2 := ConcatS_any a.a2 b.a2 a.c2 b.c2 t.no u.no W3.heap.size (W3.alloc (.cells #[.slice a.a2 t.no.length a.c2, .slice b.a2 u.no.length b.c2] 24)) ((HRt2.out.now.no).over hbA2) ((HK2.out.now.no).over hbA2) (by have := HPL.out; omega) (by have := HPL.out; omega) (two_cells _ _ _).1 (two_cells _ _ _).2 (by simp)
  obtain ⟨l2, hl2⟩ : ∃ l, l = t.no ++ u.no := ⟨_, rfl⟩
  rw [← hl2] at KC2
  have HL2 := Lib.hid hl2
  have KH2 := Lib.hid KC2
  have HBA2 := Lib.hid hbA2
  clear KC2 hl2 hbA2
  go_wp2_with fail
  refine KH2.out.mono ?_
  rintro e w4 ⟨A2, d2, rfl, hcp, hsr, hb⟩
  have hb2 := HBA2.out.trans (hb.mono HBA2.out.size)
  obtain ⟨hrt, hfj⟩ := HRt2.out.put2 (l := l2) (c := d2) hb2 hcp hsr
  have q5 := (HRt2.out.below hb2).tb.cells.2.2.2.2.1
  have q6 := (HRt2.out.below hb2).tb.frozen 4
  obtain ⟨W4, hW4⟩ : ∃ W, W = w4.setCell ⟨w.heap.size, 4, none⟩ (.slice A2 l2.length d2) := ⟨_, rfl⟩
  rw [← hW4] at hrt hfj
  have HRt3 := Lib.hid hrt
  have HU3 : Hid (Tk6 W4 (w.heap.size + 1) u b) := Lib.hid ((hfj.keep _ HU2.out.lt (by omega)).trans HU2.out)
  have HK3 := Lib.hid (HK2.out.kt (hfj.kt (Nat.le_refl _) ⟨_, _, HRt2.out.tb⟩))
  have HR3 : Hid (Tk6 W4 (w.heap.size + 2) tbZ taZ) := Lib.hid ((hfj.keep _ HR2.out.lt (by omega)).trans HR2.out)
  have HB3 := Lib.hid (HB2.out.trans hfj.below)
  clear hrt hfj hb2 hb hsr hcp y0 y1 y2 y3 y4 y5 x0 x1 x2 x3 x4 x5
  have hV4 := hW4.symm
  clear hW4 hV3
  obtain ⟨y0, y1, y2, y3, y4, y5⟩ := HRt3.out.tb.cells
  obtain ⟨x0, x1, x2, x3, x4, x5⟩ := HU3.out.cells
  try dsimp only at y0 y1 y2 y3 y4 y5
  have hbA3 : Below W4.heap.size W4 (W4.alloc (.cells #[.slice a.a3 t.bf.length a.c3, .slice b.a3 u.bf.length b.c3] 25)) := (Below.refl _ _).alloc (Nat.le_refl _) _
  have KC3 := ConcatB_any a.a3 b.a3 a.c3 b.c3 t.bf u.bf W4.heap.size (W4.alloc (.cells #[.slice a.a3 t.bf.length a.c3, .slice b.a3 u.bf.length b.c3] 25)) ((HRt3.out.now.bf.rd).ov hbA3) ((HK3.out.now.bf.rd).ov hbA3) (by have := HPL.out; omega) (by have := HPL.out; omega) (two_cells _ _ _).1 (two_cells _ _ _).2 (by simp)
  obtain ⟨l3, hl3⟩ : ∃ l, l = t.bf ++ u.bf := ⟨_, rfl⟩
  rw [← hl3] at KC3
  have HL3 := Lib.hid hl3
  have KH3 := Lib.hid KC3
  have HBA3 := Lib.hid hbA3
  clear KC3 hl3 hbA3
  go_wp2_with fail
  refine KH3.out.mono ?_
  rintro e w5 ⟨A3, d3, rfl, hcp, hsr, hb⟩
  have hb3 := HBA3.out.trans (hb.mono HBA3.out.size)
  obtain ⟨hrt, hfj⟩ := HRt3.out.put3 (l := l3) (c := d3) hb3 hcp hsr (fun w4 k => by have k4 := (Kt.of_below hb3).trans k; rw [HL3.out]; exact fun m hm => (List.mem_append.1 hm).elim ((HRt3.out.tm w4 k4).bf.ul m) ((HK3.out w4 k4).bf.ul m))
  have q5 := (HRt3.out.below hb3).tb.cells.2.2.2.2.2
  have q6 := (HRt3.out.below hb3).tb.frozen 5
  obtain ⟨W5, hW5⟩ : ∃ W, W = w5.setCell ⟨w.heap.size, 5, none⟩ (.slice A3 l3.length d3) := ⟨_, rfl⟩
  rw [← hW5] at hrt hfj
  have HRt4 := Lib.hid hrt
  have HU4 : Hid (Tk6 W5 (w.heap.size + 1) u b) := Lib.hid ((hfj.keep _ HU3.out.lt (by omega)).trans HU3.out)
  have HK4 := Lib.hid (HK3.out.kt (hfj.kt (Nat.le_refl _) ⟨_, _, HRt3.out.tb⟩))
  have HR4 : Hid (Tk6 W5 (w.heap.size + 2) tbZ taZ) := Lib.hid ((hfj.keep _ HR3.out.lt (by omega)).trans HR3.out)
  have HB4 := Lib.hid (HB3.out.trans hfj.below)
  clear hrt hfj hb3 hb hsr hcp y0 y1 y2 y3 y4 y5 x0 x1 x2 x3 x4 x5
  have hV5 := hW5.symm
  clear hW5 hV4
  obtain ⟨y0, y1, y2, y3, y4, y5⟩ := HRt4.out.tb.cells
  obtain ⟨x0, x1, x2, x3, x4, x5⟩ := HU4.out.cells
  try dsimp only at y0 y1 y2 y3 y4 y5
  have etp : Tp ⟨t.nm, t.wm, l0, l1, l2, l3⟩ = (Tp t).cat (Tp u) := by
    simp only [Tp, Pg.cat, HL0.out, HL1.out, HL2.out, HL3.out, pl_append]
  have KJ := joined_any (t := ⟨t.nm, t.wm, l0, l1, l2, l3⟩) (a := ⟨A0, d0, A1, d1, A2, d2, A3, d3⟩) W5 HRt4.out.now (by rw [etp]; exact HPB.out)
  rw [etp] at KJ
  unfold tbv at KJ
  have KJH := Lib.hid KJ
  clear KJ etp
  go_wp2_with fail
  refine KJH.out.mono ?_
  rintro e w9 ⟨v, c, rfl, hv, hvm, hb9⟩
  have hz2 : Tk6 w9 (w.heap.size + 2) tbZ taZ := (hb9.block _ HR4.out.lt).trans HR4.out
  have hb4 := HB4.out.trans (hb9.mono HB4.out.size)
  have HFin : Hid (∀ act : Act, act.defers = [] → act.tmps[4]?.getD undef = .pointer (some ⟨w.heap.size + 2, 0, none⟩) → bodyPost Tryz.prog Tryz.f22 (TabR 0 w (Cm ((Tp t).cat (Tp u)))) .ret act (put6 w9 (w.heap.size + 2) (.string (str v.nm)) (.int .i64 v.wm) (.slice c.a0 v.sp.length c.c0) (.slice c.a1 v.ci.length c.c1) (.slice c.a2 v.no.length c.c2) (.slice c.a3 v.bf.length c.c3))) := Lib.hid fun act hd h2 => tab_ret Tryz.results22 hz2 (hvm.ret hv hb4 (by omega) (Nat.zero_le _) ⟨_, _, hz2⟩) hd h2
  obtain ⟨z0, z1, z2, z3, z4, z5⟩ := cells6 hz2
  obtain ⟨f0, f1, f2, f3, f4, f5⟩ := thaw6 hz2
  clear hz2 hb4 hv hvm hb9 y0 y1 y2 y3 y4 y5 x0 x1 x2 x3 x4 x5
  unfold put6 at HFin
  unfold tbv
  go_wp2_with (with_reducible exact HFin.out _ rfl rfl)
end Go.Proofs.YtmjneokjgcgchaaGreat
