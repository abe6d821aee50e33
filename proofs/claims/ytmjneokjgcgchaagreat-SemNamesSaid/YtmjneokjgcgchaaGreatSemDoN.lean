/-
  What an item does that is no section: the program's own; the lists stay at their places.
-/
import Derived.Test.YtmjneokjgcgchaaGreatSemDo
namespace Go.Proofs.YtmjneokjgcgchaaGreat
open Go.RowKit

/-- What Do leaves of an item that is no section. -/
def TabN (w : World) (t : Tb) (a : Ta) (x : Im) (e : Ending) (w' : World) : Prop := ∃ t' a', e = .returned (tbv t' a') ∧ a' = (⟨a.a0, t.sp.length, a.a1, t.ci.length, a.a2, t.no.length, a.a3, t.bf.length⟩ : Ta) ∧ Did (Tp t) x (Tp t') ∧ (t'.sp = t.sp ∧ t'.ci = t.ci ∧ t'.no = t.no ∧ t'.bf = t.bf) ∧ Below w.heap.size w w'
set_option maxRecDepth 100000 in
set_option maxHeartbeats 4000000 in
theorem DoN_any {t : Tb} {a : Ta} {x : Im} {xA : Option Addr} {xn xc : Nat} (w : World) (h : Tm w t a) (hx : Ex w (fun _ => False) (.slice xA xn xc) x.ents) (hxb : Xb x) (hp : Pb (Tp t)) (hpb : Pb (lstI (Tp t) x)) (hkn : x.kind = 0 ∨ (x.kind = 1 ∨ x.kind < 0 ∨ 8 < x.kind)) :
    Calls Tryz.prog 14 #[tbv t a, itv x xA xn xc] w (TabN w t a x) := by
  have HBT := Lib.hid (Tp.lens (t := t) rfl hp)
  have HPB := Lib.hid hpb
  have HX := Lib.hid hx
  have HBD : Hid (x.ents.length ≤ 10000 ∧ (x.ents.flatMap bfE).length ≤ 10000 ∧ ∀ e ∈ x.ents, e.ll.length ≤ 10000) := Lib.hid ⟨Nat.le_trans hxb.1 (by omega), Nat.le_trans hxb.2.1 (by omega), fun e he => Nat.le_trans (hxb.2.2 e he) (by omega)⟩
  have HC := Lib.hid (fun W => clipped_any (str t.nm) t.wm a t.sp.length t.ci.length t.no.length t.bf.length W h.l0 h.l1 h.l2 h.l3)
  have H3 := Lib.hid (three (w := w) #[.string (str t.nm), .int .i64 t.wm, .slice a.a0 t.sp.length a.c0, .slice a.a1 t.ci.length a.c1, .slice a.a2 t.no.length a.c2, .slice a.a3 t.bf.length a.c3] #[.int .i64 x.kind, .int .i64 x.at_, .string (str x.name), .int .i64 x.val.kind, .int .i64 x.val.at_, .int .i64 x.val.n, .string (str x.val.s), .slice xA xn xc] #[.string (str []), .int .i64 0, .slice none 0 0, .slice none 0 0, .slice none 0 0, .slice none 0 0] 33 40 33)
  have HH := Lib.hid h
  have hkind := hkn
  have HKIND := Lib.hid hkind
  clear h hx hxb hp hpb hkind hkn
  unfold tbv itv
  rw [str_nil] at H3
  go_enter Tryz.func14, Tryz.ntmps14
  go_wp2_with fail
  generalize ((w.alloc (.cells #[.string (str t.nm), .int .i64 t.wm, .slice a.a0 t.sp.length a.c0, .slice a.a1 t.ci.length a.c1, .slice a.a2 t.no.length a.c2, .slice a.a3 t.bf.length a.c3] 33)).alloc (.cells #[.int .i64 x.kind, .int .i64 x.at_, .string (str x.name), .int .i64 x.val.kind, .int .i64 x.val.at_, .int .i64 x.val.n, .string (str x.val.s), .slice xA xn xc] 40)).alloc (.cells #[.string (⟨#[]⟩), .int .i64 0, .slice none 0 0, .slice none 0 0, .slice none 0 0, .slice none 0 0] 33) = W1 at *
  refine (HC.out _).mono ?_
  rintro e w2 ⟨rfl, hb2⟩
  obtain ⟨hb1, hT1, hX1, hR1⟩ := H3.out
  have hT2 := (hb2.block _ (Array.getElem?_eq_some_iff.1 hT1).1).trans hT1
  have hX2 := (hb2.block _ (Array.getElem?_eq_some_iff.1 hX1).1).trans hX1
  have hR2 := (hb2.block _ (Array.getElem?_eq_some_iff.1 hR1).1).trans hR1
  have hbw2 := hb1.trans (hb2.mono hb1.size)
  have hT3 := put6_heap hT2 (.string (str t.nm)) (.int .i64 t.wm) (.slice a.a0 t.sp.length t.sp.length) (.slice a.a1 t.ci.length t.ci.length) (.slice a.a2 t.no.length t.no.length) (.slice a.a3 t.bf.length t.bf.length)
  have hX3 := (put6_other (show w.heap.size + 1 ≠ w.heap.size by omega) (.string (str t.nm)) (.int .i64 t.wm) (.slice a.a0 t.sp.length t.sp.length) (.slice a.a1 t.ci.length t.ci.length) (.slice a.a2 t.no.length t.no.length) (.slice a.a3 t.bf.length t.bf.length)).trans hX2
  have hR3 := (put6_other (show w.heap.size + 2 ≠ w.heap.size by omega) (.string (str t.nm)) (.int .i64 t.wm) (.slice a.a0 t.sp.length t.sp.length) (.slice a.a1 t.ci.length t.ci.length) (.slice a.a2 t.no.length t.no.length) (.slice a.a3 t.bf.length t.bf.length)).trans hR2
  have hst3 := St.full HH.out (put6_below hbw2 (Nat.le_refl _) (.string (str t.nm)) (.int .i64 t.wm) (.slice a.a0 t.sp.length t.sp.length) (.slice a.a1 t.ci.length t.ci.length) (.slice a.a2 t.no.length t.no.length) (.slice a.a3 t.bf.length t.bf.length)) (Nat.le_refl _) hT3
  have HST3 := Lib.hid hst3
  have HX3 := Lib.hid hX3
  have HR3 := Lib.hid hR3
  obtain ⟨c0, c1, c2, c3, c4, c5⟩ := cells6 hT2
  obtain ⟨f0, f1, f2, f3, f4, f5⟩ := thaw6 hT2
  have k8 := (cells8 hX3).1
  clear hb1 hT1 hX1 hR1 hT2 hX2 hR2 hbw2 hT3 hX3 hR3 hst3 hb2
  rcases HKIND.out with hkd | hkd
  · have HKD := Lib.hid hkd
    have KD := Lib.hid (fun W => deedD_any w.heap.size x.kind HKD.out W)
    clear hkd
    unfold put6 at HST3 HX3 HR3 k8
    go_wp2_with fail
    clear c0 c1 c2 c3 c4 c5 f0 f1 f2 f3 f4 f5
    generalize (((((w2.setCell ⟨w.heap.size, 0, none⟩ (.string (str t.nm))).setCell ⟨w.heap.size, 1, none⟩ (.int .i64 t.wm)).setCell ⟨w.heap.size, 2, none⟩ (.slice a.a0 t.sp.length t.sp.length)).setCell ⟨w.heap.size, 3, none⟩ (.slice a.a1 t.ci.length t.ci.length)).setCell ⟨w.heap.size, 4, none⟩ (.slice a.a2 t.no.length t.no.length)).setCell ⟨w.heap.size, 5, none⟩ (.slice a.a3 t.bf.length t.bf.length) = w3 at *
    refine (KD.out _).mono ?_
    rintro e w4 ⟨P, rfl, hpk4, hPl, hb4⟩
    have hbA := hb4.trans (((Below.refl w4.heap.size w4).alloc (Nat.le_refl _) (.cells #[.func (.func 67) #[] #[.pointer (some ⟨P, 0, none⟩)], .func (.func 69) #[] #[]] 80)).mono hb4.size)
    have hD := heap_alloc_new w4 (.cells #[.func (.func 67) #[] #[.pointer (some ⟨P, 0, none⟩)], .func (.func 69) #[] #[]] 80)
    have hpk : Pk (w4.alloc (.cells #[.func (.func 67) #[] #[.pointer (some ⟨P, 0, none⟩)], .func (.func 69) #[] #[]] 80)) P w.heap.size := (Below.heap_alloc _ _ _ (Array.getElem?_eq_some_iff.1 hpk4).1).trans hpk4
    have hst := HST3.out.below hbA
    have hX5 := (hbA.block _ (Array.getElem?_eq_some_iff.1 HX3.out).1).trans HX3.out
    have hR5 := (hbA.block _ (Array.getElem?_eq_some_iff.1 HR3.out).1).trans HR3.out
    have KL := Lib.hid (lstD_same (xA := xA) (xn := xn) (xc := xc) hst hpk HKD.out)
    have HD := Lib.hid (And.intro hD (And.intro hpk (And.intro hst (And.intro hR5 hX5))))
    obtain ⟨e0, e1, e2, e3, e4, e5, e6, e7⟩ := cells8 hX5
    unfold itv at KL
    clear hbA hD hpk hst hX5 hR5 hpk4 hPl hb4 k8
    go_wp2_with fail
    refine KL.out.mono ?_
    rintro e w6 ⟨rfl, t1, ht1, hs1, hst6, hfr6⟩
    have HS1 := Lib.hid hs1
    obtain ⟨a2, ha2⟩ : ∃ a2, a2 = (⟨a.a0, t.sp.length, a.a1, t.ci.length, a.a2, t.no.length, a.a3, t.bf.length⟩ : Ta) := ⟨_, rfl⟩
    rw [← ha2] at hst6
    have HA2 := Lib.hid ha2
    clear hs1 ha2
    obtain ⟨hD, hpk, hst, hR5, hX5⟩ := HD.out
    have hD6 := (hfr6 w4.heap.size (Array.getElem?_eq_some_iff.1 hD).1 (typ_ne hD hst.tb (by decide)) (fun h => by cases h) (fun h => by cases h) (fun h => by cases h) (fun h => by cases h)).trans hD
    have hpk3 : Pk w6 P w.heap.size := (hfr6 P (Array.getElem?_eq_some_iff.1 hpk).1 (typ_ne hpk hst.tb (by decide)) (fun h => by cases h) (fun h => by cases h) (fun h => by cases h) (fun h => by cases h)).trans hpk
    have hR6 : Tk6 w6 (w.heap.size + 2) tbZ taZ := (hfr6 _ (Array.getElem?_eq_some_iff.1 hR5).1 (by omega) (fun h => by cases h) (fun h => by cases h) (fun h => by cases h) (fun h => by cases h)).trans hR5
    have hrt := hst6.rt
    have HT1 := Lib.hid ht1
    have KJ := Lib.hid (jnD_same (k := x.kind) hrt HKD.out)
    have HB6 := Lib.hid (And.intro hst6.be hR6)
    have g1 : w6.cell? ⟨w4.heap.size, 1, none⟩ = some (.func (.func 69) #[] #[]) := by simp [World.cell?, hD6]
    clear hD hpk hst hR5 hX5 hD6 hpk3 hR6 hrt ht1 hst6 hfr6 e0 e1 e2 e3 e4 e5 e6 e7
    go_wp2_with fail
    refine KJ.out.mono ?_
    rintro e w7 ⟨rfl, hrt7, hfj7⟩
    have hR7 : Tk6 w7 (w.heap.size + 2) tbZ taZ := (hfj7.keep _ HB6.out.2.lt (by omega)).trans HB6.out.2
    have hq : Did (Tp t) x (Tp t1) := by
      show Blt x.kind _ _
      rw [HT1.out]
      exact blt_none (by have := HKD.out; omega)
    have HFin : Hid (∀ act : Act, act.defers = [] → act.tmps[4]?.getD undef = .pointer (some ⟨w.heap.size + 2, 0, none⟩) → bodyPost Tryz.prog Tryz.f14 (TabN w t a x) .ret act (put6 w7 (w.heap.size + 2) (.string (str t1.nm)) (.int .i64 t1.wm) (.slice a2.a0 t1.sp.length a2.c0) (.slice a2.a1 t1.ci.length a2.c1) (.slice a2.a2 t1.no.length a2.c2) (.slice a2.a3 t1.bf.length a2.c3))) := Lib.hid fun act hd h2 => tab_ret Tryz.results14 hR7 ⟨t1, a2, rfl, HA2.out, hq, HS1.out, put6_below (HB6.out.1.trans hfj7.below) (by omega) _ _ _ _ _ _⟩ hd h2
    obtain ⟨y0, y1, y2, y3, y4, y5⟩ := hrt7.tb.cells
    obtain ⟨z0, z1, z2, z3, z4, z5⟩ := cells6 hR7
    obtain ⟨f0, f1, f2, f3, f4, f5⟩ := thaw6 hR7
    clear g1 hrt7 hfj7 hR7 hq
    unfold put6 at HFin
    go_wp2_with (with_reducible exact HFin.out _ rfl rfl)
  · have HKD := Lib.hid hkd
    have KD := Lib.hid (fun W => deedN_any w.heap.size x.kind HKD.out W)
    clear hkd
    unfold put6 at HST3 HX3 HR3 k8
    go_wp2_with fail
    clear c0 c1 c2 c3 c4 c5 f0 f1 f2 f3 f4 f5
    generalize (((((w2.setCell ⟨w.heap.size, 0, none⟩ (.string (str t.nm))).setCell ⟨w.heap.size, 1, none⟩ (.int .i64 t.wm)).setCell ⟨w.heap.size, 2, none⟩ (.slice a.a0 t.sp.length t.sp.length)).setCell ⟨w.heap.size, 3, none⟩ (.slice a.a1 t.ci.length t.ci.length)).setCell ⟨w.heap.size, 4, none⟩ (.slice a.a2 t.no.length t.no.length)).setCell ⟨w.heap.size, 5, none⟩ (.slice a.a3 t.bf.length t.bf.length) = w3 at *
    refine (KD.out _).mono ?_
    rintro e w4 ⟨P, rfl, hpk4, hPl, hb4⟩
    have hbA := hb4.trans (((Below.refl w4.heap.size w4).alloc (Nat.le_refl _) (.cells #[.func (.func 83) #[] #[], .func (.func 84) #[] #[]] 80)).mono hb4.size)
    have hD := heap_alloc_new w4 (.cells #[.func (.func 83) #[] #[], .func (.func 84) #[] #[]] 80)
    have hpk : Pk (w4.alloc (.cells #[.func (.func 83) #[] #[], .func (.func 84) #[] #[]] 80)) P w.heap.size := (Below.heap_alloc _ _ _ (Array.getElem?_eq_some_iff.1 hpk4).1).trans hpk4
    have hst := HST3.out.below hbA
    have hX5 := (hbA.block _ (Array.getElem?_eq_some_iff.1 HX3.out).1).trans HX3.out
    have hR5 := (hbA.block _ (Array.getElem?_eq_some_iff.1 HR3.out).1).trans HR3.out
    have KL := Lib.hid (lstN_same (xA := xA) (xn := xn) (xc := xc) hst HKD.out)
    have HD := Lib.hid (And.intro hD (And.intro hpk (And.intro hst (And.intro hR5 hX5))))
    obtain ⟨e0, e1, e2, e3, e4, e5, e6, e7⟩ := cells8 hX5
    unfold itv at KL
    clear hbA hD hpk hst hX5 hR5 hpk4 hPl hb4 k8
    go_wp2_with fail
    refine KL.out.mono ?_
    rintro e w6 ⟨rfl, t1, ht1, hs1, hst6, hfr6⟩
    have HS1 := Lib.hid hs1
    obtain ⟨a2, ha2⟩ : ∃ a2, a2 = (⟨a.a0, t.sp.length, a.a1, t.ci.length, a.a2, t.no.length, a.a3, t.bf.length⟩ : Ta) := ⟨_, rfl⟩
    rw [← ha2] at hst6
    have HA2 := Lib.hid ha2
    clear hs1 ha2
    obtain ⟨hD, hpk, hst, hR5, hX5⟩ := HD.out
    have hD6 := (hfr6 w4.heap.size (Array.getElem?_eq_some_iff.1 hD).1 (typ_ne hD hst.tb (by decide)) (fun h => by cases h) (fun h => by cases h) (fun h => by cases h) (fun h => by cases h)).trans hD
    have hpk3 : Pk w6 P w.heap.size := (hfr6 P (Array.getElem?_eq_some_iff.1 hpk).1 (typ_ne hpk hst.tb (by decide)) (fun h => by cases h) (fun h => by cases h) (fun h => by cases h) (fun h => by cases h)).trans hpk
    have hR6 : Tk6 w6 (w.heap.size + 2) tbZ taZ := (hfr6 _ (Array.getElem?_eq_some_iff.1 hR5).1 (by omega) (fun h => by cases h) (fun h => by cases h) (fun h => by cases h) (fun h => by cases h)).trans hR5
    have hrt := hst6.rt
    have HT1 := Lib.hid ht1
    have KJ := Lib.hid (jnN_same (k := x.kind) hrt (by have := HKD.out; omega))
    have HB6 := Lib.hid (And.intro hst6.be hR6)
    have g1 : w6.cell? ⟨w4.heap.size, 1, none⟩ = some (.func (.func 84) #[] #[]) := by simp [World.cell?, hD6]
    clear hD hpk hst hR5 hX5 hD6 hpk3 hR6 hrt ht1 hst6 hfr6 e0 e1 e2 e3 e4 e5 e6 e7
    go_wp2_with fail
    refine KJ.out.mono ?_
    rintro e w7 ⟨rfl, hrt7, hfj7⟩
    have hR7 : Tk6 w7 (w.heap.size + 2) tbZ taZ := (hfj7.keep _ HB6.out.2.lt (by omega)).trans HB6.out.2
    have hq : Did (Tp t) x (Tp t1) := by
      show Blt x.kind _ _
      rw [HT1.out]
      exact blt_none (by have := HKD.out; omega)
    have HFin : Hid (∀ act : Act, act.defers = [] → act.tmps[4]?.getD undef = .pointer (some ⟨w.heap.size + 2, 0, none⟩) → bodyPost Tryz.prog Tryz.f14 (TabN w t a x) .ret act (put6 w7 (w.heap.size + 2) (.string (str t1.nm)) (.int .i64 t1.wm) (.slice a2.a0 t1.sp.length a2.c0) (.slice a2.a1 t1.ci.length a2.c1) (.slice a2.a2 t1.no.length a2.c2) (.slice a2.a3 t1.bf.length a2.c3))) := Lib.hid fun act hd h2 => tab_ret Tryz.results14 hR7 ⟨t1, a2, rfl, HA2.out, hq, HS1.out, put6_below (HB6.out.1.trans hfj7.below) (by omega) _ _ _ _ _ _⟩ hd h2
    obtain ⟨y0, y1, y2, y3, y4, y5⟩ := hrt7.tb.cells
    obtain ⟨z0, z1, z2, z3, z4, z5⟩ := cells6 hR7
    obtain ⟨f0, f1, f2, f3, f4, f5⟩ := thaw6 hR7
    clear g1 hrt7 hfj7 hR7 hq
    unfold put6 at HFin
    go_wp2_with (with_reducible exact HFin.out _ rfl rfl)
/-- The lists of one that stay at their places may be read wherever the argument's may. -/
theorem tm_same {W : World} {t t' : Tb} {a : Ta} (h : Tm W t a) (hs : t'.sp = t.sp ∧ t'.ci = t.ci ∧ t'.no = t.no ∧ t'.bf = t.bf) : Tm W t' ⟨a.a0, t.sp.length, a.a1, t.ci.length, a.a2, t.no.length, a.a3, t.bf.length⟩ := by
  obtain ⟨e0, e1, e2, e3⟩ := hs
  exact ⟨by rw [e0]; exact h.sp, by rw [e1]; exact h.ci, by rw [e2]; exact h.no, by rw [e3]; exact h.bf, by rw [e0]; exact Nat.le_refl _, by rw [e1]; exact Nat.le_refl _, by rw [e2]; exact Nat.le_refl _, by rw [e3]; exact Nat.le_refl _⟩
end Go.Proofs.YtmjneokjgcgchaaGreat
