/-
  What an item does: the program's own.
-/
import Derived.Test.YtmjneokjgcgchaaGreatSemLists
import Derived.Test.YtmjneokjgcgchaaGreatSemClp
namespace Go.Proofs.YtmjneokjgcgchaaGreat
open Go.RowKit

theorem Av.full {w0 w : World} {e : TypeId} {size n : Nat} {A : Option Addr} {xs : List Value} (hx : xs.length = n * size) (h : 0 < n → ∃ b p, A = some ⟨b, p, none⟩ ∧ b < w0.heap.size ∧ ∀ j u, xs[j]? = some u → w.cell? ⟨b, p + j, none⟩ = some u) : Av w w0.heap.size e size A n n xs none := .inr ⟨rfl, rfl, hx, h⟩
/-- A table whose lists are full. -/
theorem St.full {w0 w : World} {T : Nat} {t : Tb} {a : Ta} (h : Tm w0 t a) (hb : Below w0.heap.size w0 w) (hT : w0.heap.size ≤ T) (ht : Tk6 w T t ⟨a.a0, t.sp.length, a.a1, t.ci.length, a.a2, t.no.length, a.a3, t.bf.length⟩) : St w0 w T t ⟨a.a0, t.sp.length, a.a1, t.ci.length, a.a2, t.no.length, a.a3, t.bf.length⟩ ⟨none, none, none, none⟩ := by
  refine ⟨hb, hT, ht, Av.full (rvs_length _) fun hn => ?_, Av.full (svs_length _) fun hn => ?_, Av.full (svs_length _) fun hn => ?_, Av.full (dvs_length _) fun hn => ?_, h.bf.ul, (fun _ h => by cases h)⟩
  · obtain ⟨b, p, e, hlt, _⟩ := h.sp hn
    obtain ⟨ad, e2, hc⟩ := h.sp.cells hn
    rw [e] at e2
    injection e2 with e2
    subst e2
    refine ⟨b, p, e, hlt, fun j u hu => (hb.cell (p := ⟨b, p + j, none⟩) hlt).trans ?_⟩
    have := hc j u hu
    rwa [addr_plus] at this
  · obtain ⟨b, p, e, hlt, _⟩ := h.ci hn
    obtain ⟨ad, e2, hc⟩ := h.ci.cells hn
    rw [e] at e2
    injection e2 with e2
    subst e2
    refine ⟨b, p, e, hlt, fun j u hu => (hb.cell (p := ⟨b, p + j, none⟩) hlt).trans ?_⟩
    have := hc j u hu
    rwa [addr_plus] at this
  · obtain ⟨b, p, e, hlt, _⟩ := h.no hn
    obtain ⟨ad, e2, hc⟩ := h.no.cells hn
    rw [e] at e2
    injection e2 with e2
    subst e2
    refine ⟨b, p, e, hlt, fun j u hu => (hb.cell (p := ⟨b, p + j, none⟩) hlt).trans ?_⟩
    have := hc j u hu
    rwa [addr_plus] at this
  · obtain ⟨b, p, e, hlt, _⟩ := h.bf.rd hn
    obtain ⟨ad, e2, hc⟩ := h.bf.rd.cells hn
    rw [e] at e2
    injection e2 with e2
    subst e2
    refine ⟨b, p, e, hlt, fun j u hu => (hb.cell (p := ⟨b, p + j, none⟩) hlt).trans ?_⟩
    have := hc j u hu
    rwa [addr_plus] at this
set_option maxRecDepth 100000 in
set_option maxHeartbeats 4000000 in
theorem Do_any {t : Tb} {a : Ta} {x : Im} {xA : Option Addr} {xn xc : Nat} (w : World) (h : Tm w t a) (hx : Ex w (fun _ => False) (.slice xA xn xc) x.ents) (hxb : Xb x) (hp : Pb (Tp t)) (hpb : Pb (lstI (Tp t) x)) :
    Calls Tryz.prog 14 #[tbv t a, itv x xA xn xc] w (TabR w.heap.size w (Did (Tp t) x)) := by
  have HBT := Lib.hid (Tp.lens (t := t) rfl hp)
  have HPB := Lib.hid hpb
  have HX := Lib.hid hx
  have HBD : Hid (x.ents.length ≤ 10000 ∧ (x.ents.flatMap bfE).length ≤ 10000 ∧ ∀ e ∈ x.ents, e.ll.length ≤ 10000) := Lib.hid ⟨Nat.le_trans hxb.1 (by omega), Nat.le_trans hxb.2.1 (by omega), fun e he => Nat.le_trans (hxb.2.2 e he) (by omega)⟩
  have HC := Lib.hid (fun W => clipped_any (str t.nm) t.wm a t.sp.length t.ci.length t.no.length t.bf.length W h.l0 h.l1 h.l2 h.l3)
  have H3 := Lib.hid (three (w := w) #[.string (str t.nm), .int .i64 t.wm, .slice a.a0 t.sp.length a.c0, .slice a.a1 t.ci.length a.c1, .slice a.a2 t.no.length a.c2, .slice a.a3 t.bf.length a.c3] #[.int .i64 x.kind, .int .i64 x.at_, .string (str x.name), .int .i64 x.val.kind, .int .i64 x.val.at_, .int .i64 x.val.n, .string (str x.val.s), .slice xA xn xc] #[.string (str []), .int .i64 0, .slice none 0 0, .slice none 0 0, .slice none 0 0, .slice none 0 0] 33 40 33)
  have HH := Lib.hid h
  have hkind : x.kind = 0 ∨ x.kind = 2 ∨ (x.kind = 3 ∨ x.kind = 4) ∨ (x.kind = 5 ∨ x.kind = 6) ∨ (x.kind = 7 ∨ x.kind = 8) ∨ (x.kind = 1 ∨ x.kind < 0 ∨ 8 < x.kind) := by omega
  have HKIND := Lib.hid hkind
  clear h hx hxb hp hpb hkind
  unfold tbv itv
  rw [str_nil] at H3
  go_enter Tryz.func14, Tryz.ntmps14
  go_wp2_with fail
  generalize ((w.alloc (.cells #[.string (str t.nm), .int .i64 t.wm, .slice a.a0 t.sp.length a.c0, .slice a.a1 t.ci.length a.c1, .slice a.a2 t.no.length a.c2, .slice a.a3 t.bf.length a.c3] 33)).alloc (.cells #[.int .i64 x.kind, .int .i64 x.at_, .string (str x.name), .int .i64 x.val.kind, .int .i64 x.val.at_, .int .i64 x.val.n, .string (str x.val.s), .slice xA xn xc] 40)).alloc (.cells #[.string (⟨#[]⟩), .int .i64 0, .slice none 0 0, .slice none 0 0, .slice none 0 0, .slice none 0 0] 33) = W1 at *
  refine (HC.out _).mono ?_
  rintro e w2 ⟨rfl, hb2⟩
  obtain ⟨hb1, hT1, hX1, hR1⟩ := H3.out
  have hT2 := (hb2.block _ (Array.getElem?_eq_some_iff.1 hT1).1).trans hT1
  have hX2 := (hb2.block _ (Array.getElem?_eq_some_iff.1 hX1).1).trans hX1
  have hR2 := (hb2.block _ (Array.getElem?_eq_some_iff.1 hR1).1).trans hR1
  have hbw2 := hb1.trans (hb2.mono hb1.size)
  have hT3 := put6_heap hT2 (.string (str t.nm)) (.int .i64 t.wm) (.slice a.a0 t.sp.length t.sp.length) (.slice a.a1 t.ci.length t.ci.length) (.slice a.a2 t.no.length t.no.length) (.slice a.a3 t.bf.length t.bf.length)
  have hX3 := (put6_other (show w.heap.size + 1 ≠ w.heap.size by omega) (.string (str t.nm)) (.int .i64 t.wm) (.slice a.a0 t.sp.length t.sp.length) (.slice a.a1 t.ci.length t.ci.length) (.slice a.a2 t.no.length t.no.length) (.slice a.a3 t.bf.length t.bf.length)).trans hX2
  have hR3 := (put6_other (show w.heap.size + 2 ≠ w.heap.size by omega) (.string (str t.nm)) (.int .i64 t.wm) (.slice a.a0 t.sp.length t.sp.length) (.slice a.a1 t.ci.length t.ci.length) (.slice a.a2 t.no.length t.no.length) (.slice a.a3 t.bf.length t.bf.length)).trans hR2
  have hst3 := St.full HH.out (put6_below hbw2 (Nat.le_refl _) (.string (str t.nm)) (.int .i64 t.wm) (.slice a.a0 t.sp.length t.sp.length) (.slice a.a1 t.ci.length t.ci.length) (.slice a.a2 t.no.length t.no.length) (.slice a.a3 t.bf.length t.bf.length)) (Nat.le_refl _) hT3
  have HST3 := Lib.hid hst3
  have HX3 := Lib.hid hX3
  have HR3 := Lib.hid hR3
  obtain ⟨c0, c1, c2, c3, c4, c5⟩ := cells6 hT2
  obtain ⟨f0, f1, f2, f3, f4, f5⟩ := thaw6 hT2
  have k8 := (cells8 hX3).1
  clear hb1 hT1 hX1 hR1 hT2 hX2 hR2 hbw2 hT3 hX3 hR3 hst3 hb2
  rcases HKIND.out with hkd | hkd | hkd | hkd | hkd | hkd
  · have HKD := Lib.hid hkd
    have KD := Lib.hid (fun W => deedD_any w.heap.size x.kind HKD.out W)
    clear hkd
    unfold put6 at HST3 HX3 HR3 k8
    go_wp2_with fail
    clear c0 c1 c2 c3 c4 c5 f0 f1 f2 f3 f4 f5
    generalize (((((w2.setCell ⟨w.heap.size, 0, none⟩ (.string (str t.nm))).setCell ⟨w.heap.size, 1, none⟩ (.int .i64 t.wm)).setCell ⟨w.heap.size, 2, none⟩ (.slice a.a0 t.sp.length t.sp.length)).setCell ⟨w.heap.size, 3, none⟩ (.slice a.a1 t.ci.length t.ci.length)).setCell ⟨w.heap.size, 4, none⟩ (.slice a.a2 t.no.length t.no.length)).setCell ⟨w.heap.size, 5, none⟩ (.slice a.a3 t.bf.length t.bf.length) = w3 at *
    refine (KD.out _).mono ?_
    rintro e w4 ⟨P, rfl, hpk4, hPl, hb4⟩
    have hbA := hb4.trans (((Below.refl w4.heap.size w4).alloc (Nat.le_refl _) (.cells #[.func (.func 67) #[] #[.pointer (some ⟨P, 0, none⟩)], .func (.func 69) #[] #[]] 80)).mono hb4.size)
    have hD := heap_alloc_new w4 (.cells #[.func (.func 67) #[] #[.pointer (some ⟨P, 0, none⟩)], .func (.func 69) #[] #[]] 80)
    have hpk : Pk (w4.alloc (.cells #[.func (.func 67) #[] #[.pointer (some ⟨P, 0, none⟩)], .func (.func 69) #[] #[]] 80)) P w.heap.size := (Below.heap_alloc _ _ _ (Array.getElem?_eq_some_iff.1 hpk4).1).trans hpk4
    have hst := HST3.out.below hbA
    have hX5 := (hbA.block _ (Array.getElem?_eq_some_iff.1 HX3.out).1).trans HX3.out
    have hR5 := (hbA.block _ (Array.getElem?_eq_some_iff.1 HR3.out).1).trans HR3.out
    have KL := Lib.hid (lstD_any (xA := xA) (xn := xn) (xc := xc) hst hpk HKD.out)
    have HD := Lib.hid (And.intro hD (And.intro hpk (And.intro hst (And.intro hR5 hX5))))
    obtain ⟨e0, e1, e2, e3, e4, e5, e6, e7⟩ := cells8 hX5
    unfold itv at KL
    clear hbA hD hpk hst hX5 hR5 hpk4 hPl hb4 k8
    go_wp2_with fail
    refine KL.out.mono ?_
    rintro e w6 ⟨rfl, t1, a1, o1, ht1, hst6, hfr6⟩
    obtain ⟨hD, hpk, hst, hR5, hX5⟩ := HD.out
    have hD6 := (hfr6 w4.heap.size (Array.getElem?_eq_some_iff.1 hD).1 (typ_ne hD hst.tb (by decide)) (fun h => by cases h) (fun h => by cases h) (fun h => by cases h) (fun h => by cases h)).trans hD
    have hpk3 : Pk w6 P w.heap.size := (hfr6 P (Array.getElem?_eq_some_iff.1 hpk).1 (typ_ne hpk hst.tb (by decide)) (fun h => by cases h) (fun h => by cases h) (fun h => by cases h) (fun h => by cases h)).trans hpk
    have hR6 : Tk6 w6 (w.heap.size + 2) tbZ taZ := (hfr6 _ (Array.getElem?_eq_some_iff.1 hR5).1 (by omega) (fun h => by cases h) (fun h => by cases h) (fun h => by cases h) (fun h => by cases h)).trans hR5
    have hrt := hst6.rt
    have HT1 := Lib.hid ht1
    have KJ := Lib.hid (jnD_any hrt HKD.out)
    have HB6 := Lib.hid (And.intro hst6.be hR6)
    have g1 : w6.cell? ⟨w4.heap.size, 1, none⟩ = some (.func (.func 69) #[] #[]) := by simp [World.cell?, hD6]
    clear hD hpk hst hR5 hX5 hD6 hpk3 hR6 hrt ht1 hst6 hfr6 e0 e1 e2 e3 e4 e5 e6 e7
    go_wp2_with fail
    refine KJ.out.mono ?_
    rintro e w7 ⟨rfl, t2, a2, hblt, hrt7, hfj7, _⟩
    have hR7 : Tk6 w7 (w.heap.size + 2) tbZ taZ := (hfj7.keep _ HB6.out.2.lt (by omega)).trans HB6.out.2
    have hq : Did (Tp t) x (Tp t2) := by rw [HT1.out] at hblt; exact hblt
    have HFin : Hid (∀ act : Act, act.defers = [] → act.tmps[4]?.getD undef = .pointer (some ⟨w.heap.size + 2, 0, none⟩) → bodyPost Tryz.prog Tryz.f14 (TabR w.heap.size w (Did (Tp t) x)) .ret act (put6 w7 (w.heap.size + 2) (.string (str t2.nm)) (.int .i64 t2.wm) (.slice a2.a0 t2.sp.length a2.c0) (.slice a2.a1 t2.ci.length a2.c1) (.slice a2.a2 t2.no.length a2.c2) (.slice a2.a3 t2.bf.length a2.c3))) := Lib.hid fun act hd h2 => tab_ret Tryz.results14 hR7 (hrt7.tm.ret hq (HB6.out.1.trans hfj7.below) (by omega) (by omega) ⟨_, _, hR7⟩) hd h2
    obtain ⟨y0, y1, y2, y3, y4, y5⟩ := hrt7.tb.cells
    obtain ⟨z0, z1, z2, z3, z4, z5⟩ := cells6 hR7
    obtain ⟨f0, f1, f2, f3, f4, f5⟩ := thaw6 hR7
    clear g1 hblt hrt7 hfj7 hR7 hq
    unfold put6 at HFin
    go_wp2_with (with_reducible exact HFin.out _ rfl rfl)
  · have HKD := Lib.hid hkd
    have KD := Lib.hid (fun W => deed0_any w.heap.size x.kind HKD.out W)
    clear hkd
    unfold put6 at HST3 HX3 HR3 k8
    go_wp2_with fail
    clear c0 c1 c2 c3 c4 c5 f0 f1 f2 f3 f4 f5
    generalize (((((w2.setCell ⟨w.heap.size, 0, none⟩ (.string (str t.nm))).setCell ⟨w.heap.size, 1, none⟩ (.int .i64 t.wm)).setCell ⟨w.heap.size, 2, none⟩ (.slice a.a0 t.sp.length t.sp.length)).setCell ⟨w.heap.size, 3, none⟩ (.slice a.a1 t.ci.length t.ci.length)).setCell ⟨w.heap.size, 4, none⟩ (.slice a.a2 t.no.length t.no.length)).setCell ⟨w.heap.size, 5, none⟩ (.slice a.a3 t.bf.length t.bf.length) = w3 at *
    refine (KD.out _).mono ?_
    rintro e w4 ⟨P, rfl, hpk4, hPl, hb4⟩
    have hbA := hb4.trans (((Below.refl w4.heap.size w4).alloc (Nat.le_refl _) (.cells #[.func (.func 70) #[] #[.pointer (some ⟨P, 0, none⟩)], .func (.func 72) #[] #[.pointer (some ⟨P, 0, none⟩)]] 80)).mono hb4.size)
    have hD := heap_alloc_new w4 (.cells #[.func (.func 70) #[] #[.pointer (some ⟨P, 0, none⟩)], .func (.func 72) #[] #[.pointer (some ⟨P, 0, none⟩)]] 80)
    have hpk : Pk (w4.alloc (.cells #[.func (.func 70) #[] #[.pointer (some ⟨P, 0, none⟩)], .func (.func 72) #[] #[.pointer (some ⟨P, 0, none⟩)]] 80)) P w.heap.size := (Below.heap_alloc _ _ _ (Array.getElem?_eq_some_iff.1 hpk4).1).trans hpk4
    have hst := HST3.out.below hbA
    have hX5 := (hbA.block _ (Array.getElem?_eq_some_iff.1 HX3.out).1).trans HX3.out
    have hR5 := (hbA.block _ (Array.getElem?_eq_some_iff.1 HR3.out).1).trans HR3.out
    have KL := Lib.hid (lst0_any hst hpk HX.out HKD.out HBD.out.1 HBT.out.1)
    have HD := Lib.hid (And.intro hD (And.intro hpk (And.intro hst (And.intro hR5 hX5))))
    obtain ⟨e0, e1, e2, e3, e4, e5, e6, e7⟩ := cells8 hX5
    unfold itv at KL
    clear hbA hD hpk hst hX5 hR5 hpk4 hPl hb4 k8
    go_wp2_with fail
    refine KL.out.mono ?_
    rintro e w6 ⟨rfl, t1, a1, o1, ht1, hst6, hfr6⟩
    obtain ⟨hD, hpk, hst, hR5, hX5⟩ := HD.out
    have hD6 := (hfr6 w4.heap.size (Array.getElem?_eq_some_iff.1 hD).1 (typ_ne hD hst.tb (by decide)) (fun h => by cases h) (fun h => by cases h) (fun h => by cases h) (fun h => by cases h)).trans hD
    have hpk3 : Pk w6 P w.heap.size := (hfr6 P (Array.getElem?_eq_some_iff.1 hpk).1 (typ_ne hpk hst.tb (by decide)) (fun h => by cases h) (fun h => by cases h) (fun h => by cases h) (fun h => by cases h)).trans hpk
    have hR6 : Tk6 w6 (w.heap.size + 2) tbZ taZ := (hfr6 _ (Array.getElem?_eq_some_iff.1 hR5).1 (by omega) (fun h => by cases h) (fun h => by cases h) (fun h => by cases h) (fun h => by cases h)).trans hR5
    have hrt := hst6.rt
    have HT1 := Lib.hid ht1
    have hl := (show t1.sp.length ≤ 1000 from by rw [show t1.sp = (Tp t1).sp from rfl, HT1.out]; exact HPB.out.1)
    have KJ := Lib.hid (jn0_any hrt hpk3 HKD.out hl)
    have HB6 := Lib.hid (And.intro hst6.be hR6)
    have g1 : w6.cell? ⟨w4.heap.size, 1, none⟩ = some (.func (.func 72) #[] #[.pointer (some ⟨P, 0, none⟩)]) := by simp [World.cell?, hD6]
    clear hD hpk hst hR5 hX5 hD6 hpk3 hR6 hrt ht1 hst6 hfr6 hl e0 e1 e2 e3 e4 e5 e6 e7
    go_wp2_with fail
    refine KJ.out.mono ?_
    rintro e w7 ⟨rfl, t2, a2, hblt, hrt7, hfj7, _⟩
    have hR7 : Tk6 w7 (w.heap.size + 2) tbZ taZ := (hfj7.keep _ HB6.out.2.lt (by omega)).trans HB6.out.2
    have hq : Did (Tp t) x (Tp t2) := by rw [HT1.out] at hblt; exact hblt
    have HFin : Hid (∀ act : Act, act.defers = [] → act.tmps[4]?.getD undef = .pointer (some ⟨w.heap.size + 2, 0, none⟩) → bodyPost Tryz.prog Tryz.f14 (TabR w.heap.size w (Did (Tp t) x)) .ret act (put6 w7 (w.heap.size + 2) (.string (str t2.nm)) (.int .i64 t2.wm) (.slice a2.a0 t2.sp.length a2.c0) (.slice a2.a1 t2.ci.length a2.c1) (.slice a2.a2 t2.no.length a2.c2) (.slice a2.a3 t2.bf.length a2.c3))) := Lib.hid fun act hd h2 => tab_ret Tryz.results14 hR7 (hrt7.tm.ret hq (HB6.out.1.trans hfj7.below) (by omega) (by omega) ⟨_, _, hR7⟩) hd h2
    obtain ⟨y0, y1, y2, y3, y4, y5⟩ := hrt7.tb.cells
    obtain ⟨z0, z1, z2, z3, z4, z5⟩ := cells6 hR7
    obtain ⟨f0, f1, f2, f3, f4, f5⟩ := thaw6 hR7
    clear g1 hblt hrt7 hfj7 hR7 hq
    unfold put6 at HFin
    go_wp2_with (with_reducible exact HFin.out _ rfl rfl)
  · have HKD := Lib.hid hkd
    have KD := Lib.hid (fun W => deed1_any w.heap.size x.kind HKD.out W)
    clear hkd
    unfold put6 at HST3 HX3 HR3 k8
    go_wp2_with fail
    clear c0 c1 c2 c3 c4 c5 f0 f1 f2 f3 f4 f5
    generalize (((((w2.setCell ⟨w.heap.size, 0, none⟩ (.string (str t.nm))).setCell ⟨w.heap.size, 1, none⟩ (.int .i64 t.wm)).setCell ⟨w.heap.size, 2, none⟩ (.slice a.a0 t.sp.length t.sp.length)).setCell ⟨w.heap.size, 3, none⟩ (.slice a.a1 t.ci.length t.ci.length)).setCell ⟨w.heap.size, 4, none⟩ (.slice a.a2 t.no.length t.no.length)).setCell ⟨w.heap.size, 5, none⟩ (.slice a.a3 t.bf.length t.bf.length) = w3 at *
    refine (KD.out _).mono ?_
    rintro e w4 ⟨P, rfl, hpk4, hPl, hb4⟩
    have hbA := hb4.trans (((Below.refl w4.heap.size w4).alloc (Nat.le_refl _) (.cells #[.func (.func 73) #[] #[.pointer (some ⟨P, 0, none⟩)], .func (.func 75) #[] #[.pointer (some ⟨P, 0, none⟩)]] 80)).mono hb4.size)
    have hD := heap_alloc_new w4 (.cells #[.func (.func 73) #[] #[.pointer (some ⟨P, 0, none⟩)], .func (.func 75) #[] #[.pointer (some ⟨P, 0, none⟩)]] 80)
    have hpk : Pk (w4.alloc (.cells #[.func (.func 73) #[] #[.pointer (some ⟨P, 0, none⟩)], .func (.func 75) #[] #[.pointer (some ⟨P, 0, none⟩)]] 80)) P w.heap.size := (Below.heap_alloc _ _ _ (Array.getElem?_eq_some_iff.1 hpk4).1).trans hpk4
    have hst := HST3.out.below hbA
    have hX5 := (hbA.block _ (Array.getElem?_eq_some_iff.1 HX3.out).1).trans HX3.out
    have hR5 := (hbA.block _ (Array.getElem?_eq_some_iff.1 HR3.out).1).trans HR3.out
    have KL := Lib.hid (lst1_any hst hpk HX.out HKD.out HBD.out.1 HBT.out.2.1)
    have HD := Lib.hid (And.intro hD (And.intro hpk (And.intro hst (And.intro hR5 hX5))))
    obtain ⟨e0, e1, e2, e3, e4, e5, e6, e7⟩ := cells8 hX5
    unfold itv at KL
    clear hbA hD hpk hst hX5 hR5 hpk4 hPl hb4 k8
    go_wp2_with fail
    refine KL.out.mono ?_
    rintro e w6 ⟨rfl, t1, a1, o1, ht1, hst6, hfr6⟩
    obtain ⟨hD, hpk, hst, hR5, hX5⟩ := HD.out
    have hD6 := (hfr6 w4.heap.size (Array.getElem?_eq_some_iff.1 hD).1 (typ_ne hD hst.tb (by decide)) (fun h => by cases h) (fun h => by cases h) (fun h => by cases h) (fun h => by cases h)).trans hD
    have hpk3 : Pk w6 P w.heap.size := (hfr6 P (Array.getElem?_eq_some_iff.1 hpk).1 (typ_ne hpk hst.tb (by decide)) (fun h => by cases h) (fun h => by cases h) (fun h => by cases h) (fun h => by cases h)).trans hpk
    have hR6 : Tk6 w6 (w.heap.size + 2) tbZ taZ := (hfr6 _ (Array.getElem?_eq_some_iff.1 hR5).1 (by omega) (fun h => by cases h) (fun h => by cases h) (fun h => by cases h) (fun h => by cases h)).trans hR5
    have hrt := hst6.rt
    have HT1 := Lib.hid ht1
    have hl := (show t1.ci.length ≤ 4000 from by rw [show t1.ci = (Tp t1).ci from rfl, HT1.out]; have := HPB.out.2.1; omega)
    have KJ := Lib.hid (jn1_any hrt hpk3 HKD.out hl)
    have HB6 := Lib.hid (And.intro hst6.be hR6)
    have g1 : w6.cell? ⟨w4.heap.size, 1, none⟩ = some (.func (.func 75) #[] #[.pointer (some ⟨P, 0, none⟩)]) := by simp [World.cell?, hD6]
    clear hD hpk hst hR5 hX5 hD6 hpk3 hR6 hrt ht1 hst6 hfr6 hl e0 e1 e2 e3 e4 e5 e6 e7
    go_wp2_with fail
    refine KJ.out.mono ?_
    rintro e w7 ⟨rfl, t2, a2, hblt, hrt7, hfj7, _⟩
    have hR7 : Tk6 w7 (w.heap.size + 2) tbZ taZ := (hfj7.keep _ HB6.out.2.lt (by omega)).trans HB6.out.2
    have hq : Did (Tp t) x (Tp t2) := by rw [HT1.out] at hblt; exact hblt
    have HFin : Hid (∀ act : Act, act.defers = [] → act.tmps[4]?.getD undef = .pointer (some ⟨w.heap.size + 2, 0, none⟩) → bodyPost Tryz.prog Tryz.f14 (TabR w.heap.size w (Did (Tp t) x)) .ret act (put6 w7 (w.heap.size + 2) (.string (str t2.nm)) (.int .i64 t2.wm) (.slice a2.a0 t2.sp.length a2.c0) (.slice a2.a1 t2.ci.length a2.c1) (.slice a2.a2 t2.no.length a2.c2) (.slice a2.a3 t2.bf.length a2.c3))) := Lib.hid fun act hd h2 => tab_ret Tryz.results14 hR7 (hrt7.tm.ret hq (HB6.out.1.trans hfj7.below) (by omega) (by omega) ⟨_, _, hR7⟩) hd h2
    obtain ⟨y0, y1, y2, y3, y4, y5⟩ := hrt7.tb.cells
    obtain ⟨z0, z1, z2, z3, z4, z5⟩ := cells6 hR7
    obtain ⟨f0, f1, f2, f3, f4, f5⟩ := thaw6 hR7
    clear g1 hblt hrt7 hfj7 hR7 hq
    unfold put6 at HFin
    go_wp2_with (with_reducible exact HFin.out _ rfl rfl)
  · have HKD := Lib.hid hkd
    have KD := Lib.hid (fun W => deed2_any w.heap.size x.kind HKD.out W)
    clear hkd
    unfold put6 at HST3 HX3 HR3 k8
    go_wp2_with fail
    clear c0 c1 c2 c3 c4 c5 f0 f1 f2 f3 f4 f5
    generalize (((((w2.setCell ⟨w.heap.size, 0, none⟩ (.string (str t.nm))).setCell ⟨w.heap.size, 1, none⟩ (.int .i64 t.wm)).setCell ⟨w.heap.size, 2, none⟩ (.slice a.a0 t.sp.length t.sp.length)).setCell ⟨w.heap.size, 3, none⟩ (.slice a.a1 t.ci.length t.ci.length)).setCell ⟨w.heap.size, 4, none⟩ (.slice a.a2 t.no.length t.no.length)).setCell ⟨w.heap.size, 5, none⟩ (.slice a.a3 t.bf.length t.bf.length) = w3 at *
    refine (KD.out _).mono ?_
    rintro e w4 ⟨P, rfl, hpk4, hPl, hb4⟩
    have hbA := hb4.trans (((Below.refl w4.heap.size w4).alloc (Nat.le_refl _) (.cells #[.func (.func 77) #[] #[.pointer (some ⟨P, 0, none⟩)], .func (.func 78) #[] #[.pointer (some ⟨P, 0, none⟩)]] 80)).mono hb4.size)
    have hD := heap_alloc_new w4 (.cells #[.func (.func 77) #[] #[.pointer (some ⟨P, 0, none⟩)], .func (.func 78) #[] #[.pointer (some ⟨P, 0, none⟩)]] 80)
    have hpk : Pk (w4.alloc (.cells #[.func (.func 77) #[] #[.pointer (some ⟨P, 0, none⟩)], .func (.func 78) #[] #[.pointer (some ⟨P, 0, none⟩)]] 80)) P w.heap.size := (Below.heap_alloc _ _ _ (Array.getElem?_eq_some_iff.1 hpk4).1).trans hpk4
    have hst := HST3.out.below hbA
    have hX5 := (hbA.block _ (Array.getElem?_eq_some_iff.1 HX3.out).1).trans HX3.out
    have hR5 := (hbA.block _ (Array.getElem?_eq_some_iff.1 HR3.out).1).trans HR3.out
    have KL := Lib.hid (lst2_any hst hpk HX.out HKD.out HBD.out.1 HBT.out.2.2.1)
    have HD := Lib.hid (And.intro hD (And.intro hpk (And.intro hst (And.intro hR5 hX5))))
    obtain ⟨e0, e1, e2, e3, e4, e5, e6, e7⟩ := cells8 hX5
    unfold itv at KL
    clear hbA hD hpk hst hX5 hR5 hpk4 hPl hb4 k8
    go_wp2_with fail
    refine KL.out.mono ?_
    rintro e w6 ⟨rfl, t1, a1, o1, ht1, hst6, hfr6⟩
    obtain ⟨hD, hpk, hst, hR5, hX5⟩ := HD.out
    have hD6 := (hfr6 w4.heap.size (Array.getElem?_eq_some_iff.1 hD).1 (typ_ne hD hst.tb (by decide)) (fun h => by cases h) (fun h => by cases h) (fun h => by cases h) (fun h => by cases h)).trans hD
    have hpk3 : Pk w6 P w.heap.size := (hfr6 P (Array.getElem?_eq_some_iff.1 hpk).1 (typ_ne hpk hst.tb (by decide)) (fun h => by cases h) (fun h => by cases h) (fun h => by cases h) (fun h => by cases h)).trans hpk
    have hR6 : Tk6 w6 (w.heap.size + 2) tbZ taZ := (hfr6 _ (Array.getElem?_eq_some_iff.1 hR5).1 (by omega) (fun h => by cases h) (fun h => by cases h) (fun h => by cases h) (fun h => by cases h)).trans hR5
    have hrt := hst6.rt
    have HT1 := Lib.hid ht1
    have hl := (show t1.no.length ≤ 4000 from by rw [show t1.no = (Tp t1).no from rfl, HT1.out]; have := HPB.out.2.2.1; omega)
    have KJ := Lib.hid (jn2_any hrt hpk3 HKD.out hl)
    have HB6 := Lib.hid (And.intro hst6.be hR6)
    have g1 : w6.cell? ⟨w4.heap.size, 1, none⟩ = some (.func (.func 78) #[] #[.pointer (some ⟨P, 0, none⟩)]) := by simp [World.cell?, hD6]
    clear hD hpk hst hR5 hX5 hD6 hpk3 hR6 hrt ht1 hst6 hfr6 hl e0 e1 e2 e3 e4 e5 e6 e7
    go_wp2_with fail
    refine KJ.out.mono ?_
    rintro e w7 ⟨rfl, t2, a2, hblt, hrt7, hfj7, _⟩
    have hR7 : Tk6 w7 (w.heap.size + 2) tbZ taZ := (hfj7.keep _ HB6.out.2.lt (by omega)).trans HB6.out.2
    have hq : Did (Tp t) x (Tp t2) := by rw [HT1.out] at hblt; exact hblt
    have HFin : Hid (∀ act : Act, act.defers = [] → act.tmps[4]?.getD undef = .pointer (some ⟨w.heap.size + 2, 0, none⟩) → bodyPost Tryz.prog Tryz.f14 (TabR w.heap.size w (Did (Tp t) x)) .ret act (put6 w7 (w.heap.size + 2) (.string (str t2.nm)) (.int .i64 t2.wm) (.slice a2.a0 t2.sp.length a2.c0) (.slice a2.a1 t2.ci.length a2.c1) (.slice a2.a2 t2.no.length a2.c2) (.slice a2.a3 t2.bf.length a2.c3))) := Lib.hid fun act hd h2 => tab_ret Tryz.results14 hR7 (hrt7.tm.ret hq (HB6.out.1.trans hfj7.below) (by omega) (by omega) ⟨_, _, hR7⟩) hd h2
    obtain ⟨y0, y1, y2, y3, y4, y5⟩ := hrt7.tb.cells
    obtain ⟨z0, z1, z2, z3, z4, z5⟩ := cells6 hR7
    obtain ⟨f0, f1, f2, f3, f4, f5⟩ := thaw6 hR7
    clear g1 hblt hrt7 hfj7 hR7 hq
    unfold put6 at HFin
    go_wp2_with (with_reducible exact HFin.out _ rfl rfl)
  · have HKD := Lib.hid hkd
    have KD := Lib.hid (fun W => deed3_any w.heap.size x.kind HKD.out W)
    clear hkd
    unfold put6 at HST3 HX3 HR3 k8
    go_wp2_with fail
    clear c0 c1 c2 c3 c4 c5 f0 f1 f2 f3 f4 f5
    generalize (((((w2.setCell ⟨w.heap.size, 0, none⟩ (.string (str t.nm))).setCell ⟨w.heap.size, 1, none⟩ (.int .i64 t.wm)).setCell ⟨w.heap.size, 2, none⟩ (.slice a.a0 t.sp.length t.sp.length)).setCell ⟨w.heap.size, 3, none⟩ (.slice a.a1 t.ci.length t.ci.length)).setCell ⟨w.heap.size, 4, none⟩ (.slice a.a2 t.no.length t.no.length)).setCell ⟨w.heap.size, 5, none⟩ (.slice a.a3 t.bf.length t.bf.length) = w3 at *
    refine (KD.out _).mono ?_
    rintro e w4 ⟨P, rfl, hpk4, hPl, hb4⟩
    have hbA := hb4.trans (((Below.refl w4.heap.size w4).alloc (Nat.le_refl _) (.cells #[.func (.func 79) #[] #[.pointer (some ⟨P, 0, none⟩)], .func (.func 81) #[] #[.pointer (some ⟨P, 0, none⟩)]] 80)).mono hb4.size)
    have hD := heap_alloc_new w4 (.cells #[.func (.func 79) #[] #[.pointer (some ⟨P, 0, none⟩)], .func (.func 81) #[] #[.pointer (some ⟨P, 0, none⟩)]] 80)
    have hpk : Pk (w4.alloc (.cells #[.func (.func 79) #[] #[.pointer (some ⟨P, 0, none⟩)], .func (.func 81) #[] #[.pointer (some ⟨P, 0, none⟩)]] 80)) P w.heap.size := (Below.heap_alloc _ _ _ (Array.getElem?_eq_some_iff.1 hpk4).1).trans hpk4
    have hst := HST3.out.below hbA
    have hX5 := (hbA.block _ (Array.getElem?_eq_some_iff.1 HX3.out).1).trans HX3.out
    have hR5 := (hbA.block _ (Array.getElem?_eq_some_iff.1 HR3.out).1).trans HR3.out
    have KL := Lib.hid (lst3_any hst hpk HX.out HKD.out HBD.out.1 HBT.out.2.2.2 HBD.out.2.1 HBD.out.2.2)
    have HD := Lib.hid (And.intro hD (And.intro hpk (And.intro hst (And.intro hR5 hX5))))
    obtain ⟨e0, e1, e2, e3, e4, e5, e6, e7⟩ := cells8 hX5
    unfold itv at KL
    clear hbA hD hpk hst hX5 hR5 hpk4 hPl hb4 k8
    go_wp2_with fail
    refine KL.out.mono ?_
    rintro e w6 ⟨rfl, t1, a1, o1, ht1, hst6, hfr6⟩
    obtain ⟨hD, hpk, hst, hR5, hX5⟩ := HD.out
    have hD6 := (hfr6 w4.heap.size (Array.getElem?_eq_some_iff.1 hD).1 (typ_ne hD hst.tb (by decide)) (fun h => by cases h) (fun h => by cases h) (fun h => by cases h) (fun h => by cases h)).trans hD
    have hpk3 : Pk w6 P w.heap.size := (hfr6 P (Array.getElem?_eq_some_iff.1 hpk).1 (typ_ne hpk hst.tb (by decide)) (fun h => by cases h) (fun h => by cases h) (fun h => by cases h) (fun h => by cases h)).trans hpk
    have hR6 : Tk6 w6 (w.heap.size + 2) tbZ taZ := (hfr6 _ (Array.getElem?_eq_some_iff.1 hR5).1 (by omega) (fun h => by cases h) (fun h => by cases h) (fun h => by cases h) (fun h => by cases h)).trans hR5
    have hrt := hst6.rt
    have HT1 := Lib.hid ht1
    have hl := (show t1.bf.length ≤ 10000 from by rw [← pl_length, show pl t1.bf = (Tp t1).bf from rfl, HT1.out]; have := HPB.out.2.2.2; omega)
    have KJ := Lib.hid (jn3_any hrt hpk3 HKD.out hl)
    have HB6 := Lib.hid (And.intro hst6.be hR6)
    have g1 : w6.cell? ⟨w4.heap.size, 1, none⟩ = some (.func (.func 81) #[] #[.pointer (some ⟨P, 0, none⟩)]) := by simp [World.cell?, hD6]
    clear hD hpk hst hR5 hX5 hD6 hpk3 hR6 hrt ht1 hst6 hfr6 hl e0 e1 e2 e3 e4 e5 e6 e7
    go_wp2_with fail
    refine KJ.out.mono ?_
    rintro e w7 ⟨rfl, t2, a2, hblt, hrt7, hfj7, _⟩
    have hR7 : Tk6 w7 (w.heap.size + 2) tbZ taZ := (hfj7.keep _ HB6.out.2.lt (by omega)).trans HB6.out.2
    have hq : Did (Tp t) x (Tp t2) := by rw [HT1.out] at hblt; exact hblt
    have HFin : Hid (∀ act : Act, act.defers = [] → act.tmps[4]?.getD undef = .pointer (some ⟨w.heap.size + 2, 0, none⟩) → bodyPost Tryz.prog Tryz.f14 (TabR w.heap.size w (Did (Tp t) x)) .ret act (put6 w7 (w.heap.size + 2) (.string (str t2.nm)) (.int .i64 t2.wm) (.slice a2.a0 t2.sp.length a2.c0) (.slice a2.a1 t2.ci.length a2.c1) (.slice a2.a2 t2.no.length a2.c2) (.slice a2.a3 t2.bf.length a2.c3))) := Lib.hid fun act hd h2 => tab_ret Tryz.results14 hR7 (hrt7.tm.ret hq (HB6.out.1.trans hfj7.below) (by omega) (by omega) ⟨_, _, hR7⟩) hd h2
    obtain ⟨y0, y1, y2, y3, y4, y5⟩ := hrt7.tb.cells
    obtain ⟨z0, z1, z2, z3, z4, z5⟩ := cells6 hR7
    obtain ⟨f0, f1, f2, f3, f4, f5⟩ := thaw6 hR7
    clear g1 hblt hrt7 hfj7 hR7 hq
    unfold put6 at HFin
    go_wp2_with (with_reducible exact HFin.out _ rfl rfl)
  · have HKD := Lib.hid hkd
    have KD := Lib.hid (fun W => deedN_any w.heap.size x.kind HKD.out W)
    clear hkd
    unfold put6 at HST3 HX3 HR3 k8
    go_wp2_with fail
    clear c0 c1 c2 c3 c4 c5 f0 f1 f2 f3 f4 f5
    generalize (((((w2.setCell ⟨w.heap.size, 0, none⟩ (.string (str t.nm))).setCell ⟨w.heap.size, 1, none⟩ (.int .i64 t.wm)).setCell ⟨w.heap.size, 2, none⟩ (.slice a.a0 t.sp.length t.sp.length)).setCell ⟨w.heap.size, 3, none⟩ (.slice a.a1 t.ci.length t.ci.length)).setCell ⟨w.heap.size, 4, none⟩ (.slice a.a2 t.no.length t.no.length)).setCell ⟨w.heap.size, 5, none⟩ (.slice a.a3 t.bf.length t.bf.length) = w3 at *
    refine (KD.out _).mono ?_
    rintro e w4 ⟨P, rfl, hpk4, hPl, hb4⟩
    have hbA := hb4.trans (((Below.refl w4.heap.size w4).alloc (Nat.le_refl _) (.cells #[.func (.func 83) #[] #[], .func (.func 84) #[] #[]] 80)).mono hb4.size)
    have hD := heap_alloc_new w4 (.cells #[.func (.func 83) #[] #[], .func (.func 84) #[] #[]] 80)
    have hpk : Pk (w4.alloc (.cells #[.func (.func 83) #[] #[], .func (.func 84) #[] #[]] 80)) P w.heap.size := (Below.heap_alloc _ _ _ (Array.getElem?_eq_some_iff.1 hpk4).1).trans hpk4
    have hst := HST3.out.below hbA
    have hX5 := (hbA.block _ (Array.getElem?_eq_some_iff.1 HX3.out).1).trans HX3.out
    have hR5 := (hbA.block _ (Array.getElem?_eq_some_iff.1 HR3.out).1).trans HR3.out
    have KL := Lib.hid (lstN_any (xA := xA) (xn := xn) (xc := xc) hst HKD.out)
    have HD := Lib.hid (And.intro hD (And.intro hpk (And.intro hst (And.intro hR5 hX5))))
    obtain ⟨e0, e1, e2, e3, e4, e5, e6, e7⟩ := cells8 hX5
    unfold itv at KL
    clear hbA hD hpk hst hX5 hR5 hpk4 hPl hb4 k8
    go_wp2_with fail
    refine KL.out.mono ?_
    rintro e w6 ⟨rfl, t1, a1, o1, ht1, hst6, hfr6⟩
    obtain ⟨hD, hpk, hst, hR5, hX5⟩ := HD.out
    have hD6 := (hfr6 w4.heap.size (Array.getElem?_eq_some_iff.1 hD).1 (typ_ne hD hst.tb (by decide)) (fun h => by cases h) (fun h => by cases h) (fun h => by cases h) (fun h => by cases h)).trans hD
    have hpk3 : Pk w6 P w.heap.size := (hfr6 P (Array.getElem?_eq_some_iff.1 hpk).1 (typ_ne hpk hst.tb (by decide)) (fun h => by cases h) (fun h => by cases h) (fun h => by cases h) (fun h => by cases h)).trans hpk
    have hR6 : Tk6 w6 (w.heap.size + 2) tbZ taZ := (hfr6 _ (Array.getElem?_eq_some_iff.1 hR5).1 (by omega) (fun h => by cases h) (fun h => by cases h) (fun h => by cases h) (fun h => by cases h)).trans hR5
    have hrt := hst6.rt
    have HT1 := Lib.hid ht1
    have KJ := Lib.hid (jnN_any (k := x.kind) hrt (by have := HKD.out; omega))
    have HB6 := Lib.hid (And.intro hst6.be hR6)
    have g1 : w6.cell? ⟨w4.heap.size, 1, none⟩ = some (.func (.func 84) #[] #[]) := by simp [World.cell?, hD6]
    clear hD hpk hst hR5 hX5 hD6 hpk3 hR6 hrt ht1 hst6 hfr6 e0 e1 e2 e3 e4 e5 e6 e7
    go_wp2_with fail
    refine KJ.out.mono ?_
    rintro e w7 ⟨rfl, t2, a2, hblt, hrt7, hfj7, _⟩
    have hR7 : Tk6 w7 (w.heap.size + 2) tbZ taZ := (hfj7.keep _ HB6.out.2.lt (by omega)).trans HB6.out.2
    have hq : Did (Tp t) x (Tp t2) := by rw [HT1.out] at hblt; exact hblt
    have HFin : Hid (∀ act : Act, act.defers = [] → act.tmps[4]?.getD undef = .pointer (some ⟨w.heap.size + 2, 0, none⟩) → bodyPost Tryz.prog Tryz.f14 (TabR w.heap.size w (Did (Tp t) x)) .ret act (put6 w7 (w.heap.size + 2) (.string (str t2.nm)) (.int .i64 t2.wm) (.slice a2.a0 t2.sp.length a2.c0) (.slice a2.a1 t2.ci.length a2.c1) (.slice a2.a2 t2.no.length a2.c2) (.slice a2.a3 t2.bf.length a2.c3))) := Lib.hid fun act hd h2 => tab_ret Tryz.results14 hR7 (hrt7.tm.ret hq (HB6.out.1.trans hfj7.below) (by omega) (by omega) ⟨_, _, hR7⟩) hd h2
    obtain ⟨y0, y1, y2, y3, y4, y5⟩ := hrt7.tb.cells
    obtain ⟨z0, z1, z2, z3, z4, z5⟩ := cells6 hR7
    obtain ⟨f0, f1, f2, f3, f4, f5⟩ := thaw6 hR7
    clear g1 hblt hrt7 hfj7 hR7 hq
    unfold put6 at HFin
    go_wp2_with (with_reducible exact HFin.out _ rfl rfl)
end Go.Proofs.YtmjneokjgcgchaaGreat
