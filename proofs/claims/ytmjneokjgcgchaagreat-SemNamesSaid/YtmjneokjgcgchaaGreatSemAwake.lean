/-
  The document's example is as it says (layer 9).
-/
import Derived.Test.YtmjneokjgcgchaaGreatSemSane
import Derived.Test.YtmjneokjgcgchaaGreatPart3
import Derived.Test.YtmjneokjgcgchaaGreatSemOurs
namespace Go.Proofs.YtmjneokjgcgchaaGreat
open Go.RowKit

@[go_sem] theorem bldC9 (a b : Int) (w : World) : (Instr.build 54 #[(0, .int .i64 a), (1, .int .i64 b)]).run Tryz.prog w = .ok (.agg #[.int .i64 a, .int .i64 b]) w := run_build w 54 _ _ (by kernel_rfl)
@[go_sem] theorem bldE39 (ln lv hn hv t : Int) (w : World) : (Instr.build 69 #[(0, .agg #[.int .i64 ln, .int .i64 lv]), (1, .agg #[.int .i64 hn, .int .i64 hv]), (2, .int .i64 t)]).run Tryz.prog w = .ok (.agg #[.int .i64 ln, .int .i64 lv, .int .i64 hn, .int .i64 hv, .int .i64 t, .slice none 0 0, .slice none 0 0]) w := run_build w 69 _ _ (by kernel_rfl)
@[go_sem] theorem bldI29 (k : Int) (A : Option Addr) (n c : Nat) (w : World) : (Instr.build 40 #[(0, .int .i64 k), (4, .slice A n c)]).run Tryz.prog w = .ok (.agg #[.int .i64 k, .int .i64 0, .string ⟨#[]⟩, .int .i64 0, .int .i64 0, .int .i64 0, .string ⟨#[]⟩, .slice A n c]) w := run_build w 40 _ _ (by kernel_rfl)
def exE1 : En := ⟨⟨1, 65⟩, ⟨1, 65⟩, 7, [], []⟩
def exE2 : En := ⟨⟨1, 64⟩, ⟨1, 66⟩, 1, [], []⟩
def exI1 : Im := ⟨4, 0, [], ⟨0, 0, 0, []⟩, [exE1]⟩
def exI2 : Im := ⟨3, 0, [], ⟨0, 0, 0, []⟩, [exE2]⟩
def exT : Pg := ⟨[], 0, [], [⟨1, 64, 66, 1⟩], [], []⟩
instance rqDec9 (st : Bool) (a b : Sp) : Decidable (Rq st a b) := inferInstanceAs (Decidable (_ ∧ _))
theorem exS_cn : Cn true [(⟨1, 64, 66, 1⟩ : Sp)] := ⟨by decide +kernel, by decide +kernel⟩
theorem exL_eq : lstL Pg.nil [exI1, exI2] = ⟨[], 0, [], [⟨1, 65, 65, 7⟩, ⟨1, 64, 66, 1⟩], [], []⟩ := rfl
theorem exT_cm : Cm (lstL Pg.nil [exI1, exI2]) exT := by
  rw [exL_eq]
  refine ⟨rfl, rfl, Cnn.nil, ⟨exS_cn, fun n v => ?_⟩, ⟨Cn.nil, fun _ _ => rfl⟩, ⟨Ct.nil, fun _ _ => rfl⟩⟩
  have a1 : Sn true ⟨1, 65, 65, 7⟩ := by decide +kernel
  have a2 : Sn true ⟨1, 64, 66, 1⟩ := by decide +kernel
  simp only [exT, lastS, toS, a1, a2, true_and, goesS, if_true]
  repeat' split
  all_goals first | rfl | omega | (simp only [Option.none_or, Option.or_none, Option.some.injEq]; omega)
theorem exT_find : findS true [(⟨1, 64, 66, 1⟩ : Sp)] 1 65 = some 2 := by
  rw [findS, if_pos exS_cn]
  decide +kernel
theorem exT_ts : Ts exT := exT_cm.ts (by rw [exL_eq]; exact .inl rfl)
/-- Rows of new blocks. -/
theorem ex_ent {w : World} {b : Nat} {t : TypeId} {e : En} (h : w.heap[b]? = some (Obj.cells (dq (e, .slice none 0 0, .slice none 0 0)).toArray t (0, 0))) (hu : e.u = []) (hl : e.ll = []) : Ex w (fun _ => False) (.slice (some ⟨b, 0, none⟩) 1 1) [e] := by
  refine ⟨[(e, .slice none 0 0, .slice none 0 0)], rfl, ⟨some ⟨b, 0, none⟩, 1, rfl, ⟨Nat.le_refl _, fun e => by cases e⟩, fun _ => ⟨b, 0, rfl, (Array.getElem?_eq_some_iff.1 h).1, fun h => h, fun j x hx i u hu => ?_⟩⟩, fun p hp => ?_⟩
  · have hj : j = 0 := by have := (List.getElem?_eq_some_iff.1 hx).1; simp at this; omega
    subst hj
    rw [List.getElem?_cons_zero] at hx
    injection hx with hx
    subst hx
    simp only [World.cell?, h, Option.isSome_none, Bool.false_eq_true, if_false]
    simpa using hu
  · rw [List.mem_singleton] at hp
    subst hp
    exact ⟨by rw [hu]; exact Ux.nil, by rw [hl]; exact Lx.nil⟩
theorem ex_items {w : World} {b b1 b2 : Nat} {t : TypeId} {x y : Im} (h : w.heap[b]? = some (Obj.cells (iq (x, .slice (some ⟨b1, 0, none⟩) 1 1) ++ iq (y, .slice (some ⟨b2, 0, none⟩) 1 1)).toArray t (0, 0))) (h1 : Ex w (fun _ => False) (.slice (some ⟨b1, 0, none⟩) 1 1) x.ents) (h2 : Ex w (fun _ => False) (.slice (some ⟨b2, 0, none⟩) 1 1) y.ents) : Ix w (fun _ => False) (.slice (some ⟨b, 0, none⟩) 2 2) [x, y] := by
  refine ⟨[(x, .slice (some ⟨b1, 0, none⟩) 1 1), (y, .slice (some ⟨b2, 0, none⟩) 1 1)], rfl, ⟨some ⟨b, 0, none⟩, 2, rfl, ⟨Nat.le_refl _, fun e => by cases e⟩, fun _ => ⟨b, 0, rfl, (Array.getElem?_eq_some_iff.1 h).1, fun h => h, fun j p hp i u hu => ?_⟩⟩, fun p hp => ?_⟩
  · have key := flat_get iq_len [(x, (Value.slice (some ⟨b1, 0, none⟩) 1 1)), (y, .slice (some ⟨b2, 0, none⟩) 1 1)] j i p hp (by
      rcases Nat.lt_or_ge i 8 with h | h
      · exact h
      · rw [List.getElem?_eq_none (by rw [iq_len]; exact h)] at hu; cases hu)
    rw [hu] at key
    simp only [World.cell?, h, Option.isSome_none, Bool.false_eq_true, if_false]
    rw [Nat.zero_add]
    simpa using key
  · simp only [List.mem_cons, List.not_mem_nil, or_false] at hp
    rcases hp with rfl | rfl
    · exact h1
    · exact h2
theorem four {w : World} (c0 c1 c2 c3 : Array Value) (t0 t1 t2 t3 : TypeId) : Below w.heap.size w ((((w.alloc (.cells c0 t0)).alloc (.cells c1 t1)).alloc (.cells c2 t2)).alloc (.cells c3 t3)) ∧ ((((w.alloc (.cells c0 t0)).alloc (.cells c1 t1)).alloc (.cells c2 t2)).alloc (.cells c3 t3)).heap[w.heap.size]? = some (.cells c0 t0 (0, 0)) ∧ ((((w.alloc (.cells c0 t0)).alloc (.cells c1 t1)).alloc (.cells c2 t2)).alloc (.cells c3 t3)).heap[w.heap.size + 1]? = some (.cells c1 t1 (0, 0)) ∧ ((((w.alloc (.cells c0 t0)).alloc (.cells c1 t1)).alloc (.cells c2 t2)).alloc (.cells c3 t3)).heap[w.heap.size + 2]? = some (.cells c2 t2 (0, 0)) ∧ ((((w.alloc (.cells c0 t0)).alloc (.cells c1 t1)).alloc (.cells c2 t2)).alloc (.cells c3 t3)).heap[w.heap.size + 3]? = some (.cells c3 t3 (0, 0)) := by
  obtain ⟨a, b, c, d⟩ := three (w := w) c0 c1 c2 t0 t1 t2
  have s3 : (((w.alloc (.cells c0 t0)).alloc (.cells c1 t1)).alloc (.cells c2 t2)).heap.size = w.heap.size + 3 := by simp
  have h3 := heap_alloc_new (((w.alloc (.cells c0 t0)).alloc (.cells c1 t1)).alloc (.cells c2 t2)) (.cells c3 t3)
  rw [s3] at h3
  exact ⟨a.alloc a.size _, (Below.heap_alloc _ _ _ (by omega)).trans b, (Below.heap_alloc _ _ _ (by omega)).trans c, (Below.heap_alloc _ _ _ (by omega)).trans d, h3⟩
set_option maxRecDepth 100000 in
set_option maxHeartbeats 8000000 in
theorem awake9_any (w : World) : Calls Tryz.prog 9 #[] w fun e w' => e = .returned (.bool true) ∧ Below w.heap.size w w' := by
  have H4 := four (w := w) #[.int .i64 1, .int .i64 65] (dq (exE1, .slice none 0 0, .slice none 0 0)).toArray (dq (exE2, .slice none 0 0, .slice none 0 0)).toArray (iq (exI1, .slice (some ⟨w.heap.size + 1, 0, none⟩) 1 1) ++ iq (exI2, .slice (some ⟨w.heap.size + 2, 0, none⟩) 1 1)).toArray 54 69 69 40
  obtain ⟨hb, hc, h1, h2, h3⟩ := H4
  have hix := ex_items h3 (ex_ent h1 rfl rfl) (ex_ent h2 rfl rfl)
  have K1 := All_any _ hix (by decide) (fun x hx => by
    simp only [List.mem_cons, List.not_mem_nil, or_false] at hx
    rcases hx with rfl | rfl
    · exact ⟨by decide, by decide, fun e he => by rw [show e = exE1 from by simpa [exI1] using he]; decide⟩
    · exact ⟨by decide, by decide, fun e he => by rw [show e = exE2 from by simpa [exI2] using he]; decide⟩) (by rw [exL_eq]; exact ⟨by decide, by decide, by decide, by decide⟩)
  simp only [dq, iq, exE1, exE2, exI1, exI2, str_nil, List.cons_append, List.nil_append] at K1 hb hc
  have K1H := Lib.hid K1
  have HB := Lib.hid hb
  have HC := Lib.hid hc
  clear h1 h2 h3 hix K1 hb hc
  go_enter Tryz.func9, Tryz.ntmps9
  go_wp2_with fail
  refine K1H.out.mono ?_
  rintro e w1 ⟨t, a, rfl, hcm, hst, hb1⟩
  have ht : Tp t = exT := hcm.one exT_cm
  obtain ⟨nm, wm, sp, ci, no, bf⟩ := t
  simp only [Tp, exT, Pg.mk.injEq] at ht
  obtain ⟨rfl, rfl, rfl, rfl, rfl, hbf⟩ := ht
  obtain rfl : bf = [] := by
    cases bf with
    | nil => rfl
    | cons _ _ => simp [pl] at hbf
  have hbw1 := HB.out.trans (hb1.mono HB.out.size)
  have hc1 := (hb1.block _ (Array.getElem?_eq_some_iff.1 HC.out).1).trans HC.out
  have htm := hst.now
  have hbA : Below w1.heap.size w1 (w1.alloc (.cells #[.string (str []), .int .i64 0, .slice a.a0 0 a.c0, .slice a.a1 1 a.c1, .slice a.a2 0 a.c2, .slice a.a3 0 a.c3] 33)) := (Below.refl _ _).alloc (Nat.le_refl _) _
  have hx1 := heap_alloc_new w1 (.cells #[.string (str []), .int .i64 0, .slice a.a0 0 a.c0, .slice a.a1 1 a.c1, .slice a.a2 0 a.c2, .slice a.a3 0 a.c3] 33)
  have HV : Hid (∀ W, Below (w1.alloc (.cells #[.string (str []), .int .i64 0, .slice a.a0 0 a.c0, .slice a.a1 1 a.c1, .slice a.a2 0 a.c2, .slice a.a3 0 a.c3] 33)).heap.size (w1.alloc (.cells #[.string (str []), .int .i64 0, .slice a.a0 0 a.c0, .slice a.a1 1 a.c1, .slice a.a2 0 a.c2, .slice a.a3 0 a.c3] 33)) W → ((W.cell? ⟨w1.heap.size, 0, none⟩ = some (.string (str [])) ∧ W.cell? ⟨w1.heap.size, 1, none⟩ = some (.int .i64 0) ∧ W.cell? ⟨w1.heap.size, 2, none⟩ = some (.slice a.a0 0 a.c0) ∧ W.cell? ⟨w1.heap.size, 3, none⟩ = some (.slice a.a1 1 a.c1) ∧ W.cell? ⟨w1.heap.size, 4, none⟩ = some (.slice a.a2 0 a.c2) ∧ W.cell? ⟨w1.heap.size, 5, none⟩ = some (.slice a.a3 0 a.c3)) ∧ W.cell? ⟨w.heap.size, 0, none⟩ = some (.int .i64 1) ∧ W.cell? ⟨w.heap.size, 1, none⟩ = some (.int .i64 65)) ∧ Below w.heap.size w W ∧ Below w1.heap.size w1 W) := Lib.hid fun W hW => by
    have hw := hbA.trans (hW.mono hbA.size)
    have c1 := (hw.block _ (Array.getElem?_eq_some_iff.1 hc1).1).trans hc1
    exact ⟨⟨cells6 ((hW.block _ (by simp)).trans hx1), by simp [World.cell?, c1], by simp [World.cell?, c1]⟩, hbw1.trans (hw.mono hbw1.size), hw⟩
  have K2 := Lib.hid (fun W (hW : Below w1.heap.size w1 W) => Find_any true a.a1 a.c1 [(⟨1, 64, 66, 1⟩ : Sp)] 1 65 W (htm.over hW).ci (by decide))
  have K3 := Lib.hid (fun W (hW : Below w1.heap.size w1 W) => Sane_any9 W (htm.over hW) (by decide) (by decide) (by decide) (by decide))
  rw [exT_find] at K2
  unfold oV at K2
  unfold tbv at K3
  simp only [List.length_cons, List.length_nil, Nat.zero_add] at K2 K3
  clear hcm hst hb1 hbf hbw1 hc1 htm hbA hx1 HB HC K1H
  unfold tbv
  simp only [List.length_cons, List.length_nil, Nat.zero_add]
  obtain ⟨⟨⟨y0, y1, y2, y3, y4, y5⟩, z0, z1⟩, hbw, hbv⟩ := HV.out _ (Below.refl _ _)
  have HB1 := Lib.hid (And.intro hbw hbv)
  clear hbw hbv
  go_wp2_with fail
  refine (K2.out _ HB1.out.2).mono ?_
  rintro e w2 ⟨rfl, hb2⟩
  have HB2 := Lib.hid hb2
  clear y0 y1 y2 y3 y4 y5 z0 z1 hb2
  obtain ⟨⟨⟨y0, y1, y2, y3, y4, y5⟩, z0, z1⟩, hbw, hbv⟩ := HV.out _ HB2.out
  have HB3 := Lib.hid (And.intro hbw hbv)
  clear hbw hbv
  go_wp2_with fail
  refine (K3.out _ HB3.out.2).mono ?_
  rintro e w3 ⟨b, rfl, hbt, hb3⟩
  obtain rfl : b = true := hbt.2 exT_ts
  clear hbt
  go_wp2
  go_ret
  exact ⟨rfl, HB3.out.1.trans (hb3.mono HB3.out.1.size)⟩
end Go.Proofs.YtmjneokjgcgchaaGreat
