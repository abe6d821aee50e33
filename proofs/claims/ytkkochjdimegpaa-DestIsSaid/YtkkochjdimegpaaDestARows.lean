/-
  The program's own addRows: a goto back to a label.
-/
import Derived.Test.YtkkochjdimegpaaDestRw
import Derived.Test.YtkkochjdimegpaaDestAll
import Derived.Test.YtkkochjdimegpaaDestBuild
import Derived.ScopeJumps
import Derived.WalkMore
import Derived.Lib.BufferOwn
namespace Go.Proofs.Ytkkochjdimegpaa
open Go.RowKit
attribute [local go_sem ↓] Go.wp_at_zero Go.wp_at_succ

def cellI (w : World) (p : Addr) : Int := match w.cell? p with | some (.int _ i) => i | _ => 0
/-- A box that holds an entry. -/
def Bx (w : World) (B : Nat) (y : Me) : Prop := w.heap[B]? = some (Obj.cells #[.int .i64 y.b.n, .int .i64 y.b.lo, .int .i64 y.b.hi, .slice y.a y.b.u.length y.c] 25 (0, 0))
theorem Bx.new (w : World) (y : Me) : Bx (w.alloc (.cells #[.int .i64 y.b.n, .int .i64 y.b.lo, .int .i64 y.b.hi, .slice y.a y.b.u.length y.c] 25)) w.heap.size y := heap_alloc_new w _
theorem Bx.fb {w : World} {B : Nat} {y : Me} (h : Bx w B y) : Fb w B y := ⟨by rw [cell_cs h]; rfl, by rw [cell_cs h]; rfl, by rw [cell_cs h]; rfl, by rw [cell_cs h]; rfl⟩
theorem Bx.lt {w : World} {B : Nat} {y : Me} (h : Bx w B y) : B < w.heap.size := (Array.getElem?_eq_some_iff.1 h).1
theorem Bx.frozen {w : World} {B : Nat} {y : Me} (h : Bx w B y) (i : Nat) : w.frozen? ⟨B, i, none⟩ = false := frozen_cs h
theorem Bx.below {w w' : World} {B : Nat} {y : Me} (h : Bx w B y) (k : Below w.heap.size w w') : Bx w' B y := (k.block B h.lt).trans h
theorem Bx.grown {w w' : World} {B : Nat} {y : Me} {row : Option Nat} (h : Bx w B y) (k : w.grownBy w' row) (hr : some B ≠ row) : Bx w' B y := (k.block B h.lt hr).trans h
theorem Bx.tq {w : World} {B : Nat} {y : Me} (h : Bx w B y) : Tq w B := ⟨_, h⟩
theorem Bx.set {w : World} {B : Nat} {y : Me} (h : Bx w B y) (z : Me) : ∀ X, X = (((w.setCell ⟨B, 0, none⟩ (.int .i64 z.b.n)).setCell ⟨B, 1, none⟩ (.int .i64 z.b.lo)).setCell ⟨B, 2, none⟩ (.int .i64 z.b.hi)).setCell ⟨B, 3, none⟩ (.slice z.a z.b.u.length z.c) → Bx X B z ∧ w.grownBy X (some B) ∧ Ik w X := by
  rintro X rfl
  have e1 := heap_setCell_same _ B 0 _ _ (.int .i64 z.b.n) h
  have e2 := heap_setCell_same _ B 1 _ _ (.int .i64 z.b.lo) e1
  have e3 := heap_setCell_same _ B 2 _ _ (.int .i64 z.b.hi) e2
  have e4 := heap_setCell_same _ B 3 _ _ (.slice z.a z.b.u.length z.c) e3
  have g : w.grownBy ((((w.setCell ⟨B, 0, none⟩ (.int .i64 z.b.n)).setCell ⟨B, 1, none⟩ (.int .i64 z.b.lo)).setCell ⟨B, 2, none⟩ (.int .i64 z.b.hi)).setCell ⟨B, 3, none⟩ (.slice z.a z.b.u.length z.c)) (some B) := Lib.grownBy_setB (Lib.grownBy_setB (Lib.grownBy_setB (Lib.grownBy_setB (World.grownBy.refl w _) 0 _) 1 _) 2 _) 3 _
  exact ⟨e4, g, Ik.of_grown g (fun j e => by cases e; exact h.tq)⟩
theorem own_grownD {w w' : World} {base n size B : Nat} {e : TypeId} {v : Value} {xs : List Value} (h : w.ownsRow base e size v n xs) (k : w.grownBy w' (some B)) (hne : ∀ g, v.ownBlock = some g → g ≠ B) : w'.ownsRow base e size v n xs := by
  refine ⟨h.1, ?_⟩
  rcases h.2 with hn | ⟨g, cap, cur, rfl, h1, hg, rest⟩
  · exact .inl hn
  · exact .inr ⟨g, cap, cur, rfl, h1, (k.block g (Array.getElem?_eq_some_iff.1 hg).1 (fun e => by injection e with e; exact hne g rfl e)).trans hg, rest⟩
theorem gr_from {wr w2 w4 : World} {Ob : Obj} {row : Option Nat} (h1 : Below wr.heap.size wr w2) (_hg : (w2.alloc Ob).grownBy w4 row) : Below wr.heap.size wr (w2.alloc Ob) := h1.trans ((al_below w2 Ob).mono h1.size)
theorem Bx.gr {w2 w4 : World} {Ob : Obj} {row : Option Nat} {B : Nat} {y : Me} (h : Bx w2 B y) (hg : (w2.alloc Ob).grownBy w4 row) (hr : some B ≠ row) : Bx w4 B y := (h.below (al_below w2 Ob)).grown hg hr
/-- A scope that begins with the label to which the run jumps back. -/
theorem wp_scope_label {P : Program} {a : Act} {w : World} {Q : Exit → Act → World → Prop} {r : Code} (l : Nat) (J : Act → World → Prop) (μ : Act → World → Nat) (h0 : J a w)
    (pass : ∀ a w, J a w → r.wp P (Exit.jump l (fun a' w' => J a' w' ∧ μ a' w' < μ a w) Q) a w) : (Code.scope (Code.seq (Code.label l) r)).wp P Q a w := by
  refine wp_scope_jumps l J μ (rest := Code.seq .skip r) (by simp [findLabel]) (wp_seq (wp_label (wp_mono (pass a w h0) fun e a' w' q => ?_))) (fun a w h => wp_seq (wp_skip (pass a w h)))
  cases e with
  | goto l' => exact ⟨q.1, q.2.1⟩
  | normal => exact q
  | exit id => exact q
  | ret => exact q
  | panic ch => exact q
  | outgrown => exact q
/-- What addRows hands back. -/
def RowsR (w : World) (base : Nat) (v : Value) (l : List Bp) (e : Ending) (w' : World) : Prop :=
  ∃ v' m, e = .returned v' ∧ w'.ownsRow base 25 4 v' m.length (dvs m) ∧ pl m = l ∧ Utl w' m ∧ w.grownBy w' v.ownBlock ∧ (∀ g, v'.ownBlock = some g → v.ownBlock = some g ∨ w.heap.size ≤ g)
set_option maxRecDepth 100000 in
set_option maxHeartbeats 8000000 in
theorem addRows_any (base : Nat) (v : Value) (O : List Me) (x : Me) (w : World) (hown : w.ownsRow base 25 4 v O.length (dvs O)) (hbase : base ≤ w.heap.size) (hl : O.length ≤ 1000000) (huo : Utl w O) (hux : Ut w x.a x.c x.b.u) (hs : Sb x.b) :
    Calls Try.prog 42 #[v, fv x] w (RowsR w base v (pl O ++ cutB x.b)) := by
  obtain ⟨i0, hi0, hz0, hz1, hz2⟩ := info_parts infoB
  obtain ⟨G, hG⟩ : ∃ G, G = pl O ++ cutB x.b := ⟨_, rfl⟩
  rw [← hG]
  have hlen : G.length ≤ 1000600 := by
    have := (cut_all hs).2.2.1
    rw [hG, List.length_append, pl_length]
    omega
  have HLEN := Lib.hid hlen
  have HG := Lib.hid hG
  have OWN : Hid (∀ g, v.ownBlock = some g → base ≤ g ∧ g < w.heap.size) := Lib.hid fun g hg => own_ltD hown hg
  clear hlen hG hl
  unfold fv
  go_enter Try.func42, Try.ntmps42
  go_wp2
  have hb0 := al_below w (.cells #[.int .i64 x.b.n, .int .i64 x.b.lo, .int .i64 x.b.hi, .slice x.a x.b.u.length x.c] 25)
  have hx0 := Bx.new w x
  have hown0 := own_belowD hown hb0 (Nat.le_refl _)
  have hg0 : w.grownBy (w.alloc (.cells #[.int .i64 x.b.n, .int .i64 x.b.lo, .int .i64 x.b.hi, .slice x.a x.b.u.length x.c] 25)) v.ownBlock := dgb_below hb0 _
  have hu0 := huo.ik (Ik.of_below hb0)
  have hux0 := hux.ik (Ik.of_below hb0)
  clear hown huo hux hb0
  generalize w.alloc (.cells #[.int .i64 x.b.n, .int .i64 x.b.lo, .int .i64 x.b.hi, .slice x.a x.b.u.length x.c] 25) = W0 at *
  refine wp_scope_label 0 (fun a' w' => ∃ (vr : Value) (O1 : List Me) (y : Me) (u5 u6 u7 u8 u9 u10 u11 u12 u13 u14 u15 u16 u17 u18 u19 u20 u21 : Value), a' = { tmps := #[vr, .agg #[.int .i64 x.b.n, .int .i64 x.b.lo, .int .i64 x.b.hi, .slice x.a x.b.u.length x.c], undef, .pointer (some ⟨w.heap.size, 0, none⟩), .slice none 0 0, u5, u6, u7, u8, u9, u10, u11, u12, u13, u14, u15, u16, u17, u18, u19, u20, u21, undef, undef, undef, undef], defers := [] } ∧ w'.ownsRow base 25 4 vr O1.length (dvs O1) ∧ Bx w' w.heap.size y ∧ Utl w' O1 ∧ Ut w' y.a y.c y.b.u ∧ Sb y.b ∧ pl O1 ++ cutB y.b = G ∧ w.grownBy w' v.ownBlock ∧ (∀ g, vr.ownBlock = some g → v.ownBlock = some g ∨ w.heap.size < g))
    (fun _ w' => (cellI w' ⟨w.heap.size, 2, none⟩ - cellI w' ⟨w.heap.size, 1, none⟩).toNat) ?_ ?_
  · exact ⟨v, O, x, _, _, _, _, _, _, _, _, _, _, _, _, _, _, _, _, _, rfl, hown0, hx0, hu0, hux0, hs, HG.out.symm, hg0, fun g hg => .inl hg⟩
  · rintro a' wr ⟨vr, O1, y, u5, u6, u7, u8, u9, u10, u11, u12, u13, u14, u15, u16, u17, u18, u19, u20, u21, rfl, hown1, hbx, hu1, huy, hsy, hpl, hgr, hblk⟩
    have hlO : O1.length ≤ 1000600 := by
      have := HLEN.out
      rw [← hpl, List.length_append, pl_length] at this
      omega
    have HI := Lib.hid (And.intro hown1 (And.intro hbx (And.intro hu1 (And.intro huy (And.intro hsy (And.intro hpl (And.intro hgr hblk)))))))
    have hmu : (cellI wr ⟨w.heap.size, 2, none⟩ - cellI wr ⟨w.heap.size, 1, none⟩).toNat = (y.b.hi - y.b.lo).toNat := by
      have q1 := hbx.fb.c1
      have q2 := hbx.fb.c2
      rw [Nat.zero_add] at q1 q2
      simp only [cellI, q1, q2]
    rw [hmu]
    have KE := Lib.hid (fun W (hW : Below wr.heap.size wr W) => rowEnd_any y W (huy.un.over hW) hsy)
    obtain ⟨c0, c1, c2, c3⟩ := hbx.fb
    rw [Nat.zero_add] at c1 c2 c3
    have HNE : Hid (∀ g, vr.ownBlock = some g → g ≠ w.heap.size ∧ base ≤ g ∧ Tq wr g) := Lib.hid fun g hg => ⟨by rcases hblk g hg with h | h; (have := (OWN.out g h).2; omega); omega, (own_ltD hown1 hg).1, own_tq hown1 hg⟩
    clear hown1 hbx hu1 huy hpl hgr hblk hmu hown0 hx0 hu0 hux0 hg0
    have hE := rowE_spec y.b
    have p1 := saneB_top hsy.1
    have p2 := saneB_top hsy.2.1
    have hlu := hsy.2.2.2.1.last
    have KF : Hid (∀ W, Un W y.a y.c y.b.u → rowE y.b < y.b.hi → Calls Try.prog 37 #[fv y, .int .i64 (rowE y.b + 1)] W fun e w' => ∃ a c, e = .returned (.agg #[.int .i64 y.b.n, .int .i64 (rowE y.b + 1), .int .i64 y.b.hi, .slice a (goB y.b (rowE y.b + 1)).length c]) ∧ Ut w' a c (goB y.b (rowE y.b + 1)) ∧ Below W.heap.size W w') := Lib.hid fun W hW hlt => from_any y (rowE y.b + 1) W hW hsy.2.2.2.1 p1.1 p1.2.1 (by omega) (by omega)
    have KU : Hid (∀ W, Calls Try.prog 52 #[fv y, .int .i64 (rowE y.b)] W fun e w' => e = .returned (.agg #[.int .i64 y.b.n, .int .i64 y.b.lo, .int .i64 (rowE y.b), .slice y.a y.b.u.length y.c]) ∧ Below W.heap.size W w') := Lib.hid fun W => upTo_any y (rowE y.b) W
    have hw1 : rowE y.b < y.b.hi → IntKind.i64.wrap (rowE y.b + 1) = rowE y.b + 1 := fun h => IntWalk.i64_in _ (by omega)
    have HW1 := Lib.hid hw1
    have hlo := hsy.2.2.1
    have HLO := Lib.hid (And.intro hE hlo)
    clear hE p1 p2 hlu hlo hw1
    unfold fv at KE KF KU
    go_wp2_with fail
    refine (KE.out _ (Below.refl _ _)).mono ?_
    rintro e w1 ⟨rfl, hb1⟩
    have hown2 := own_belowD HI.out.1 hb1 (Nat.le_refl _)
    have hx2 := HI.out.2.1.below hb1
    clear c0 c1 c2 c3
    obtain ⟨c0, c1, c2, c3⟩ := hx2.fb
    rw [Nat.zero_add] at c1 c2 c3
    by_cases hlt : rowE y.b < y.b.hi
    · have d1 : decide (rowE y.b < y.b.hi) = true := decide_eq_true hlt
      have hwr := HW1.out hlt
      have HLT := Lib.hid hlt
      have HB1 := Lib.hid hb1
      have HO2 := Lib.hid hown2
      have HX2 := Lib.hid hx2
      clear hlt hb1 hown2 hx2
      obtain ⟨E, hEE⟩ : ∃ E, E = rowE y.b := ⟨_, rfl⟩
      have HEE := Lib.hid hEE
      rw [← hEE] at KU KF d1 hwr ⊢
      clear hEE
      go_wp2_with fail
      refine (KU.out _).mono ?_
      rintro e w2 ⟨rfl, hb2⟩
      have hown3 := own_belowD HO2.out hb2 (Nat.le_refl _)
      have hx3 := HX2.out.below hb2
      have HB2 := Lib.hid hb2
      have HX3 := Lib.hid hx3
      have KX : Hid (∀ Ob W, (w2.alloc Ob).grownBy W vr.ownBlock → W.cell? ⟨w.heap.size, 0, none⟩ = some (.int .i64 y.b.n) ∧ W.cell? ⟨w.heap.size, 1, none⟩ = some (.int .i64 y.b.lo) ∧ W.cell? ⟨w.heap.size, 2, none⟩ = some (.int .i64 y.b.hi) ∧ W.cell? ⟨w.heap.size, 3, none⟩ = some (.slice y.a y.b.u.length y.c)) := Lib.hid fun Ob W hg => by
        obtain ⟨q0, q1, q2, q3⟩ := ((hx3.below (al_below w2 Ob)).grown hg (fun e => (HNE.out _ e.symm).1 rfl)).fb
        rw [Nat.zero_add] at q1 q2 q3
        exact ⟨q0, q1, q2, q3⟩
      clear hb2 hx3 c0 c1 c2 c3
      go_wp2_with (at_builtin; refine wpList_append_lies _ rfl _ _ _ rfl base 25 i0 (.agg #[.int .i64 0, .int .i64 0, .int .i64 0, .slice none 0 0]) 4 48 Try.underlying22 hi0 hz0 hz1 hz2 rfl (by omega) _ _ _ rfl (hown3.alloc _) ⟨w2.heap.size, 0, none⟩ 1 1 (fq ⟨⟨y.b.n, y.b.lo, E, y.b.u⟩, y.a, y.c⟩) rfl rfl (World.news_of_block (heap_alloc_new w2 _)) (by intro u hu; exact dvs_one [⟨⟨y.b.n, y.b.lo, E, y.b.u⟩, y.a, y.c⟩] u (by simpa [dvs] using hu)) (by omega) (by unfold maxLen; omega) (by omega) (by simp; have := HB1.out.size; have := HB2.out.size; have := HI.out.2.2.2.2.2.2.1.size; omega) _ rfl ?_; intro g4 cap4 w4 hown4 hgrow hat hgl; obtain ⟨c0, c1, c2, c3⟩ := KX.out _ _ hgrow)
      have KY : Hid (Bx w4 w.heap.size y ∧ Ik wr w4 ∧ w.grownBy w4 v.ownBlock ∧ w.heap.size < w4.heap.size) := Lib.hid (by
        have hgr := HI.out.2.2.2.2.2.2.1
        have bb := gr_from (HB1.out.trans (HB2.out.mono HB1.out.size)) hgrow
        have hbx := HX3.out.gr hgrow (fun e => (HNE.out _ e.symm).1 rfl)
        exact ⟨hbx, (Ik.of_below bb).trans (Ik.of_grown hgrow (fun g hg => own_tq (hown3.alloc _) hg)), dgb_trans (dgb_trans hgr (dgb_below bb _) (fun g e => .inl e)) hgrow (fun g e => (HI.out.2.2.2.2.2.2.2 g e).imp id Nat.le_of_lt), hbx.lt⟩)
      have HO4 := Lib.hid hown4
      have HAT : Hid (g4 ≠ w.heap.size ∧ (v.ownBlock = some g4 ∨ w.heap.size < g4)) := Lib.hid (by
        rcases hat with h | h
        · exact ⟨(HNE.out g4 h).1, HI.out.2.2.2.2.2.2.2 g4 h⟩
        · have h1 := HX3.out.lt
          have h2 : w.heap.size < g4 := by rw [h]; simp; omega
          exact ⟨by omega, .inr h2⟩)
      clear hown3 hown4 hgrow hat hgl KX c0 c1 c2 c3
      refine (KF.out w4 (HI.out.2.2.2.1.ik KY.out.2.1).un (by rw [HEE.out]; exact HLT.out)).mono ?_
      rintro e w5 ⟨fa5, fc5, rfl, hut5, hb5⟩
      have hx5 := KY.out.1.below hb5
      obtain ⟨c0, c1, c2, c3⟩ := hx5.fb
      rw [Nat.zero_add] at c1 c2 c3
      have f0 := hx5.frozen 0
      have f1 := hx5.frozen 1
      have f2 := hx5.frozen 2
      have f3 := hx5.frozen 3
      have KS := Lib.hid (hx5.set ⟨partB y.b (E + 1) y.b.hi, fa5, fc5⟩)
      have HUT5 := Lib.hid hut5
      have HB5 := Lib.hid hb5
      clear hx5 hut5 hb5
      go_wp2
      go_step3
      obtain ⟨k1, k2, k3⟩ := KS.out _ rfl
      dsimp only [partB] at k1 k2 k3
      generalize (((w5.setCell ⟨w.heap.size, 0, none⟩ (.int .i64 y.b.n)).setCell ⟨w.heap.size, 1, none⟩ (.int .i64 (E + 1))).setCell ⟨w.heap.size, 2, none⟩ (.int .i64 y.b.hi)).setCell ⟨w.heap.size, 3, none⟩ (.slice fa5 (goB y.b (E + 1)).length fc5) = X at *
      have hik : Ik wr X := (KY.out.2.1.trans (Ik.of_below HB5.out)).trans k3
      have hEh : E < y.b.hi := by rw [HEE.out]; exact HLT.out
      have hEl : y.b.lo ≤ E := by have := HLO.out; rw [HEE.out]; have := HLT.out; omega
      refine ⟨rfl, ⟨_, O1 ++ [⟨⟨y.b.n, y.b.lo, E, y.b.u⟩, y.a, y.c⟩], ⟨partB y.b (E + 1) y.b.hi, fa5, fc5⟩, _, _, _, _, _, _, _, _, _, _, _, _, _, _, _, _, _, rfl, ?_, k1, ?_, HUT5.out.ik k3, ?_, ?_, ?_, ?_⟩, ?_⟩
      · exact own_grownD (own_belowD (own_fd HO4.out rfl) HB5.out (Nat.le_refl _)) k2 (fun g hg => by
          have e2 : g4 = g := by simpa [Value.ownBlock] using hg
          rw [← e2]
          exact HAT.out.1)
      · intro m hm
        rcases List.mem_append.1 hm with hm | hm
        · exact (HI.out.2.2.1 m hm).ik hik
        · rw [List.mem_singleton] at hm
          subst hm
          exact HI.out.2.2.2.1.ik hik
      · exact partB_sn hsy (by omega) (by omega) (Int.le_refl _)
      · rw [← HI.out.2.2.2.2.2.1, cutB_more HLT.out, ← HEE.out, pl_append, List.append_assoc]
        congr 1
        show [(⟨y.b.n, y.b.lo, E, y.b.u⟩ : Bp)] ++ _ = _
        rw [← partB_up y.b E]
        rfl
      · exact dgb_trans (dgb_trans KY.out.2.2.1 (dgb_below HB5.out _) (fun g e => .inl e)) k2 (fun g e => by injection e with e; exact .inr (Nat.le_of_eq e))
      · intro g hg
        have e2 : g4 = g := by simpa [Value.ownBlock] using hg
        rw [← e2]
        exact HAT.out.2
      · have q1 := k1.fb.c1
        have q2 := k1.fb.c2
        rw [Nat.zero_add] at q1 q2
        simp only [cellI, q1, q2]
        show (y.b.hi - (E + 1)).toNat < (y.b.hi - y.b.lo).toNat
        omega
    · have d1 : decide (rowE y.b < y.b.hi) = false := decide_eq_false hlt
      have HLT := Lib.hid hlt
      have HB1 := Lib.hid hb1
      have HX2 := Lib.hid hx2
      clear hlt hb1 hx2 KU KF
      go_wp2_with (at_builtin; refine wpList_append_lies _ rfl _ _ _ rfl base 25 i0 (.agg #[.int .i64 0, .int .i64 0, .int .i64 0, .slice none 0 0]) 4 48 Try.underlying22 hi0 hz0 hz1 hz2 rfl (by omega) _ _ _ rfl (hown2.alloc _) ⟨w1.heap.size, 0, none⟩ 1 1 (fq y) rfl rfl (World.news_of_block (heap_alloc_new w1 _)) (by intro u hu; exact dvs_one [y] u (by simpa [dvs] using hu)) (by omega) (by unfold maxLen; omega) (by omega) (by simp; have := HB1.out.size; have := HI.out.2.2.2.2.2.2.1.size; omega) _ rfl ?_; intro g4 cap4 w4 hown4 hgrow hat hgl)
      simp only [Exit.jump]
      go_ret
      have hgr := HI.out.2.2.2.2.2.2.1
      have bb := gr_from HB1.out hgrow
      have hik : Ik wr w4 := (Ik.of_below bb).trans (Ik.of_grown hgrow (fun g hg => own_tq (hown2.alloc _) hg))
      refine ⟨_, O1 ++ [y], rfl, own_fd hown4 rfl, ?_, ?_, dgb_trans (dgb_trans hgr (dgb_below bb _) (fun g e => .inl e)) hgrow (fun g e => (HI.out.2.2.2.2.2.2.2 g e).imp id Nat.le_of_lt), ?_⟩
      · rw [← HI.out.2.2.2.2.2.1, cutB_done (b := y.b) (Int.not_lt.2 HLT.out), pl_append]
        rfl
      · intro m hm
        rcases List.mem_append.1 hm with hm | hm
        · exact (HI.out.2.2.1 m hm).ik hik
        · rw [List.mem_singleton] at hm
          subst hm
          exact HI.out.2.2.2.1.ik hik
      · intro g hg
        have e2 : g4 = g := by simpa [Value.ownBlock] using hg
        rw [← e2]
        rcases hat with h | h
        · exact (HI.out.2.2.2.2.2.2.2 g4 h).imp id Nat.le_of_lt
        · right
          have h1 := HX2.out.lt
          rw [h]; simp; omega
end Go.Proofs.Ytkkochjdimegpaa
