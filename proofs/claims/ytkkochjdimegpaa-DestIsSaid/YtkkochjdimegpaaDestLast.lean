/-
  The program's own Last: a range over slices.Backward.
-/
import Derived.Test.YtkkochjdimegpaaDestBack
namespace Go.Proofs.Ytkkochjdimegpaa
open Go.RowKit Go.Shelf
attribute [local go_sem] Oper.semAt_some

theorem bkD_some {n v : Int} {x : List Int} : ∀ {w₀ : World} {l : List (Mw w₀)} {k : Nat} {s : Mw w₀}, k < l.length → (∀ p ∈ bkD l k, toB p.2.1.b n v = none) → l[l.length - 1 - k]? = some s → toB s.1.b n v = some x → lastB (l.map fun m => m.1.b) n v = some x := by
  intro w₀ l k s hk hnone hs hx
  have e : l = l.take (l.length - 1 - k) ++ (s :: l.drop (l.length - k)) := by
    have h1 := List.take_append_drop (l.length - 1 - k) l
    rw [List.drop_eq_getElem_cons (by omega)] at h1
    rw [List.getElem?_eq_getElem (by omega)] at hs
    injection hs with hs
    rw [hs, show l.length - 1 - k + 1 = l.length - k by omega] at h1
    exact h1.symm
  have hd : lastB ((l.drop (l.length - k)).map fun m => m.1.b) n v = none := lastB_none.2 fun q0 hq0 => by
    obtain ⟨q, hq, eq0⟩ := List.mem_map.1 hq0
    subst eq0
    obtain ⟨i, hi, ei⟩ := List.getElem_of_mem hq
    rw [List.length_drop] at hi
    rw [List.getElem_drop] at ei
    refine hnone ((l.length : Int) - 1 - ((k - 1 - i : Nat) : Int), q) ?_
    refine List.mem_map.2 ⟨k - 1 - i, List.mem_range.2 (by omega), ?_⟩
    rw [show l.length - 1 - (k - 1 - i) = l.length - k + i by omega, List.getElem?_eq_getElem (by omega), ei]
    rfl
  rw [e, List.map_append, lastB_append, List.map_cons, lastB, hd, hx]
  rfl
theorem bkD_none {n v : Int} {w₀ : World} {l : List (Mw w₀)} (hnone : ∀ p ∈ bkD l l.length, toB p.2.1.b n v = none) : lastB (l.map fun m => m.1.b) n v = none := lastB_none.2 fun q0 hq0 => by
  obtain ⟨q, hq, eq0⟩ := List.mem_map.1 hq0
  subst eq0
  obtain ⟨i, hi, ei⟩ := List.getElem_of_mem hq
  refine hnone ((l.length : Int) - 1 - ((l.length - 1 - i : Nat) : Int), q) ?_
  refine List.mem_map.2 ⟨l.length - 1 - i, List.mem_range.2 (by omega), ?_⟩
  rw [show l.length - 1 - (l.length - 1 - i) = i by omega, List.getElem?_eq_getElem hi, ei]
  rfl
theorem below_a4 (w : World) (o1 o2 o3 o4 : Obj) : Below w.heap.size w ((((w.alloc o1).alloc o2).alloc o3).alloc o4) := by
  have h : ∀ (B : Nat) (a b : World) (o : Obj), Below B a b → B ≤ b.heap.size → Below B a (b.alloc o) ∧ B ≤ (b.alloc o).heap.size := fun B a b o h1 h2 => ⟨h1.alloc h2 o, by rw [World.size_alloc]; omega⟩
  have h1 := h w.heap.size w w o1 (Below.refl _ _) (Nat.le_refl _)
  have h2 := h _ _ _ o2 h1.1 h1.2
  have h3 := h _ _ _ o3 h2.1 h2.2
  exact (h _ _ _ o4 h3.1 h3.2).1
theorem below_a3 (w : World) (o1 o2 o3 : Obj) : Below w.heap.size w (((w.alloc o1).alloc o2).alloc o3) := by
  have h : ∀ (B : Nat) (a b : World) (o : Obj), Below B a b → B ≤ b.heap.size → Below B a (b.alloc o) ∧ B ≤ (b.alloc o).heap.size := fun B a b o h1 h2 => ⟨h1.alloc h2 o, by rw [World.size_alloc]; omega⟩
  have h1 := h w.heap.size w w o1 (Below.refl _ _) (Nat.le_refl _)
  have h2 := h _ _ _ o2 h1.1 h1.2
  exact (h _ _ _ o3 h2.1 h2.2).1
/-- Blocks of ints stay where only blocks without cells are written. -/
theorem Ik.of_row {w w' : World} {row : Option Nat} (h : w.grownBy w' row) (hr : ∀ r, row = some r → ∃ o : Obj, w.heap[r]? = some o ∧ o.isCells = false) : Ik w w' := ⟨h.size, fun b cs f hb => (h.block b (Array.getElem?_eq_some_iff.1 hb).1 (fun e => by
  obtain ⟨o, h1, h2⟩ := hr b e.symm
  rw [hb] at h1
  injection h1 with h1
  subst h1
  cases h2)).trans hb⟩
/-- Blocks of ints stay where a box of another type is written. -/
theorem Ik.of_box {w : World} {g i : Nat} {v u : Value} {t : TypeId} (hg : Boxed w g t u) (ht : t ≠ 3) : Ik w (w.setCell ⟨g, i, none⟩ v) := ⟨by simp, fun b cs f hb => by
  rw [heap_setCell_other]
  · exact hb
  · show b ≠ g
    rintro rfl
    have h2 : w.heap[b]? = some (.cells #[u] t (0, 0)) := hg
    rw [hb] at h2
    injection h2 with h2
    injection h2 with _ h2
    exact ht h2.symm⟩
set_option maxRecDepth 100000 in
set_option maxHeartbeats 4000000 in
theorem dLast_any (A : Option Addr) (c : Nat) (l : List Me) (n v : Int) (w : World) (hA : Sd w A l) (hl : l.length ≤ 1048576) :
    Calls Try.prog 14 #[.slice A l.length c, .agg #[.int .i64 n, .int .i64 v]] w (RetO w (lastB (pl l) n v)) := by
  obtain ⟨l, rfl⟩ := mw_of hA.ul
  rw [List.length_map] at hl ⊢
  have epl : pl (l.map Subtype.val) = l.map fun m => m.1.b := by rw [pl, List.map_map]; rfl
  rw [epl]
  clear epl
  obtain ⟨r, hr⟩ : ∃ r, r = lastB (l.map fun m => m.1.b) n v := ⟨_, rfl⟩
  rw [← hr]
  have HR := Lib.hid hr
  clear hr
  obtain ⟨k, hk⟩ : ∃ k, k = l.length := ⟨_, rfl⟩
  have HK := Lib.hid hk
  have HA := Lib.hid hA
  have HL := Lib.hid hl
  rw [← hk]
  clear hk hA hl
  refine (callsIn_wide (n := 6)).1 ?_
  refine callsIn_of_wp_marks Try.func14 rfl trivial ?_
  simp only [Try.ntmps14, List.size_toArray, List.length_cons, List.length_nil, Nat.reduceAdd, Nat.reduceSub, Array.replicate_succ, Array.replicate_zero, List.push_toArray, List.append_toArray, List.nil_append, List.cons_append]
  gi_wp2_with (refine ⟨trivial, ?_⟩; gi_at_call 31; refine (dBack_in Fence.wide _ trivial rfl _ _ _ _).mono ?_; rintro e w' ⟨rfl, rfl⟩)
  have bC : Cd ((((w.alloc (.cells #[.int .i64 n, .int .i64 v] 27)).alloc (.cells #[.slice none 0 0] 23)).alloc (.cells #[.bool false] 4)).alloc (.cells #[.slice A k c] 22)) w.heap.size n v := (Cd.new w n v 27).below (below_a3 (w.alloc (.cells #[.int .i64 n, .int .i64 v] 27)) _ _ _) (by simp)
  have bI := ((Boxed.new (w.alloc (.cells #[.int .i64 n, .int .i64 v] 27)) 23 (.slice none 0 0)).alloc (.cells #[.bool false] 4)).alloc (.cells #[.slice A k c] 22)
  have bB := (Boxed.new ((w.alloc (.cells #[.int .i64 n, .int .i64 v] 27)).alloc (.cells #[.slice none 0 0] 23)) 4 (.bool false)).alloc (.cells #[.slice A k c] 22)
  have bA := Boxed.new (((w.alloc (.cells #[.int .i64 n, .int .i64 v] 27)).alloc (.cells #[.slice none 0 0] 23)).alloc (.cells #[.bool false] 4)) 22 (.slice A k c)
  simp only [World.size_alloc] at bI bB bA
  have hB0 : Below w.heap.size w ((((w.alloc (.cells #[.int .i64 n, .int .i64 v] 27)).alloc (.cells #[.slice none 0 0] 23)).alloc (.cells #[.bool false] 4)).alloc (.cells #[.slice A k c] 22)) := below_a4 w _ _ _ _
  have hsz : ((((w.alloc (.cells #[.int .i64 n, .int .i64 v] 27)).alloc (.cells #[.slice none 0 0] 23)).alloc (.cells #[.bool false] 4)).alloc (.cells #[.slice A k c] 22)).heap.size = w.heap.size + 4 := by simp
  obtain ⟨W0, hW0⟩ : ∃ W0, ((((w.alloc (.cells #[.int .i64 n, .int .i64 v] 27)).alloc (.cells #[.slice none 0 0] 23)).alloc (.cells #[.bool false] 4)).alloc (.cells #[.slice A k c] 22)) = W0 := ⟨_, rfl⟩
  rw [hW0] at bC bI bB bA hB0 hsz ⊢
  clear hW0
  have hck : W0.cell? ⟨w.heap.size + 1 + 1 + 1, 0, none⟩ = some (.slice A l.length c) := by rw [← HK.out]; exact bA.cell
  refine wpIn_rangeFunc_ownH rfl (by omega) (gf := 45) (lb := #[.pointer (some ⟨w.heap.size + 1 + 1 + 1, 0, none⟩)]) rfl trivial (enters_of Try.func45 (by kernel_rfl) rfl)
    (dBack_stops Fence.wide _ trivial rfl (by omega) (w.heap.size + 1 + 1 + 1) W0.heap.size A c l HL.out W0 (by omega) (Nat.le_refl _) hck ((HA.out.over hB0).rd.more (Nat.le_refl _))) belowK_t (belowK_b (Nat.le_refl _)) (Below.refl _ _) (fun _ => rfl)
    (fun pre W => (∀ p ∈ pre, toB p.2.1.b n v = none) ∧ Below W0.heap.size W0 W)
    (fun cd pre W => cd = .ret ∧ (∃ pre' x, pre = pre' ++ [x] ∧ (∀ p ∈ pre', toB p.2.1.b n v = none) ∧ ∃ y ya yc, toB x.2.1.b n v = some y ∧ Ut W ya yc y ∧ Boxed W (w.heap.size + 1) 23 (.slice ya y.length yc) ∧ Boxed W (w.heap.size + 1 + 1) 4 (.bool true)) ∧ Below w.heap.size w W)
    ?hI ?hIx ⟨fun p hp => (by cases hp), Below.refl _ _⟩
    (fun x a' W => ∃ Bz, W0.heap.size ≤ Bz ∧ Fb W Bz x.2.1 ∧ Bz < W.heap.size ∧ a' = { tmps := #[.slice A k c, .agg #[.int .i64 n, .int .i64 v], undef, .pointer (some ⟨w.heap.size, 0, none⟩), .pointer (some ⟨w.heap.size + 1, 0, none⟩), .pointer (some ⟨w.heap.size + 1 + 1, 0, none⟩), undef, .pointer (some ⟨Bz, 0, none⟩), undef, undef, .slice A k c, .func (.func 45) #[] #[.pointer (some ⟨w.heap.size + 1 + 1 + 1, 0, none⟩)], .int .i64 x.1, fv x.2.1, undef, undef, undef, undef, undef, undef, undef, undef], defers := [] })
    ?hAx ?assign ?body ?done ?stop
  case hI => exact OwnFrom.and (ownFrom_pure _ _) (ownFrom_below (Nat.le_refl _) (Nat.le_refl _))
  case hIx =>
    rintro cd pre X Y row ⟨h1, ⟨pre', x, h2, h3, y, ya, yc, h4, h8, h5, h6⟩, h7⟩ hg hr
    exact ⟨h1, ⟨pre', x, h2, h3, y, ya, yc, h4, h8.ik (Ik.of_row hg (fun r e => (hr r e).2)), boxed_own _ _ (fun (_ : Unit) => Value.slice ya y.length yc) () X Y row h5 hg (fun r e => (hr r e).2), boxed_own _ _ (fun (_ : Unit) => Value.bool true) () X Y row h6 hg (fun r e => (hr r e).2)⟩, ownFrom_below (β := Unit) (Nat.le_refl _) (by omega) () X Y row h7 hg hr⟩
  case hAx =>
    rintro x a' _ X Y row ⟨Bz, h1, h2, h3, h4⟩ hg hr
    have hr' : ∀ r, row = some r → ∃ o : Obj, X.heap[r]? = some o ∧ o.isCells = false := fun r e => (hr r e).2
    exact ⟨Bz, h1, ⟨cell_kept h2.c0 hg hr', cell_kept h2.c1 hg hr', cell_kept h2.c2 hg hr', cell_kept h2.c3 hg hr'⟩, Nat.lt_of_lt_of_le h3 hg.size, h4⟩
  case assign =>
    rintro q pre ⟨i, ⟨⟨⟨xn, xlo, xhi, xu⟩, xa, xc⟩, hxu⟩⟩ W K ⟨hn, hB1⟩ hK
    unfold bkW fv
    unfold fv at hK
    dsimp only
    dsimp only at hK
    gi_wp2
    exact hK _ _ ((KeepsOthers.alloc _ _).from _) ((Below.refl _ W).alloc hB1.size _) ⟨hn, hB1.alloc hB1.size _⟩ ⟨W.heap.size, hB1.size, Fb.new W ⟨⟨xn, xlo, xhi, xu⟩, xa, xc⟩ 25, by simp, rfl⟩
  case body =>
    rintro q pre ⟨i, ⟨x, hux⟩⟩ a' W hq ⟨rc, hrc⟩ ⟨hn, hB1⟩ ⟨Bz, hBz, ⟨c0, c1, c2, c3⟩, hBl, rfl⟩ hlt
    dsimp only at c0 c1 c2 c3
    simp only [Nat.zero_add] at c1 c2 c3
    have hbW : Below w.heap.size w W := hB0.trans (hB1.mono (by omega))
    have K1 := Lib.hid (DTo_any x n v W (hux.over hbW))
    have hC0 := (hB1.cell (p := ⟨w.heap.size, 0, none⟩) (by show w.heap.size < _; omega)).trans bC.c0
    have hC1 := (hB1.cell (p := ⟨w.heap.size, 1, none⟩) (by show w.heap.size < _; omega)).trans bC.c1
    have kf : ∀ W', Below W.heap.size W W' → KeepsFrom W0.heap.size W W' := fun W' hb => ⟨hb.size, fun j o _ h0 _ => (hb.block j (Array.getElem?_eq_some_iff.1 h0).1).trans h0⟩
    have KF := Lib.hid kf
    have HNN := Lib.hid hn
    cases ht : toB x.b n v with
    | none =>
      rw [ht] at K1
      unfold RetO fv at K1
      dsimp only at K1
      have HT := Lib.hid ht
      clear ht hn kf
      gi_wp2_with (refine ⟨trivial, ?_⟩; gi_at_call 12; refine (CallsIn.inRound q (callsIn_wide.2 K1.out)).mono ?_; rintro e w1 ⟨rfl, hb1⟩)
      exact ⟨KF.out _ hb1, hb1.mono hB1.size, fun p hp => by
        rcases List.mem_append.1 hp with hp | hp
        · exact HNN.out p hp
        · rw [List.mem_singleton] at hp
          rw [hp]
          exact HT.out, hB1.trans (hb1.mono hB1.size)⟩
    | some y =>
      rw [ht] at K1
      unfold RetO fv at K1
      dsimp only at K1
      have HT := Lib.hid ht
      clear ht hn kf
      have hI1 : Boxed W (w.heap.size + 1) 23 (.slice none 0 0) := (hB1.block _ (by omega)).trans bI
      have hB2 : Boxed W (w.heap.size + 1 + 1) 4 (.bool false) := (hB1.block _ (by omega)).trans bB
      have hsW := hB1.size
      gi_wp2_with (refine ⟨trivial, ?_⟩; gi_at_call 12; refine (CallsIn.inRound q (callsIn_wide.2 K1.out)).mono ?_; rintro e w1 ⟨⟨ya, yc, rfl, hut⟩, hb1⟩; have xI : Boxed w1 (w.heap.size + 1) 23 (.slice none 0 0) := (hb1.block _ (by omega)).trans hI1; have xB : Boxed w1 (w.heap.size + 1 + 1) 4 (.bool false) := (hb1.block _ (by omega)).trans hB2; have ci := xI.cell; have fi := xI.frozen; have cb := xB.cell; have fb := xB.frozen)
      refine ⟨((KF.out _ hb1).trans ((KeepsOthers.setCell _ _ _).from _)).trans ((KeepsOthers.setCell _ _ _).from _), rfl, ⟨pre, _, rfl, HNN.out, y, ya, yc, HT.out, (hut.ik (Ik.of_box xI (by decide))).ik (Ik.of_box (xB.other (by omega) _) (by decide)), ((xI.set _).other (by omega) _), ((xB.other (by omega) _).set _)⟩, ?_⟩
      exact (((hB0.trans (hB1.mono (by omega))).trans (hb1.mono (by omega))).setCell (p := ⟨w.heap.size + 1, 0, none⟩) (by show w.heap.size ≤ w.heap.size + 1; omega) _).setCell (p := ⟨w.heap.size + 1 + 1, 0, none⟩) (by show w.heap.size ≤ w.heap.size + 1 + 1; omega) _
  case done =>
    rintro D ys W hD rfl ⟨hn, hB1⟩ hK
    have xI : Boxed W (w.heap.size + 1) 23 (.slice none 0 0) := (hB1.block _ (by omega)).trans bI
    have xB : Boxed W (w.heap.size + 1 + 1) 4 (.bool false) := (hB1.block _ (by omega)).trans bB
    have ci := xI.cell
    have fi := xI.frozen
    have cb := xB.cell
    have fb := xB.frozen
    have HNN := Lib.hid (bkD_none hn)
    clear hn
    have yI := ((xI.set (.slice none 0 0)).other (B' := w.heap.size + 1 + 1) (by omega) (.bool false))
    have yB := ((xB.other (B' := w.heap.size + 1) (by omega) (.slice none 0 0)).set (.bool false))
    have hK2 : ((W.setCell ⟨w.heap.size + 1, 0, none⟩ (.slice none 0 0)).setCell ⟨w.heap.size + 1 + 1, 0, none⟩ (.bool false)).heap[D]? = some (.deferred (some [])) := (KeepsOthers.setCell _ _ _).same D _ ((KeepsOthers.setCell _ _ _).same D _ hK rfl) rfl
    have hbE : Below w.heap.size w ((W.setCell ⟨w.heap.size + 1, 0, none⟩ (.slice none 0 0)).setCell ⟨w.heap.size + 1 + 1, 0, none⟩ (.bool false)) := ((hB0.trans (hB1.mono (by omega))).setCell (p := ⟨w.heap.size + 1, 0, none⟩) (by show w.heap.size ≤ w.heap.size + 1; omega) _).setCell (p := ⟨w.heap.size + 1 + 1, 0, none⟩) (by show w.heap.size ≤ w.heap.size + 1 + 1; omega) _
    gi_wp2
    clear ci fi cb fb xI xB hK
    generalize (W.setCell ⟨w.heap.size + 1, 0, none⟩ (.slice none 0 0)).setCell ⟨w.heap.size + 1 + 1, 0, none⟩ (.bool false) = W2 at *
    have hgp : W2.grownBy (W2.putObj D (.deferred none)) (some D) := grownBy_putObj' W2 D (.deferred none)
    have g0 := cell_kept yI.cell hgp (fun r e => by cases e; exact ⟨_, hK2, rfl⟩)
    have g1 := cell_kept yB.cell hgp (fun r e => by cases e; exact ⟨_, hK2, rfl⟩)
    have hbF : Below w.heap.size w (W2.putObj D (.deferred none)) := hbE.trans (belowK_b (w := W0) (by omega) W2 D _ _ hD hK2 rfl rfl)
    refine ⟨by simp, .inl ⟨_, _, rfl, run_takeDeferred hK2, ?_⟩⟩
    generalize W2.putObj D (.deferred none) = W3 at *
    refine ⟨_, (by simp [results, Try.results14, go_sem, g0, g1]; try rfl), ?_⟩
    rw [HR.out, HNN.out]
    exact ⟨rfl, hbF⟩
  case stop =>
    rintro D cd pre W hD hpre ⟨rfl, ⟨pre', x, h2, h3, y, ya, yc, h4, h8, h5, h6⟩, h7⟩ hK
    have HL4 : Hid (lastB (l.map fun m => m.1.b) n v = some y) := Lib.hid (by
      obtain ⟨k', hk', ek⟩ := hpre
      cases k' with
      | zero => rw [h2] at ek; simp [bkD] at ek
      | succ k' =>
        rw [h2, bkD_succ] at ek
        obtain ⟨e1, e2⟩ := List.append_inj' ek rfl
        injection e2 with e2 _
        have hx := List.getElem?_eq_getElem (l := l) (i := l.length - 1 - k') (by omega)
        refine bkD_some (k := k') (by omega) (e1 ▸ h3) hx ?_
        rw [e2] at h4
        dsimp only at h4
        rw [hx] at h4
        exact h4)
    clear hpre h2 h3 h4
    have ci := h5.cell
    have cb := h6.cell
    gi_wp2
    have hgp : W.grownBy (W.putObj D (.deferred none)) (some D) := grownBy_putObj' W D (.deferred none)
    have g0 := cell_kept ci hgp (fun r e => by cases e; exact ⟨_, hK, rfl⟩)
    have g1 := cell_kept cb hgp (fun r e => by cases e; exact ⟨_, hK, rfl⟩)
    have g9 := h8.ik (Ik.of_row hgp (fun r e => by cases e; exact ⟨_, hK, rfl⟩))
    have hbF : Below w.heap.size w (W.putObj D (.deferred none)) := h7.trans (belowK_b (w := W0) (by omega) W D _ _ hD hK rfl rfl)
    refine ⟨by simp, .inl ⟨_, _, rfl, run_takeDeferred hK, ?_⟩⟩
    generalize W.putObj D (.deferred none) = W3 at *
    refine ⟨_, (by simp [results, Try.results14, go_sem, g0, g1]; try rfl), ?_⟩
    rw [HR.out, HL4.out]
    exact ⟨⟨ya, yc, rfl, g9⟩, hbF⟩
end Go.Proofs.Ytkkochjdimegpaa
