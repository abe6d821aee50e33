/-
  What a kind of item lists: the program's closures.
-/
import Derived.Test.YtmjneokjgcgchaaGreatSemSt
import Derived.Deep.RegionHeldLaw
namespace Go.Proofs.YtmjneokjgcgchaaGreat
open Go.RowKit

/-- An item as an argument. -/
def itv (x : Im) (xA : Option Addr) (xn xc : Nat) : Value := .agg #[.int .i64 x.kind, .int .i64 x.at_, .string (str x.name), .int .i64 x.val.kind, .int .i64 x.val.at_, .int .i64 x.val.n, .string (str x.val.s), .slice xA xn xc]
/-- The block that holds where the table lies. -/
def Pk (w : World) (P T : Nat) : Prop := w.heap[P]? = some (Obj.cells #[.pointer (some ⟨T, 0, none⟩)] 82 (0, 0))
theorem Pk.cell {w : World} {P T : Nat} (h : Pk w P T) : w.cell? ⟨P, 0, none⟩ = some (.pointer (some ⟨T, 0, none⟩)) := by
  unfold Pk at h
  simp [World.cell?, h]
/-- What a call that lists leaves. -/
def Lsd (w0 w : World) (T : Nat) (o : To) (G : Pg) (e : Ending) (w' : World) : Prop := e = .returned (.tuple #[]) ∧ ∃ t' a' o', Tp t' = G ∧ St w0 w' T t' a' o' ∧ Fr w w' T o
theorem lst_sp {p : Pg} {x : Im} (h : x.kind = 2) : lstI p x = { p with sp := p.sp ++ x.ents.map rcE } := by simp [lstI, nmI, wmI, h]
theorem lst_ci {p : Pg} {x : Im} (h : x.kind = 3 ∨ x.kind = 4) : lstI p x = { p with ci := p.ci ++ x.ents.map spE } := by rcases h with h | h <;> simp [lstI, nmI, wmI, h]
theorem lst_no {p : Pg} {x : Im} (h : x.kind = 5 ∨ x.kind = 6) : lstI p x = { p with no := p.no ++ x.ents.map spE } := by rcases h with h | h <;> simp [lstI, nmI, wmI, h]
theorem lst_bf {p : Pg} {x : Im} (h : x.kind = 7 ∨ x.kind = 8) : lstI p x = { p with bf := p.bf ++ x.ents.flatMap bfE } := by rcases h with h | h <;> simp [lstI, nmI, wmI, h]
theorem cell8 {w : World} {b : Nat} {t : TypeId} {f : Nat × Nat} {c0 c1 c2 c3 c4 c5 c6 c7 : Value} (h : w.heap[b]? = some (Obj.cells #[c0, c1, c2, c3, c4, c5, c6, c7] t f)) : w.cell? ⟨b, 7, none⟩ = some c7 := by
  simp [World.cell?, h]
set_option maxRecDepth 100000 in
set_option maxHeartbeats 4000000 in
theorem lst0_any {w0 w : World} {T P : Nat} {t : Tb} {a : Ta} {o : To} {x : Im} {xA : Option Addr} {xn xc : Nat} (h : St w0 w T t a o) (hP : Pk w P T) (hx : Ex w0 (fun _ => False) (.slice xA xn xc) x.ents) (hk : x.kind = 2) (hl : x.ents.length ≤ 10000) (ht : t.sp.length ≤ 10000) :
    Calls Tryz.prog 70 #[itv x xA xn xc, .pointer (some ⟨P, 0, none⟩)] w (Lsd w0 w T o (lstI (Tp t) x)) := by
  obtain ⟨i0, hi, hz0, hz1, hz2⟩ := info_parts infoR
  have hb1 : Below w.heap.size w (w.alloc (.cells #[.int .i64 x.kind, .int .i64 x.at_, .string (str x.name), .int .i64 x.val.kind, .int .i64 x.val.at_, .int .i64 x.val.n, .string (str x.val.s), .slice xA xn xc] 40)) := (Below.refl _ _).alloc (Nat.le_refl _) _
  have hP1 : P < w.heap.size := (Array.getElem?_eq_some_iff.1 hP).1
  have hPP := (hb1.block P hP1).trans hP
  have hX1 := heap_alloc_new w (.cells #[.int .i64 x.kind, .int .i64 x.at_, .string (str x.name), .int .i64 x.val.kind, .int .i64 x.val.at_, .int .i64 x.val.n, .string (str x.val.s), .slice xA xn xc] 40)
  have h1 := h.below hb1
  have HE := Lib.hid h.be
  have KC : Hid (∀ W, Below w0.heap.size w0 W → Calls Tryz.prog 71 #[.slice xA xn xc] W fun e w' => ∃ A c, e = .returned (.slice A x.ents.length c) ∧ (A = none → c = 0) ∧ Sr w' w'.heap.size A (x.ents.map rcE) ∧ Below W.heap.size W w') := Lib.hid fun W hW => rects_any W (Ex.any hx (Kp.of_below hW)) (by omega)
  have HH := Lib.hid h
  have HK := Lib.hid hk
  have HPX : Hid (P < (w.alloc (.cells #[.int .i64 x.kind, .int .i64 x.at_, .string (str x.name), .int .i64 x.val.kind, .int .i64 x.val.at_, .int .i64 x.val.n, .string (str x.val.s), .slice xA xn xc] 40)).heap.size ∧ w.heap.size < (w.alloc (.cells #[.int .i64 x.kind, .int .i64 x.at_, .string (str x.name), .int .i64 x.val.kind, .int .i64 x.val.at_, .int .i64 x.val.n, .string (str x.val.s), .slice xA xn xc] 40)).heap.size) := Lib.hid ⟨by simp; omega, by simp⟩
  have HBW : Hid (∀ w2, Below (w.alloc (.cells #[.int .i64 x.kind, .int .i64 x.at_, .string (str x.name), .int .i64 x.val.kind, .int .i64 x.val.at_, .int .i64 x.val.n, .string (str x.val.s), .slice xA xn xc] 40)).drew.heap.size (w.alloc (.cells #[.int .i64 x.kind, .int .i64 x.at_, .string (str x.name), .int .i64 x.val.kind, .int .i64 x.val.at_, .int .i64 x.val.n, .string (str x.val.s), .slice xA xn xc] 40)).drew w2 → Below w.heap.size w w2) := Lib.hid fun w2 k => hb1.drew.trans (k.mono (by show w.heap.size ≤ (World.alloc w _).heap.size; simp))
  have KA : Hid (∀ (w2 : World), Below w.heap.size w w2 → ∀ (A : Option Addr) (c : Nat), (A = none → c = 0) → Sr w2 w2.heap.size A (x.ents.map rcE) → ∃ A' c' w3 o', (Builtin.append_ #[23, 23] 23 #[.slice a.a0 t.sp.length a.c0, .slice A x.ents.length c]).run Tryz.prog w2 = .ok (.slice A' (t.sp.length + x.ents.length) c') w3 ∧ Av w3 w0.heap.size 62 3 A' (t.sp.length + x.ents.length) c' (rvs t.sp ++ rvs (x.ents.map rcE)) o' ∧ Ag w2 w3 w0.heap.size o.o0 o') := Lib.hid fun w2 hb A c _ hrd => by
    have h2 := h.below hb
    refine run_av (P := Tryz.prog) w2 23 23 w0.heap.size 62 i0 (.agg #[.int .i64 0, .int .i64 0, .int .i64 0]) 3 24 Tryz.underlying23 hi hz0 hz1 hz2 rfl (by omega) _ _ _ _ _ h2.sp A x.ents.length c (rvs (x.ents.map rcE)) (by simp [rvs_length]) (fun hn => Sr.cells hrd (by simpa using hn)) (rvs_one _) (fun e => ?_) (by unfold maxLen; omega) (by omega) h2.be.size
    subst e
    rcases Nat.eq_zero_or_pos (x.ents.length) with h0 | h0
    · exact h0
    · obtain ⟨ad, e, _⟩ := Sr.cells hrd (by simpa using h0)
      cases e
  have HFL := Lib.hid hl
  have KG : Hid (∀ (w2 w3 : World) (o' : Option Nat), Below w.heap.size w w2 → w2.heap[P]? = (w.alloc (.cells #[.int .i64 x.kind, .int .i64 x.at_, .string (str x.name), .int .i64 x.val.kind, .int .i64 x.val.at_, .int .i64 x.val.n, .string (str x.val.s), .slice xA xn xc] 40)).heap[P]? → w2.heap[w.heap.size]? = (w.alloc (.cells #[.int .i64 x.kind, .int .i64 x.at_, .string (str x.name), .int .i64 x.val.kind, .int .i64 x.val.at_, .int .i64 x.val.n, .string (str x.val.s), .slice xA xn xc] 40)).heap[w.heap.size]? → Ag w2 w3 w0.heap.size o.o0 o' → w3.heap[P]? = w2.heap[P]? ∧ w3.heap[w.heap.size]? = w2.heap[w.heap.size]? ∧ w3.cell? ⟨T, 2, none⟩ = some (.slice a.a0 t.sp.length a.c0) ∧ w3.frozen? ⟨T, 2, none⟩ = false) := Lib.hid fun w2 w3 o' hb e1 e2 hag => by
    have h2 := h.below hb
    have p2 := e1.trans hPP
    have x2 := e2.trans hX1
    have t3 : Tk6 w3 T t a := (hag.block T h2.tb.lt (h2.t0 h2.tb (by decide))).trans h2.tb
    exact ⟨hag.block P (Array.getElem?_eq_some_iff.1 p2).1 (h2.t0 p2 (by decide)), hag.block _ (Array.getElem?_eq_some_iff.1 x2).1 (h2.t0 x2 (by decide)), t3.cells.2.2.1, t3.frozen _⟩
  have KSet : Hid (∀ w3 : World, w3.heap[P]? = (w.alloc (.cells #[.int .i64 x.kind, .int .i64 x.at_, .string (str x.name), .int .i64 x.val.kind, .int .i64 x.val.at_, .int .i64 x.val.n, .string (str x.val.s), .slice xA xn xc] 40)).heap[P]? → w3.heap[w.heap.size]? = (w.alloc (.cells #[.int .i64 x.kind, .int .i64 x.at_, .string (str x.name), .int .i64 x.val.kind, .int .i64 x.val.at_, .int .i64 x.val.n, .string (str x.val.s), .slice xA xn xc] 40)).heap[w.heap.size]? → ∀ v, (w3.setCell ⟨T, 2, none⟩ v).cell? ⟨P, 0, none⟩ = some (.pointer (some ⟨T, 0, none⟩)) ∧ (w3.setCell ⟨T, 2, none⟩ v).cell? ⟨w.heap.size, 7, none⟩ = some (.slice xA xn xc)) := Lib.hid fun w3 e1 e2 v => by
    have p2 := e1.trans hPP
    have x2 := e2.trans hX1
    have nP : P ≠ T := typ_ne hPP h1.tb (by decide)
    have nX : w.heap.size ≠ T := typ_ne hX1 h1.tb (by decide)
    exact ⟨Pk.cell ((heap_setCell_other _ _ _ _ (show P ≠ T from nP)).trans p2), cell8 ((heap_setCell_other _ _ _ _ (show w.heap.size ≠ T from nX)).trans x2)⟩
  have HSS : Hid (∀ w' : World, w'.heap[P]? = (w.alloc (.cells #[.int .i64 x.kind, .int .i64 x.at_, .string (str x.name), .int .i64 x.val.kind, .int .i64 x.val.at_, .int .i64 x.val.n, .string (str x.val.s), .slice xA xn xc] 40)).heap[P]? → w'.heap[w.heap.size]? = (w.alloc (.cells #[.int .i64 x.kind, .int .i64 x.at_, .string (str x.name), .int .i64 x.val.kind, .int .i64 x.val.at_, .int .i64 x.val.n, .string (str x.val.s), .slice xA xn xc] 40)).heap[w.heap.size]? → w'.cell? ⟨P, 0, none⟩ = some (.pointer (some ⟨T, 0, none⟩)) ∧ w'.cell? ⟨w.heap.size, 7, none⟩ = some (.slice xA xn xc)) := Lib.hid fun w' e1 e2 => ⟨Pk.cell (e1.trans hPP), cell8 (e2.trans hX1)⟩
  have HB0 : Hid (Below w0.heap.size w0 (w.alloc (.cells #[.int .i64 x.kind, .int .i64 x.at_, .string (str x.name), .int .i64 x.val.kind, .int .i64 x.val.at_, .int .i64 x.val.n, .string (str x.val.s), .slice xA xn xc] 40))) := Lib.hid h1.be
  have HB1 := Lib.hid hb1
  have HT1 : Hid (∀ w' : World, Below w.heap.size w w' → w'.cell? ⟨T, 2, none⟩ = some (.slice a.a0 t.sp.length a.c0)) := Lib.hid fun w' hb => (h.below hb).tb.cells.2.2.1
  clear h hP hx hk hl ht h1 hPP hX1 hP1 hb1
  unfold itv
  go_enter Tryz.func70, Tryz.ntmps70
  go_wp2
  generalize hX : w.heap.size = X at *
  generalize (w.alloc (.cells #[.int .i64 x.kind, .int .i64 x.at_, .string (str x.name), .int .i64 x.val.kind, .int .i64 x.val.at_, .int .i64 x.val.n, .string (str x.val.s), .slice xA xn xc] 40)) = W1 at *
  refine wp_region_held_drew (S := fun w' => w'.cell? ⟨P, 0, none⟩ = some (.pointer (some ⟨T, 0, none⟩)) ∧ w'.cell? ⟨X, 7, none⟩ = some (.slice xA xn xc)) (by kernel_rfl) (HSS.out _ rfl rfl) (fun hS0 => ?_)
  try dsimp only at hS0
  refine wpAnyH_take (i := 0) (oi := { dst := some 3, op := Op.load 82 (Operand.tmp 1), type := 82, pos := "sem.go:55", after := #[], guard := none }) (v := ?_) rfl (by kernel_rfl) (by kernel_rfl) (by kernel_rfl) (fun _ _ _ h => h) (Or.inl ⟨by rfl, ?_⟩) (by assumption) ?_
  rotate_left
  · intro w' hSw; obtain ⟨d0, d1⟩ := hSw; go_simp; try with_reducible rfl
  simp only [Act.put, List.setIfInBounds_toArray, List.set_cons_zero, List.set_cons_succ]
  refine wpAnyH_take (i := 1) (oi := { dst := some 4, op := Op.load 82 (Operand.tmp 1), type := 82, pos := "sem.go:55", after := #[], guard := none }) (v := ?_) rfl (by kernel_rfl) (by kernel_rfl) (by kernel_rfl) (fun _ _ _ h => h) (Or.inl ⟨by rfl, ?_⟩) (by assumption) ?_
  rotate_left
  · intro w' hSw; obtain ⟨d0, d1⟩ := hSw; go_simp; try with_reducible rfl
  simp only [Act.put, List.setIfInBounds_toArray, List.set_cons_zero, List.set_cons_succ]
  refine wpAnyH_take (i := 2) (oi := { dst := some 5, op := Op.nilCheck (Operand.tmp 4), type := 0, pos := "sem.go:55", after := #[{ on := 1, ground := Ground.data }], guard := none }) (v := ?_) rfl (by kernel_rfl) (by kernel_rfl) (by kernel_rfl) (fun _ _ _ h => h) (Or.inl ⟨by rfl, ?_⟩) (by assumption) ?_
  rotate_left
  · intro w' hSw; obtain ⟨d0, d1⟩ := hSw; go_simp; try with_reducible rfl
  simp only [Act.put, List.setIfInBounds_toArray, List.set_cons_zero, List.set_cons_succ]
  refine wpAnyH_take (i := 3) (oi := { dst := some 6, op := Op.fieldAddr 33 (Operand.tmp 5) 2, type := 0, pos := "sem.go:55", after := #[{ on := 2, ground := Ground.data }], guard := none }) (v := ?_) rfl (by kernel_rfl) (by kernel_rfl) (by kernel_rfl) (fun _ _ _ h => h) (Or.inl ⟨by rfl, ?_⟩) (by assumption) ?_
  rotate_left
  · intro w' hSw; obtain ⟨d0, d1⟩ := hSw; go_simp; try with_reducible rfl
  simp only [Act.put, List.setIfInBounds_toArray, List.set_cons_zero, List.set_cons_succ]
  refine wpAnyH_take (i := 5) (oi := { dst := some 8, op := Op.fieldAddr 40 (Operand.tmp 2) 4, type := 0, pos := "sem.go:55", after := #[], guard := none }) (v := ?_) rfl (by kernel_rfl) (by kernel_rfl) (by kernel_rfl) (fun _ _ _ h => h) (Or.inl ⟨by rfl, ?_⟩) (by assumption) ?_
  rotate_left
  · intro w' hSw; obtain ⟨d0, d1⟩ := hSw; go_simp; try with_reducible rfl
  simp only [Act.put, List.setIfInBounds_toArray, List.set_cons_zero, List.set_cons_succ]
  refine wpAnyH_take (i := 6) (oi := { dst := some 9, op := Op.load 38 (Operand.tmp 8), type := 38, pos := "sem.go:55", after := #[{ on := 5, ground := Ground.data }], guard := none }) (v := ?_) rfl (by kernel_rfl) (by kernel_rfl) (by kernel_rfl) (fun _ _ _ h => h) (Or.inl ⟨by rfl, ?_⟩) (by assumption) ?_
  rotate_left
  · intro w' hSw; obtain ⟨d0, d1⟩ := hSw; go_simp; try with_reducible rfl
  simp only [Act.put, List.setIfInBounds_toArray, List.set_cons_zero, List.set_cons_succ]
  refine wpAnyH_ready (rs := [4, 7]) (by kernel_rfl) (by simp) (AllReadyH.cons rfl (fun K hK => ?_) (AllReadyH.cons rfl (fun K hK => ?_) AllReadyH.nil))
  · have q4 := HT1.out _ HB1.out.drew
    go_simp
    go_wp2_with fail
    refine hK.out _ _ (HSS.out _ rfl rfl) (fun hS4 => ?_)
    clear hK K hS4
    refine wpAnyH_ready (rs := [7]) (by kernel_rfl) (by simp) (AllReadyH.cons rfl (fun K hK => ?_) AllReadyH.nil)
    go_simp
    go_wp2_with (go_at_call 71; (with_reducible refine (KC.out _ HB0.out.drew).mono ?_); rintro e w2 ⟨A, c, rfl, hnil, hrd, hb2⟩)
    have hb := HBW.out _ hb2
    have g1 := hb2.block P HPX.out.1
    have g2 := hb2.block X HPX.out.2
    refine hK.out _ _ (HSS.out _ g1 g2) (fun hS7 => ?_)
    clear hK K hS7
    obtain ⟨A', c', w3, o', hrun, hav, hag⟩ := KA.out w2 hb A c hnil hrd
    refine wpAnyH_ready (rs := [8]) (by kernel_rfl) (by simp) (AllReadyH.cons rfl (fun K hK => ?_) AllReadyH.nil)
    refine step_av (by rfl) _ _ _ (by rfl) _ _ (by rfl) (by rfl) _ _ hrun ?_
    obtain ⟨g3, g4, q5, q6⟩ := KG.out _ _ _ hb g1 g2 hag
    refine hK.out _ _ (HSS.out _ (g3.trans g1) (g4.trans g2)) (fun hS8 => ?_)
    clear hK K
    refine wpAnyH_take (i := 9) (oi := { dst := some 12, op := Op.nilCheck (Operand.tmp 3), type := 0, pos := "sem.go:55", after := #[{ on := 0, ground := Ground.data }, { on := 0, ground := Ground.phase }, { on := 1, ground := Ground.phase }, { on := 2, ground := Ground.phase }, { on := 3, ground := Ground.phase }, { on := 4, ground := Ground.phase }, { on := 5, ground := Ground.phase }, { on := 6, ground := Ground.phase }, { on := 7, ground := Ground.phase }, { on := 8, ground := Ground.phase }], guard := none }) (v := ?_) rfl (by kernel_rfl) (by kernel_rfl) (by kernel_rfl) (fun _ _ _ h => h) (Or.inl ⟨by rfl, ?_⟩) (by assumption) ?_
    rotate_left
    · intro w' hSw; obtain ⟨d0, d1⟩ := hSw; go_simp; try with_reducible rfl
    refine wpAnyH_take (i := 10) (oi := { dst := some 13, op := Op.fieldAddr 33 (Operand.tmp 12) 2, type := 0, pos := "sem.go:55", after := #[{ on := 9, ground := Ground.data }, { on := 0, ground := Ground.phase }, { on := 1, ground := Ground.phase }, { on := 2, ground := Ground.phase }, { on := 3, ground := Ground.phase }, { on := 4, ground := Ground.phase }, { on := 5, ground := Ground.phase }, { on := 6, ground := Ground.phase }, { on := 7, ground := Ground.phase }, { on := 8, ground := Ground.phase }], guard := none }) (v := ?_) rfl (by kernel_rfl) (by kernel_rfl) (by kernel_rfl) (fun _ _ _ h => h) (Or.inl ⟨by rfl, ?_⟩) (by assumption) ?_
    rotate_left
    · intro w' hSw; obtain ⟨d0, d1⟩ := hSw; go_simp; try with_reducible rfl
    have KP := Lib.hid (St.put0 (n := t.sp.length + x.ents.length) (l := (x.ents.map rcE)) (by simp) HH.out (by rw [hX]; exact hb) (by rw [rvs_append]; exact hav) hag)
    have KS := Lib.hid (KSet.out _ (g3.trans g1) (g4.trans g2))
    clear hrun hav hag hrd hnil g1 g2 g3 g4 hb hb2
    clear hS8
    refine wpAnyH_ready (rs := [11]) (by kernel_rfl) (by simp) (AllReadyH.cons rfl (fun K hK => ?_) AllReadyH.nil)
    go_simp
    go_wp2_with fail
    refine hK.out _ _ (KS.out _) (fun hS11 => ?_)
    clear hK K hS11
    refine wpAnyH_done (by kernel_rfl) ?_ _
    go_wp2
    go_end0
    refine ⟨rfl, _, _, _, ?_, KP.out⟩
    rw [lst_sp HK.out]
    rfl
  · go_simp
    go_wp2_with (go_at_call 71; (with_reducible refine (KC.out _ HB0.out.drew).mono ?_); rintro e w2 ⟨A, c, rfl, hnil, hrd, hb2⟩)
    have hb := HBW.out _ hb2
    have g1 := hb2.block P HPX.out.1
    have g2 := hb2.block X HPX.out.2
    refine hK.out _ _ (HSS.out _ g1 g2) (fun hS7 => ?_)
    clear hK K hS7
    refine wpAnyH_ready (rs := [4]) (by kernel_rfl) (by simp) (AllReadyH.cons rfl (fun K hK => ?_) AllReadyH.nil)
    have q4 := HT1.out _ hb
    go_simp
    go_wp2_with fail
    refine hK.out _ _ (HSS.out _ g1 g2) (fun hS4 => ?_)
    clear hK K hS4
    obtain ⟨A', c', w3, o', hrun, hav, hag⟩ := KA.out w2 hb A c hnil hrd
    refine wpAnyH_ready (rs := [8]) (by kernel_rfl) (by simp) (AllReadyH.cons rfl (fun K hK => ?_) AllReadyH.nil)
    refine step_av (by rfl) _ _ _ (by rfl) _ _ (by rfl) (by rfl) _ _ hrun ?_
    obtain ⟨g3, g4, q5, q6⟩ := KG.out _ _ _ hb g1 g2 hag
    refine hK.out _ _ (HSS.out _ (g3.trans g1) (g4.trans g2)) (fun hS8 => ?_)
    clear hK K
    refine wpAnyH_take (i := 9) (oi := { dst := some 12, op := Op.nilCheck (Operand.tmp 3), type := 0, pos := "sem.go:55", after := #[{ on := 0, ground := Ground.data }, { on := 0, ground := Ground.phase }, { on := 1, ground := Ground.phase }, { on := 2, ground := Ground.phase }, { on := 3, ground := Ground.phase }, { on := 4, ground := Ground.phase }, { on := 5, ground := Ground.phase }, { on := 6, ground := Ground.phase }, { on := 7, ground := Ground.phase }, { on := 8, ground := Ground.phase }], guard := none }) (v := ?_) rfl (by kernel_rfl) (by kernel_rfl) (by kernel_rfl) (fun _ _ _ h => h) (Or.inl ⟨by rfl, ?_⟩) (by assumption) ?_
    rotate_left
    · intro w' hSw; obtain ⟨d0, d1⟩ := hSw; go_simp; try with_reducible rfl
    refine wpAnyH_take (i := 10) (oi := { dst := some 13, op := Op.fieldAddr 33 (Operand.tmp 12) 2, type := 0, pos := "sem.go:55", after := #[{ on := 9, ground := Ground.data }, { on := 0, ground := Ground.phase }, { on := 1, ground := Ground.phase }, { on := 2, ground := Ground.phase }, { on := 3, ground := Ground.phase }, { on := 4, ground := Ground.phase }, { on := 5, ground := Ground.phase }, { on := 6, ground := Ground.phase }, { on := 7, ground := Ground.phase }, { on := 8, ground := Ground.phase }], guard := none }) (v := ?_) rfl (by kernel_rfl) (by kernel_rfl) (by kernel_rfl) (fun _ _ _ h => h) (Or.inl ⟨by rfl, ?_⟩) (by assumption) ?_
    rotate_left
    · intro w' hSw; obtain ⟨d0, d1⟩ := hSw; go_simp; try with_reducible rfl
    have KP := Lib.hid (St.put0 (n := t.sp.length + x.ents.length) (l := (x.ents.map rcE)) (by simp) HH.out (by rw [hX]; exact hb) (by rw [rvs_append]; exact hav) hag)
    have KS := Lib.hid (KSet.out _ (g3.trans g1) (g4.trans g2))
    clear hrun hav hag hrd hnil g1 g2 g3 g4 hb hb2
    clear hS8
    refine wpAnyH_ready (rs := [11]) (by kernel_rfl) (by simp) (AllReadyH.cons rfl (fun K hK => ?_) AllReadyH.nil)
    go_simp
    go_wp2_with fail
    refine hK.out _ _ (KS.out _) (fun hS11 => ?_)
    clear hK K hS11
    refine wpAnyH_done (by kernel_rfl) ?_ _
    go_wp2
    go_end0
    refine ⟨rfl, _, _, _, ?_, KP.out⟩
    rw [lst_sp HK.out]
    rfl
set_option maxRecDepth 100000 in
set_option maxHeartbeats 4000000 in
theorem lst1_any {w0 w : World} {T P : Nat} {t : Tb} {a : Ta} {o : To} {x : Im} {xA : Option Addr} {xn xc : Nat} (h : St w0 w T t a o) (hP : Pk w P T) (hx : Ex w0 (fun _ => False) (.slice xA xn xc) x.ents) (hk : x.kind = 3 ∨ x.kind = 4) (hl : x.ents.length ≤ 10000) (ht : t.ci.length ≤ 10000) :
    Calls Tryz.prog 73 #[itv x xA xn xc, .pointer (some ⟨P, 0, none⟩)] w (Lsd w0 w T o (lstI (Tp t) x)) := by
  obtain ⟨i0, hi, hz0, hz1, hz2⟩ := info_parts infoS
  have hb1 : Below w.heap.size w (w.alloc (.cells #[.int .i64 x.kind, .int .i64 x.at_, .string (str x.name), .int .i64 x.val.kind, .int .i64 x.val.at_, .int .i64 x.val.n, .string (str x.val.s), .slice xA xn xc] 40)) := (Below.refl _ _).alloc (Nat.le_refl _) _
  have hP1 : P < w.heap.size := (Array.getElem?_eq_some_iff.1 hP).1
  have hPP := (hb1.block P hP1).trans hP
  have hX1 := heap_alloc_new w (.cells #[.int .i64 x.kind, .int .i64 x.at_, .string (str x.name), .int .i64 x.val.kind, .int .i64 x.val.at_, .int .i64 x.val.n, .string (str x.val.s), .slice xA xn xc] 40)
  have h1 := h.below hb1
  have HE := Lib.hid h.be
  have KC : Hid (∀ W, Below w0.heap.size w0 W → Calls Tryz.prog 74 #[.slice xA xn xc] W fun e w' => ∃ A c, e = .returned (.slice A x.ents.length c) ∧ (A = none → c = 0) ∧ Ss w' w'.heap.size A (x.ents.map spE) ∧ Below W.heap.size W w') := Lib.hid fun W hW => spans_any W (Ex.any hx (Kp.of_below hW)) (by omega)
  have HH := Lib.hid h
  have HK := Lib.hid hk
  have HPX : Hid (P < (w.alloc (.cells #[.int .i64 x.kind, .int .i64 x.at_, .string (str x.name), .int .i64 x.val.kind, .int .i64 x.val.at_, .int .i64 x.val.n, .string (str x.val.s), .slice xA xn xc] 40)).heap.size ∧ w.heap.size < (w.alloc (.cells #[.int .i64 x.kind, .int .i64 x.at_, .string (str x.name), .int .i64 x.val.kind, .int .i64 x.val.at_, .int .i64 x.val.n, .string (str x.val.s), .slice xA xn xc] 40)).heap.size) := Lib.hid ⟨by simp; omega, by simp⟩
  have HBW : Hid (∀ w2, Below (w.alloc (.cells #[.int .i64 x.kind, .int .i64 x.at_, .string (str x.name), .int .i64 x.val.kind, .int .i64 x.val.at_, .int .i64 x.val.n, .string (str x.val.s), .slice xA xn xc] 40)).drew.heap.size (w.alloc (.cells #[.int .i64 x.kind, .int .i64 x.at_, .string (str x.name), .int .i64 x.val.kind, .int .i64 x.val.at_, .int .i64 x.val.n, .string (str x.val.s), .slice xA xn xc] 40)).drew w2 → Below w.heap.size w w2) := Lib.hid fun w2 k => hb1.drew.trans (k.mono (by show w.heap.size ≤ (World.alloc w _).heap.size; simp))
  have KA : Hid (∀ (w2 : World), Below w.heap.size w w2 → ∀ (A : Option Addr) (c : Nat), (A = none → c = 0) → Ss w2 w2.heap.size A (x.ents.map spE) → ∃ A' c' w3 o', (Builtin.append_ #[24, 24] 24 #[.slice a.a1 t.ci.length a.c1, .slice A x.ents.length c]).run Tryz.prog w2 = .ok (.slice A' (t.ci.length + x.ents.length) c') w3 ∧ Av w3 w0.heap.size 87 4 A' (t.ci.length + x.ents.length) c' (svs t.ci ++ svs (x.ents.map spE)) o' ∧ Ag w2 w3 w0.heap.size o.o1 o') := Lib.hid fun w2 hb A c _ hrd => by
    have h2 := h.below hb
    refine run_av (P := Tryz.prog) w2 24 24 w0.heap.size 87 i0 (.agg #[.int .i64 0, .int .i64 0, .int .i64 0, .int .i64 0]) 4 32 Tryz.underlying24 hi hz0 hz1 hz2 rfl (by omega) _ _ _ _ _ h2.ci A x.ents.length c (svs (x.ents.map spE)) (by simp [svs_length]) (fun hn => Ss.cells hrd (by simpa using hn)) (svs_one _) (fun e => ?_) (by unfold maxLen; omega) (by omega) h2.be.size
    subst e
    rcases Nat.eq_zero_or_pos (x.ents.length) with h0 | h0
    · exact h0
    · obtain ⟨ad, e, _⟩ := Ss.cells hrd (by simpa using h0)
      cases e
  have HFL := Lib.hid hl
  have KG : Hid (∀ (w2 w3 : World) (o' : Option Nat), Below w.heap.size w w2 → w2.heap[P]? = (w.alloc (.cells #[.int .i64 x.kind, .int .i64 x.at_, .string (str x.name), .int .i64 x.val.kind, .int .i64 x.val.at_, .int .i64 x.val.n, .string (str x.val.s), .slice xA xn xc] 40)).heap[P]? → w2.heap[w.heap.size]? = (w.alloc (.cells #[.int .i64 x.kind, .int .i64 x.at_, .string (str x.name), .int .i64 x.val.kind, .int .i64 x.val.at_, .int .i64 x.val.n, .string (str x.val.s), .slice xA xn xc] 40)).heap[w.heap.size]? → Ag w2 w3 w0.heap.size o.o1 o' → w3.heap[P]? = w2.heap[P]? ∧ w3.heap[w.heap.size]? = w2.heap[w.heap.size]? ∧ w3.cell? ⟨T, 3, none⟩ = some (.slice a.a1 t.ci.length a.c1) ∧ w3.frozen? ⟨T, 3, none⟩ = false) := Lib.hid fun w2 w3 o' hb e1 e2 hag => by
    have h2 := h.below hb
    have p2 := e1.trans hPP
    have x2 := e2.trans hX1
    have t3 : Tk6 w3 T t a := (hag.block T h2.tb.lt (h2.t1 h2.tb (by decide))).trans h2.tb
    exact ⟨hag.block P (Array.getElem?_eq_some_iff.1 p2).1 (h2.t1 p2 (by decide)), hag.block _ (Array.getElem?_eq_some_iff.1 x2).1 (h2.t1 x2 (by decide)), t3.cells.2.2.2.1, t3.frozen _⟩
  have KSet : Hid (∀ w3 : World, w3.heap[P]? = (w.alloc (.cells #[.int .i64 x.kind, .int .i64 x.at_, .string (str x.name), .int .i64 x.val.kind, .int .i64 x.val.at_, .int .i64 x.val.n, .string (str x.val.s), .slice xA xn xc] 40)).heap[P]? → w3.heap[w.heap.size]? = (w.alloc (.cells #[.int .i64 x.kind, .int .i64 x.at_, .string (str x.name), .int .i64 x.val.kind, .int .i64 x.val.at_, .int .i64 x.val.n, .string (str x.val.s), .slice xA xn xc] 40)).heap[w.heap.size]? → ∀ v, (w3.setCell ⟨T, 3, none⟩ v).cell? ⟨P, 0, none⟩ = some (.pointer (some ⟨T, 0, none⟩)) ∧ (w3.setCell ⟨T, 3, none⟩ v).cell? ⟨w.heap.size, 7, none⟩ = some (.slice xA xn xc)) := Lib.hid fun w3 e1 e2 v => by
    have p2 := e1.trans hPP
    have x2 := e2.trans hX1
    have nP : P ≠ T := typ_ne hPP h1.tb (by decide)
    have nX : w.heap.size ≠ T := typ_ne hX1 h1.tb (by decide)
    exact ⟨Pk.cell ((heap_setCell_other _ _ _ _ (show P ≠ T from nP)).trans p2), cell8 ((heap_setCell_other _ _ _ _ (show w.heap.size ≠ T from nX)).trans x2)⟩
  have HSS : Hid (∀ w' : World, w'.heap[P]? = (w.alloc (.cells #[.int .i64 x.kind, .int .i64 x.at_, .string (str x.name), .int .i64 x.val.kind, .int .i64 x.val.at_, .int .i64 x.val.n, .string (str x.val.s), .slice xA xn xc] 40)).heap[P]? → w'.heap[w.heap.size]? = (w.alloc (.cells #[.int .i64 x.kind, .int .i64 x.at_, .string (str x.name), .int .i64 x.val.kind, .int .i64 x.val.at_, .int .i64 x.val.n, .string (str x.val.s), .slice xA xn xc] 40)).heap[w.heap.size]? → w'.cell? ⟨P, 0, none⟩ = some (.pointer (some ⟨T, 0, none⟩)) ∧ w'.cell? ⟨w.heap.size, 7, none⟩ = some (.slice xA xn xc)) := Lib.hid fun w' e1 e2 => ⟨Pk.cell (e1.trans hPP), cell8 (e2.trans hX1)⟩
  have HB0 : Hid (Below w0.heap.size w0 (w.alloc (.cells #[.int .i64 x.kind, .int .i64 x.at_, .string (str x.name), .int .i64 x.val.kind, .int .i64 x.val.at_, .int .i64 x.val.n, .string (str x.val.s), .slice xA xn xc] 40))) := Lib.hid h1.be
  have HB1 := Lib.hid hb1
  have HT1 : Hid (∀ w' : World, Below w.heap.size w w' → w'.cell? ⟨T, 3, none⟩ = some (.slice a.a1 t.ci.length a.c1)) := Lib.hid fun w' hb => (h.below hb).tb.cells.2.2.2.1
  clear h hP hx hk hl ht h1 hPP hX1 hP1 hb1
  unfold itv
  go_enter Tryz.func73, Tryz.ntmps73
  go_wp2
  generalize hX : w.heap.size = X at *
  generalize (w.alloc (.cells #[.int .i64 x.kind, .int .i64 x.at_, .string (str x.name), .int .i64 x.val.kind, .int .i64 x.val.at_, .int .i64 x.val.n, .string (str x.val.s), .slice xA xn xc] 40)) = W1 at *
  refine wp_region_held_drew (S := fun w' => w'.cell? ⟨P, 0, none⟩ = some (.pointer (some ⟨T, 0, none⟩)) ∧ w'.cell? ⟨X, 7, none⟩ = some (.slice xA xn xc)) (by kernel_rfl) (HSS.out _ rfl rfl) (fun hS0 => ?_)
  try dsimp only at hS0
  refine wpAnyH_take (i := 0) (oi := { dst := some 3, op := Op.load 82 (Operand.tmp 1), type := 82, pos := "sem.go:60", after := #[], guard := none }) (v := ?_) rfl (by kernel_rfl) (by kernel_rfl) (by kernel_rfl) (fun _ _ _ h => h) (Or.inl ⟨by rfl, ?_⟩) (by assumption) ?_
  rotate_left
  · intro w' hSw; obtain ⟨d0, d1⟩ := hSw; go_simp; try with_reducible rfl
  simp only [Act.put, List.setIfInBounds_toArray, List.set_cons_zero, List.set_cons_succ]
  refine wpAnyH_take (i := 1) (oi := { dst := some 4, op := Op.load 82 (Operand.tmp 1), type := 82, pos := "sem.go:60", after := #[], guard := none }) (v := ?_) rfl (by kernel_rfl) (by kernel_rfl) (by kernel_rfl) (fun _ _ _ h => h) (Or.inl ⟨by rfl, ?_⟩) (by assumption) ?_
  rotate_left
  · intro w' hSw; obtain ⟨d0, d1⟩ := hSw; go_simp; try with_reducible rfl
  simp only [Act.put, List.setIfInBounds_toArray, List.set_cons_zero, List.set_cons_succ]
  refine wpAnyH_take (i := 2) (oi := { dst := some 5, op := Op.nilCheck (Operand.tmp 4), type := 0, pos := "sem.go:60", after := #[{ on := 1, ground := Ground.data }], guard := none }) (v := ?_) rfl (by kernel_rfl) (by kernel_rfl) (by kernel_rfl) (fun _ _ _ h => h) (Or.inl ⟨by rfl, ?_⟩) (by assumption) ?_
  rotate_left
  · intro w' hSw; obtain ⟨d0, d1⟩ := hSw; go_simp; try with_reducible rfl
  simp only [Act.put, List.setIfInBounds_toArray, List.set_cons_zero, List.set_cons_succ]
  refine wpAnyH_take (i := 3) (oi := { dst := some 6, op := Op.fieldAddr 33 (Operand.tmp 5) 3, type := 0, pos := "sem.go:60", after := #[{ on := 2, ground := Ground.data }], guard := none }) (v := ?_) rfl (by kernel_rfl) (by kernel_rfl) (by kernel_rfl) (fun _ _ _ h => h) (Or.inl ⟨by rfl, ?_⟩) (by assumption) ?_
  rotate_left
  · intro w' hSw; obtain ⟨d0, d1⟩ := hSw; go_simp; try with_reducible rfl
  simp only [Act.put, List.setIfInBounds_toArray, List.set_cons_zero, List.set_cons_succ]
  refine wpAnyH_take (i := 5) (oi := { dst := some 8, op := Op.fieldAddr 40 (Operand.tmp 2) 4, type := 0, pos := "sem.go:60", after := #[], guard := none }) (v := ?_) rfl (by kernel_rfl) (by kernel_rfl) (by kernel_rfl) (fun _ _ _ h => h) (Or.inl ⟨by rfl, ?_⟩) (by assumption) ?_
  rotate_left
  · intro w' hSw; obtain ⟨d0, d1⟩ := hSw; go_simp; try with_reducible rfl
  simp only [Act.put, List.setIfInBounds_toArray, List.set_cons_zero, List.set_cons_succ]
  refine wpAnyH_take (i := 6) (oi := { dst := some 9, op := Op.load 38 (Operand.tmp 8), type := 38, pos := "sem.go:60", after := #[{ on := 5, ground := Ground.data }], guard := none }) (v := ?_) rfl (by kernel_rfl) (by kernel_rfl) (by kernel_rfl) (fun _ _ _ h => h) (Or.inl ⟨by rfl, ?_⟩) (by assumption) ?_
  rotate_left
  · intro w' hSw; obtain ⟨d0, d1⟩ := hSw; go_simp; try with_reducible rfl
  simp only [Act.put, List.setIfInBounds_toArray, List.set_cons_zero, List.set_cons_succ]
  refine wpAnyH_ready (rs := [4, 7]) (by kernel_rfl) (by simp) (AllReadyH.cons rfl (fun K hK => ?_) (AllReadyH.cons rfl (fun K hK => ?_) AllReadyH.nil))
  · have q4 := HT1.out _ HB1.out.drew
    go_simp
    go_wp2_with fail
    refine hK.out _ _ (HSS.out _ rfl rfl) (fun hS4 => ?_)
    clear hK K hS4
    refine wpAnyH_ready (rs := [7]) (by kernel_rfl) (by simp) (AllReadyH.cons rfl (fun K hK => ?_) AllReadyH.nil)
    go_simp
    go_wp2_with (go_at_call 74; (with_reducible refine (KC.out _ HB0.out.drew).mono ?_); rintro e w2 ⟨A, c, rfl, hnil, hrd, hb2⟩)
    have hb := HBW.out _ hb2
    have g1 := hb2.block P HPX.out.1
    have g2 := hb2.block X HPX.out.2
    refine hK.out _ _ (HSS.out _ g1 g2) (fun hS7 => ?_)
    clear hK K hS7
    obtain ⟨A', c', w3, o', hrun, hav, hag⟩ := KA.out w2 hb A c hnil hrd
    refine wpAnyH_ready (rs := [8]) (by kernel_rfl) (by simp) (AllReadyH.cons rfl (fun K hK => ?_) AllReadyH.nil)
    refine step_av (by rfl) _ _ _ (by rfl) _ _ (by rfl) (by rfl) _ _ hrun ?_
    obtain ⟨g3, g4, q5, q6⟩ := KG.out _ _ _ hb g1 g2 hag
    refine hK.out _ _ (HSS.out _ (g3.trans g1) (g4.trans g2)) (fun hS8 => ?_)
    clear hK K
    refine wpAnyH_take (i := 9) (oi := { dst := some 12, op := Op.nilCheck (Operand.tmp 3), type := 0, pos := "sem.go:60", after := #[{ on := 0, ground := Ground.data }, { on := 0, ground := Ground.phase }, { on := 1, ground := Ground.phase }, { on := 2, ground := Ground.phase }, { on := 3, ground := Ground.phase }, { on := 4, ground := Ground.phase }, { on := 5, ground := Ground.phase }, { on := 6, ground := Ground.phase }, { on := 7, ground := Ground.phase }, { on := 8, ground := Ground.phase }], guard := none }) (v := ?_) rfl (by kernel_rfl) (by kernel_rfl) (by kernel_rfl) (fun _ _ _ h => h) (Or.inl ⟨by rfl, ?_⟩) (by assumption) ?_
    rotate_left
    · intro w' hSw; obtain ⟨d0, d1⟩ := hSw; go_simp; try with_reducible rfl
    refine wpAnyH_take (i := 10) (oi := { dst := some 13, op := Op.fieldAddr 33 (Operand.tmp 12) 3, type := 0, pos := "sem.go:60", after := #[{ on := 9, ground := Ground.data }, { on := 0, ground := Ground.phase }, { on := 1, ground := Ground.phase }, { on := 2, ground := Ground.phase }, { on := 3, ground := Ground.phase }, { on := 4, ground := Ground.phase }, { on := 5, ground := Ground.phase }, { on := 6, ground := Ground.phase }, { on := 7, ground := Ground.phase }, { on := 8, ground := Ground.phase }], guard := none }) (v := ?_) rfl (by kernel_rfl) (by kernel_rfl) (by kernel_rfl) (fun _ _ _ h => h) (Or.inl ⟨by rfl, ?_⟩) (by assumption) ?_
    rotate_left
    · intro w' hSw; obtain ⟨d0, d1⟩ := hSw; go_simp; try with_reducible rfl
    have KP := Lib.hid (St.put1 (n := t.ci.length + x.ents.length) (l := (x.ents.map spE)) (by simp) HH.out (by rw [hX]; exact hb) (by rw [svs_append]; exact hav) hag)
    have KS := Lib.hid (KSet.out _ (g3.trans g1) (g4.trans g2))
    clear hrun hav hag hrd hnil g1 g2 g3 g4 hb hb2
    clear hS8
    refine wpAnyH_ready (rs := [11]) (by kernel_rfl) (by simp) (AllReadyH.cons rfl (fun K hK => ?_) AllReadyH.nil)
    go_simp
    go_wp2_with fail
    refine hK.out _ _ (KS.out _) (fun hS11 => ?_)
    clear hK K hS11
    refine wpAnyH_done (by kernel_rfl) ?_ _
    go_wp2
    go_end0
    refine ⟨rfl, _, _, _, ?_, KP.out⟩
    rw [lst_ci HK.out]
    rfl
  · go_simp
    go_wp2_with (go_at_call 74; (with_reducible refine (KC.out _ HB0.out.drew).mono ?_); rintro e w2 ⟨A, c, rfl, hnil, hrd, hb2⟩)
    have hb := HBW.out _ hb2
    have g1 := hb2.block P HPX.out.1
    have g2 := hb2.block X HPX.out.2
    refine hK.out _ _ (HSS.out _ g1 g2) (fun hS7 => ?_)
    clear hK K hS7
    refine wpAnyH_ready (rs := [4]) (by kernel_rfl) (by simp) (AllReadyH.cons rfl (fun K hK => ?_) AllReadyH.nil)
    have q4 := HT1.out _ hb
    go_simp
    go_wp2_with fail
    refine hK.out _ _ (HSS.out _ g1 g2) (fun hS4 => ?_)
    clear hK K hS4
    obtain ⟨A', c', w3, o', hrun, hav, hag⟩ := KA.out w2 hb A c hnil hrd
    refine wpAnyH_ready (rs := [8]) (by kernel_rfl) (by simp) (AllReadyH.cons rfl (fun K hK => ?_) AllReadyH.nil)
    refine step_av (by rfl) _ _ _ (by rfl) _ _ (by rfl) (by rfl) _ _ hrun ?_
    obtain ⟨g3, g4, q5, q6⟩ := KG.out _ _ _ hb g1 g2 hag
    refine hK.out _ _ (HSS.out _ (g3.trans g1) (g4.trans g2)) (fun hS8 => ?_)
    clear hK K
    refine wpAnyH_take (i := 9) (oi := { dst := some 12, op := Op.nilCheck (Operand.tmp 3), type := 0, pos := "sem.go:60", after := #[{ on := 0, ground := Ground.data }, { on := 0, ground := Ground.phase }, { on := 1, ground := Ground.phase }, { on := 2, ground := Ground.phase }, { on := 3, ground := Ground.phase }, { on := 4, ground := Ground.phase }, { on := 5, ground := Ground.phase }, { on := 6, ground := Ground.phase }, { on := 7, ground := Ground.phase }, { on := 8, ground := Ground.phase }], guard := none }) (v := ?_) rfl (by kernel_rfl) (by kernel_rfl) (by kernel_rfl) (fun _ _ _ h => h) (Or.inl ⟨by rfl, ?_⟩) (by assumption) ?_
    rotate_left
    · intro w' hSw; obtain ⟨d0, d1⟩ := hSw; go_simp; try with_reducible rfl
    refine wpAnyH_take (i := 10) (oi := { dst := some 13, op := Op.fieldAddr 33 (Operand.tmp 12) 3, type := 0, pos := "sem.go:60", after := #[{ on := 9, ground := Ground.data }, { on := 0, ground := Ground.phase }, { on := 1, ground := Ground.phase }, { on := 2, ground := Ground.phase }, { on := 3, ground := Ground.phase }, { on := 4, ground := Ground.phase }, { on := 5, ground := Ground.phase }, { on := 6, ground := Ground.phase }, { on := 7, ground := Ground.phase }, { on := 8, ground := Ground.phase }], guard := none }) (v := ?_) rfl (by kernel_rfl) (by kernel_rfl) (by kernel_rfl) (fun _ _ _ h => h) (Or.inl ⟨by rfl, ?_⟩) (by assumption) ?_
    rotate_left
    · intro w' hSw; obtain ⟨d0, d1⟩ := hSw; go_simp; try with_reducible rfl
    have KP := Lib.hid (St.put1 (n := t.ci.length + x.ents.length) (l := (x.ents.map spE)) (by simp) HH.out (by rw [hX]; exact hb) (by rw [svs_append]; exact hav) hag)
    have KS := Lib.hid (KSet.out _ (g3.trans g1) (g4.trans g2))
    clear hrun hav hag hrd hnil g1 g2 g3 g4 hb hb2
    clear hS8
    refine wpAnyH_ready (rs := [11]) (by kernel_rfl) (by simp) (AllReadyH.cons rfl (fun K hK => ?_) AllReadyH.nil)
    go_simp
    go_wp2_with fail
    refine hK.out _ _ (KS.out _) (fun hS11 => ?_)
    clear hK K hS11
    refine wpAnyH_done (by kernel_rfl) ?_ _
    go_wp2
    go_end0
    refine ⟨rfl, _, _, _, ?_, KP.out⟩
    rw [lst_ci HK.out]
    rfl
set_option maxRecDepth 100000 in
set_option maxHeartbeats 4000000 in
theorem lst2_any {w0 w : World} {T P : Nat} {t : Tb} {a : Ta} {o : To} {x : Im} {xA : Option Addr} {xn xc : Nat} (h : St w0 w T t a o) (hP : Pk w P T) (hx : Ex w0 (fun _ => False) (.slice xA xn xc) x.ents) (hk : x.kind = 5 ∨ x.kind = 6) (hl : x.ents.length ≤ 10000) (ht : t.no.length ≤ 10000) :
    Calls Tryz.prog 77 #[itv x xA xn xc, .pointer (some ⟨P, 0, none⟩)] w (Lsd w0 w T o (lstI (Tp t) x)) := by
  obtain ⟨i0, hi, hz0, hz1, hz2⟩ := info_parts infoS
  have hb1 : Below w.heap.size w (w.alloc (.cells #[.int .i64 x.kind, .int .i64 x.at_, .string (str x.name), .int .i64 x.val.kind, .int .i64 x.val.at_, .int .i64 x.val.n, .string (str x.val.s), .slice xA xn xc] 40)) := (Below.refl _ _).alloc (Nat.le_refl _) _
  have hP1 : P < w.heap.size := (Array.getElem?_eq_some_iff.1 hP).1
  have hPP := (hb1.block P hP1).trans hP
  have hX1 := heap_alloc_new w (.cells #[.int .i64 x.kind, .int .i64 x.at_, .string (str x.name), .int .i64 x.val.kind, .int .i64 x.val.at_, .int .i64 x.val.n, .string (str x.val.s), .slice xA xn xc] 40)
  have h1 := h.below hb1
  have HE := Lib.hid h.be
  have KC : Hid (∀ W, Below w0.heap.size w0 W → Calls Tryz.prog 74 #[.slice xA xn xc] W fun e w' => ∃ A c, e = .returned (.slice A x.ents.length c) ∧ (A = none → c = 0) ∧ Ss w' w'.heap.size A (x.ents.map spE) ∧ Below W.heap.size W w') := Lib.hid fun W hW => spans_any W (Ex.any hx (Kp.of_below hW)) (by omega)
  have HH := Lib.hid h
  have HK := Lib.hid hk
  have HPX : Hid (P < (w.alloc (.cells #[.int .i64 x.kind, .int .i64 x.at_, .string (str x.name), .int .i64 x.val.kind, .int .i64 x.val.at_, .int .i64 x.val.n, .string (str x.val.s), .slice xA xn xc] 40)).heap.size ∧ w.heap.size < (w.alloc (.cells #[.int .i64 x.kind, .int .i64 x.at_, .string (str x.name), .int .i64 x.val.kind, .int .i64 x.val.at_, .int .i64 x.val.n, .string (str x.val.s), .slice xA xn xc] 40)).heap.size) := Lib.hid ⟨by simp; omega, by simp⟩
  have HBW : Hid (∀ w2, Below (w.alloc (.cells #[.int .i64 x.kind, .int .i64 x.at_, .string (str x.name), .int .i64 x.val.kind, .int .i64 x.val.at_, .int .i64 x.val.n, .string (str x.val.s), .slice xA xn xc] 40)).drew.heap.size (w.alloc (.cells #[.int .i64 x.kind, .int .i64 x.at_, .string (str x.name), .int .i64 x.val.kind, .int .i64 x.val.at_, .int .i64 x.val.n, .string (str x.val.s), .slice xA xn xc] 40)).drew w2 → Below w.heap.size w w2) := Lib.hid fun w2 k => hb1.drew.trans (k.mono (by show w.heap.size ≤ (World.alloc w _).heap.size; simp))
  have KA : Hid (∀ (w2 : World), Below w.heap.size w w2 → ∀ (A : Option Addr) (c : Nat), (A = none → c = 0) → Ss w2 w2.heap.size A (x.ents.map spE) → ∃ A' c' w3 o', (Builtin.append_ #[24, 24] 24 #[.slice a.a2 t.no.length a.c2, .slice A x.ents.length c]).run Tryz.prog w2 = .ok (.slice A' (t.no.length + x.ents.length) c') w3 ∧ Av w3 w0.heap.size 87 4 A' (t.no.length + x.ents.length) c' (svs t.no ++ svs (x.ents.map spE)) o' ∧ Ag w2 w3 w0.heap.size o.o2 o') := Lib.hid fun w2 hb A c _ hrd => by
    have h2 := h.below hb
    refine run_av (P := Tryz.prog) w2 24 24 w0.heap.size 87 i0 (.agg #[.int .i64 0, .int .i64 0, .int .i64 0, .int .i64 0]) 4 32 Tryz.underlying24 hi hz0 hz1 hz2 rfl (by omega) _ _ _ _ _ h2.no A x.ents.length c (svs (x.ents.map spE)) (by simp [svs_length]) (fun hn => Ss.cells hrd (by simpa using hn)) (svs_one _) (fun e => ?_) (by unfold maxLen; omega) (by omega) h2.be.size
    subst e
    rcases Nat.eq_zero_or_pos (x.ents.length) with h0 | h0
    · exact h0
    · obtain ⟨ad, e, _⟩ := Ss.cells hrd (by simpa using h0)
      cases e
  have HFL := Lib.hid hl
  have KG : Hid (∀ (w2 w3 : World) (o' : Option Nat), Below w.heap.size w w2 → w2.heap[P]? = (w.alloc (.cells #[.int .i64 x.kind, .int .i64 x.at_, .string (str x.name), .int .i64 x.val.kind, .int .i64 x.val.at_, .int .i64 x.val.n, .string (str x.val.s), .slice xA xn xc] 40)).heap[P]? → w2.heap[w.heap.size]? = (w.alloc (.cells #[.int .i64 x.kind, .int .i64 x.at_, .string (str x.name), .int .i64 x.val.kind, .int .i64 x.val.at_, .int .i64 x.val.n, .string (str x.val.s), .slice xA xn xc] 40)).heap[w.heap.size]? → Ag w2 w3 w0.heap.size o.o2 o' → w3.heap[P]? = w2.heap[P]? ∧ w3.heap[w.heap.size]? = w2.heap[w.heap.size]? ∧ w3.cell? ⟨T, 4, none⟩ = some (.slice a.a2 t.no.length a.c2) ∧ w3.frozen? ⟨T, 4, none⟩ = false) := Lib.hid fun w2 w3 o' hb e1 e2 hag => by
    have h2 := h.below hb
    have p2 := e1.trans hPP
    have x2 := e2.trans hX1
    have t3 : Tk6 w3 T t a := (hag.block T h2.tb.lt (h2.t2 h2.tb (by decide))).trans h2.tb
    exact ⟨hag.block P (Array.getElem?_eq_some_iff.1 p2).1 (h2.t2 p2 (by decide)), hag.block _ (Array.getElem?_eq_some_iff.1 x2).1 (h2.t2 x2 (by decide)), t3.cells.2.2.2.2.1, t3.frozen _⟩
  have KSet : Hid (∀ w3 : World, w3.heap[P]? = (w.alloc (.cells #[.int .i64 x.kind, .int .i64 x.at_, .string (str x.name), .int .i64 x.val.kind, .int .i64 x.val.at_, .int .i64 x.val.n, .string (str x.val.s), .slice xA xn xc] 40)).heap[P]? → w3.heap[w.heap.size]? = (w.alloc (.cells #[.int .i64 x.kind, .int .i64 x.at_, .string (str x.name), .int .i64 x.val.kind, .int .i64 x.val.at_, .int .i64 x.val.n, .string (str x.val.s), .slice xA xn xc] 40)).heap[w.heap.size]? → ∀ v, (w3.setCell ⟨T, 4, none⟩ v).cell? ⟨P, 0, none⟩ = some (.pointer (some ⟨T, 0, none⟩)) ∧ (w3.setCell ⟨T, 4, none⟩ v).cell? ⟨w.heap.size, 7, none⟩ = some (.slice xA xn xc)) := Lib.hid fun w3 e1 e2 v => by
    have p2 := e1.trans hPP
    have x2 := e2.trans hX1
    have nP : P ≠ T := typ_ne hPP h1.tb (by decide)
    have nX : w.heap.size ≠ T := typ_ne hX1 h1.tb (by decide)
    exact ⟨Pk.cell ((heap_setCell_other _ _ _ _ (show P ≠ T from nP)).trans p2), cell8 ((heap_setCell_other _ _ _ _ (show w.heap.size ≠ T from nX)).trans x2)⟩
  have HSS : Hid (∀ w' : World, w'.heap[P]? = (w.alloc (.cells #[.int .i64 x.kind, .int .i64 x.at_, .string (str x.name), .int .i64 x.val.kind, .int .i64 x.val.at_, .int .i64 x.val.n, .string (str x.val.s), .slice xA xn xc] 40)).heap[P]? → w'.heap[w.heap.size]? = (w.alloc (.cells #[.int .i64 x.kind, .int .i64 x.at_, .string (str x.name), .int .i64 x.val.kind, .int .i64 x.val.at_, .int .i64 x.val.n, .string (str x.val.s), .slice xA xn xc] 40)).heap[w.heap.size]? → w'.cell? ⟨P, 0, none⟩ = some (.pointer (some ⟨T, 0, none⟩)) ∧ w'.cell? ⟨w.heap.size, 7, none⟩ = some (.slice xA xn xc)) := Lib.hid fun w' e1 e2 => ⟨Pk.cell (e1.trans hPP), cell8 (e2.trans hX1)⟩
  have HB0 : Hid (Below w0.heap.size w0 (w.alloc (.cells #[.int .i64 x.kind, .int .i64 x.at_, .string (str x.name), .int .i64 x.val.kind, .int .i64 x.val.at_, .int .i64 x.val.n, .string (str x.val.s), .slice xA xn xc] 40))) := Lib.hid h1.be
  have HB1 := Lib.hid hb1
  have HT1 : Hid (∀ w' : World, Below w.heap.size w w' → w'.cell? ⟨T, 4, none⟩ = some (.slice a.a2 t.no.length a.c2)) := Lib.hid fun w' hb => (h.below hb).tb.cells.2.2.2.2.1
  clear h hP hx hk hl ht h1 hPP hX1 hP1 hb1
  unfold itv
  go_enter Tryz.func77, Tryz.ntmps77
  go_wp2
  generalize hX : w.heap.size = X at *
  generalize (w.alloc (.cells #[.int .i64 x.kind, .int .i64 x.at_, .string (str x.name), .int .i64 x.val.kind, .int .i64 x.val.at_, .int .i64 x.val.n, .string (str x.val.s), .slice xA xn xc] 40)) = W1 at *
  refine wp_region_held_drew (S := fun w' => w'.cell? ⟨P, 0, none⟩ = some (.pointer (some ⟨T, 0, none⟩)) ∧ w'.cell? ⟨X, 7, none⟩ = some (.slice xA xn xc)) (by kernel_rfl) (HSS.out _ rfl rfl) (fun hS0 => ?_)
  try dsimp only at hS0
  refine wpAnyH_take (i := 0) (oi := { dst := some 3, op := Op.load 82 (Operand.tmp 1), type := 82, pos := "sem.go:65", after := #[], guard := none }) (v := ?_) rfl (by kernel_rfl) (by kernel_rfl) (by kernel_rfl) (fun _ _ _ h => h) (Or.inl ⟨by rfl, ?_⟩) (by assumption) ?_
  rotate_left
  · intro w' hSw; obtain ⟨d0, d1⟩ := hSw; go_simp; try with_reducible rfl
  simp only [Act.put, List.setIfInBounds_toArray, List.set_cons_zero, List.set_cons_succ]
  refine wpAnyH_take (i := 1) (oi := { dst := some 4, op := Op.load 82 (Operand.tmp 1), type := 82, pos := "sem.go:65", after := #[], guard := none }) (v := ?_) rfl (by kernel_rfl) (by kernel_rfl) (by kernel_rfl) (fun _ _ _ h => h) (Or.inl ⟨by rfl, ?_⟩) (by assumption) ?_
  rotate_left
  · intro w' hSw; obtain ⟨d0, d1⟩ := hSw; go_simp; try with_reducible rfl
  simp only [Act.put, List.setIfInBounds_toArray, List.set_cons_zero, List.set_cons_succ]
  refine wpAnyH_take (i := 2) (oi := { dst := some 5, op := Op.nilCheck (Operand.tmp 4), type := 0, pos := "sem.go:65", after := #[{ on := 1, ground := Ground.data }], guard := none }) (v := ?_) rfl (by kernel_rfl) (by kernel_rfl) (by kernel_rfl) (fun _ _ _ h => h) (Or.inl ⟨by rfl, ?_⟩) (by assumption) ?_
  rotate_left
  · intro w' hSw; obtain ⟨d0, d1⟩ := hSw; go_simp; try with_reducible rfl
  simp only [Act.put, List.setIfInBounds_toArray, List.set_cons_zero, List.set_cons_succ]
  refine wpAnyH_take (i := 3) (oi := { dst := some 6, op := Op.fieldAddr 33 (Operand.tmp 5) 4, type := 0, pos := "sem.go:65", after := #[{ on := 2, ground := Ground.data }], guard := none }) (v := ?_) rfl (by kernel_rfl) (by kernel_rfl) (by kernel_rfl) (fun _ _ _ h => h) (Or.inl ⟨by rfl, ?_⟩) (by assumption) ?_
  rotate_left
  · intro w' hSw; obtain ⟨d0, d1⟩ := hSw; go_simp; try with_reducible rfl
  simp only [Act.put, List.setIfInBounds_toArray, List.set_cons_zero, List.set_cons_succ]
  refine wpAnyH_take (i := 5) (oi := { dst := some 8, op := Op.fieldAddr 40 (Operand.tmp 2) 4, type := 0, pos := "sem.go:65", after := #[], guard := none }) (v := ?_) rfl (by kernel_rfl) (by kernel_rfl) (by kernel_rfl) (fun _ _ _ h => h) (Or.inl ⟨by rfl, ?_⟩) (by assumption) ?_
  rotate_left
  · intro w' hSw; obtain ⟨d0, d1⟩ := hSw; go_simp; try with_reducible rfl
  simp only [Act.put, List.setIfInBounds_toArray, List.set_cons_zero, List.set_cons_succ]
  refine wpAnyH_take (i := 6) (oi := { dst := some 9, op := Op.load 38 (Operand.tmp 8), type := 38, pos := "sem.go:65", after := #[{ on := 5, ground := Ground.data }], guard := none }) (v := ?_) rfl (by kernel_rfl) (by kernel_rfl) (by kernel_rfl) (fun _ _ _ h => h) (Or.inl ⟨by rfl, ?_⟩) (by assumption) ?_
  rotate_left
  · intro w' hSw; obtain ⟨d0, d1⟩ := hSw; go_simp; try with_reducible rfl
  simp only [Act.put, List.setIfInBounds_toArray, List.set_cons_zero, List.set_cons_succ]
  refine wpAnyH_ready (rs := [4, 7]) (by kernel_rfl) (by simp) (AllReadyH.cons rfl (fun K hK => ?_) (AllReadyH.cons rfl (fun K hK => ?_) AllReadyH.nil))
  · have q4 := HT1.out _ HB1.out.drew
    go_simp
    go_wp2_with fail
    refine hK.out _ _ (HSS.out _ rfl rfl) (fun hS4 => ?_)
    clear hK K hS4
    refine wpAnyH_ready (rs := [7]) (by kernel_rfl) (by simp) (AllReadyH.cons rfl (fun K hK => ?_) AllReadyH.nil)
    go_simp
    go_wp2_with (go_at_call 74; (with_reducible refine (KC.out _ HB0.out.drew).mono ?_); rintro e w2 ⟨A, c, rfl, hnil, hrd, hb2⟩)
    have hb := HBW.out _ hb2
    have g1 := hb2.block P HPX.out.1
    have g2 := hb2.block X HPX.out.2
    refine hK.out _ _ (HSS.out _ g1 g2) (fun hS7 => ?_)
    clear hK K hS7
    obtain ⟨A', c', w3, o', hrun, hav, hag⟩ := KA.out w2 hb A c hnil hrd
    refine wpAnyH_ready (rs := [8]) (by kernel_rfl) (by simp) (AllReadyH.cons rfl (fun K hK => ?_) AllReadyH.nil)
    refine step_av (by rfl) _ _ _ (by rfl) _ _ (by rfl) (by rfl) _ _ hrun ?_
    obtain ⟨g3, g4, q5, q6⟩ := KG.out _ _ _ hb g1 g2 hag
    refine hK.out _ _ (HSS.out _ (g3.trans g1) (g4.trans g2)) (fun hS8 => ?_)
    clear hK K
    refine wpAnyH_take (i := 9) (oi := { dst := some 12, op := Op.nilCheck (Operand.tmp 3), type := 0, pos := "sem.go:65", after := #[{ on := 0, ground := Ground.data }, { on := 0, ground := Ground.phase }, { on := 1, ground := Ground.phase }, { on := 2, ground := Ground.phase }, { on := 3, ground := Ground.phase }, { on := 4, ground := Ground.phase }, { on := 5, ground := Ground.phase }, { on := 6, ground := Ground.phase }, { on := 7, ground := Ground.phase }, { on := 8, ground := Ground.phase }], guard := none }) (v := ?_) rfl (by kernel_rfl) (by kernel_rfl) (by kernel_rfl) (fun _ _ _ h => h) (Or.inl ⟨by rfl, ?_⟩) (by assumption) ?_
    rotate_left
    · intro w' hSw; obtain ⟨d0, d1⟩ := hSw; go_simp; try with_reducible rfl
    refine wpAnyH_take (i := 10) (oi := { dst := some 13, op := Op.fieldAddr 33 (Operand.tmp 12) 4, type := 0, pos := "sem.go:65", after := #[{ on := 9, ground := Ground.data }, { on := 0, ground := Ground.phase }, { on := 1, ground := Ground.phase }, { on := 2, ground := Ground.phase }, { on := 3, ground := Ground.phase }, { on := 4, ground := Ground.phase }, { on := 5, ground := Ground.phase }, { on := 6, ground := Ground.phase }, { on := 7, ground := Ground.phase }, { on := 8, ground := Ground.phase }], guard := none }) (v := ?_) rfl (by kernel_rfl) (by kernel_rfl) (by kernel_rfl) (fun _ _ _ h => h) (Or.inl ⟨by rfl, ?_⟩) (by assumption) ?_
    rotate_left
    · intro w' hSw; obtain ⟨d0, d1⟩ := hSw; go_simp; try with_reducible rfl
    have KP := Lib.hid (St.put2 (n := t.no.length + x.ents.length) (l := (x.ents.map spE)) (by simp) HH.out (by rw [hX]; exact hb) (by rw [svs_append]; exact hav) hag)
    have KS := Lib.hid (KSet.out _ (g3.trans g1) (g4.trans g2))
    clear hrun hav hag hrd hnil g1 g2 g3 g4 hb hb2
    clear hS8
    refine wpAnyH_ready (rs := [11]) (by kernel_rfl) (by simp) (AllReadyH.cons rfl (fun K hK => ?_) AllReadyH.nil)
    go_simp
    go_wp2_with fail
    refine hK.out _ _ (KS.out _) (fun hS11 => ?_)
    clear hK K hS11
    refine wpAnyH_done (by kernel_rfl) ?_ _
    go_wp2
    go_end0
    refine ⟨rfl, _, _, _, ?_, KP.out⟩
    rw [lst_no HK.out]
    rfl
  · go_simp
    go_wp2_with (go_at_call 74; (with_reducible refine (KC.out _ HB0.out.drew).mono ?_); rintro e w2 ⟨A, c, rfl, hnil, hrd, hb2⟩)
    have hb := HBW.out _ hb2
    have g1 := hb2.block P HPX.out.1
    have g2 := hb2.block X HPX.out.2
    refine hK.out _ _ (HSS.out _ g1 g2) (fun hS7 => ?_)
    clear hK K hS7
    refine wpAnyH_ready (rs := [4]) (by kernel_rfl) (by simp) (AllReadyH.cons rfl (fun K hK => ?_) AllReadyH.nil)
    have q4 := HT1.out _ hb
    go_simp
    go_wp2_with fail
    refine hK.out _ _ (HSS.out _ g1 g2) (fun hS4 => ?_)
    clear hK K hS4
    obtain ⟨A', c', w3, o', hrun, hav, hag⟩ := KA.out w2 hb A c hnil hrd
    refine wpAnyH_ready (rs := [8]) (by kernel_rfl) (by simp) (AllReadyH.cons rfl (fun K hK => ?_) AllReadyH.nil)
    refine step_av (by rfl) _ _ _ (by rfl) _ _ (by rfl) (by rfl) _ _ hrun ?_
    obtain ⟨g3, g4, q5, q6⟩ := KG.out _ _ _ hb g1 g2 hag
    refine hK.out _ _ (HSS.out _ (g3.trans g1) (g4.trans g2)) (fun hS8 => ?_)
    clear hK K
    refine wpAnyH_take (i := 9) (oi := { dst := some 12, op := Op.nilCheck (Operand.tmp 3), type := 0, pos := "sem.go:65", after := #[{ on := 0, ground := Ground.data }, { on := 0, ground := Ground.phase }, { on := 1, ground := Ground.phase }, { on := 2, ground := Ground.phase }, { on := 3, ground := Ground.phase }, { on := 4, ground := Ground.phase }, { on := 5, ground := Ground.phase }, { on := 6, ground := Ground.phase }, { on := 7, ground := Ground.phase }, { on := 8, ground := Ground.phase }], guard := none }) (v := ?_) rfl (by kernel_rfl) (by kernel_rfl) (by kernel_rfl) (fun _ _ _ h => h) (Or.inl ⟨by rfl, ?_⟩) (by assumption) ?_
    rotate_left
    · intro w' hSw; obtain ⟨d0, d1⟩ := hSw; go_simp; try with_reducible rfl
    refine wpAnyH_take (i := 10) (oi := { dst := some 13, op := Op.fieldAddr 33 (Operand.tmp 12) 4, type := 0, pos := "sem.go:65", after := #[{ on := 9, ground := Ground.data }, { on := 0, ground := Ground.phase }, { on := 1, ground := Ground.phase }, { on := 2, ground := Ground.phase }, { on := 3, ground := Ground.phase }, { on := 4, ground := Ground.phase }, { on := 5, ground := Ground.phase }, { on := 6, ground := Ground.phase }, { on := 7, ground := Ground.phase }, { on := 8, ground := Ground.phase }], guard := none }) (v := ?_) rfl (by kernel_rfl) (by kernel_rfl) (by kernel_rfl) (fun _ _ _ h => h) (Or.inl ⟨by rfl, ?_⟩) (by assumption) ?_
    rotate_left
    · intro w' hSw; obtain ⟨d0, d1⟩ := hSw; go_simp; try with_reducible rfl
    have KP := Lib.hid (St.put2 (n := t.no.length + x.ents.length) (l := (x.ents.map spE)) (by simp) HH.out (by rw [hX]; exact hb) (by rw [svs_append]; exact hav) hag)
    have KS := Lib.hid (KSet.out _ (g3.trans g1) (g4.trans g2))
    clear hrun hav hag hrd hnil g1 g2 g3 g4 hb hb2
    clear hS8
    refine wpAnyH_ready (rs := [11]) (by kernel_rfl) (by simp) (AllReadyH.cons rfl (fun K hK => ?_) AllReadyH.nil)
    go_simp
    go_wp2_with fail
    refine hK.out _ _ (KS.out _) (fun hS11 => ?_)
    clear hK K hS11
    refine wpAnyH_done (by kernel_rfl) ?_ _
    go_wp2
    go_end0
    refine ⟨rfl, _, _, _, ?_, KP.out⟩
    rw [lst_no HK.out]
    rfl
set_option maxRecDepth 100000 in
set_option maxHeartbeats 4000000 in
theorem lst3_any {w0 w : World} {T P : Nat} {t : Tb} {a : Ta} {o : To} {x : Im} {xA : Option Addr} {xn xc : Nat} (h : St w0 w T t a o) (hP : Pk w P T) (hx : Ex w0 (fun _ => False) (.slice xA xn xc) x.ents) (hk : x.kind = 7 ∨ x.kind = 8) (hl : x.ents.length ≤ 10000) (ht : t.bf.length ≤ 10000) (hfl : (x.ents.flatMap bfE).length ≤ 10000) (hll : ∀ e ∈ x.ents, e.ll.length ≤ 10000) :
    Calls Tryz.prog 79 #[itv x xA xn xc, .pointer (some ⟨P, 0, none⟩)] w (Lsd w0 w T o (lstI (Tp t) x)) := by
  obtain ⟨i0, hi, hz0, hz1, hz2⟩ := info_parts infoB
  have hb1 : Below w.heap.size w (w.alloc (.cells #[.int .i64 x.kind, .int .i64 x.at_, .string (str x.name), .int .i64 x.val.kind, .int .i64 x.val.at_, .int .i64 x.val.n, .string (str x.val.s), .slice xA xn xc] 40)) := (Below.refl _ _).alloc (Nat.le_refl _) _
  have hP1 : P < w.heap.size := (Array.getElem?_eq_some_iff.1 hP).1
  have hPP := (hb1.block P hP1).trans hP
  have hX1 := heap_alloc_new w (.cells #[.int .i64 x.kind, .int .i64 x.at_, .string (str x.name), .int .i64 x.val.kind, .int .i64 x.val.at_, .int .i64 x.val.n, .string (str x.val.s), .slice xA xn xc] 40)
  have h1 := h.below hb1
  have HE := Lib.hid h.be
  have KC : Hid (∀ W, Below w0.heap.size w0 W → Calls Tryz.prog 80 #[.slice xA xn xc] W fun e w' => ∃ (m : List Me) (A : Option Addr) (c : Nat), e = .returned (.slice A m.length c) ∧ (A = none → c = 0) ∧ Rd w' w'.heap.size A m ∧ Ul w0 m ∧ pl m = x.ents.flatMap bfE ∧ Below W.heap.size W w') := Lib.hid fun W hW => bfs_low hx hW (by omega) (by omega) (fun e he => Nat.le_trans (hll e he) (by omega))
  have HH := Lib.hid h
  have HK := Lib.hid hk
  have HPX : Hid (P < (w.alloc (.cells #[.int .i64 x.kind, .int .i64 x.at_, .string (str x.name), .int .i64 x.val.kind, .int .i64 x.val.at_, .int .i64 x.val.n, .string (str x.val.s), .slice xA xn xc] 40)).heap.size ∧ w.heap.size < (w.alloc (.cells #[.int .i64 x.kind, .int .i64 x.at_, .string (str x.name), .int .i64 x.val.kind, .int .i64 x.val.at_, .int .i64 x.val.n, .string (str x.val.s), .slice xA xn xc] 40)).heap.size) := Lib.hid ⟨by simp; omega, by simp⟩
  have HBW : Hid (∀ w2, Below (w.alloc (.cells #[.int .i64 x.kind, .int .i64 x.at_, .string (str x.name), .int .i64 x.val.kind, .int .i64 x.val.at_, .int .i64 x.val.n, .string (str x.val.s), .slice xA xn xc] 40)).drew.heap.size (w.alloc (.cells #[.int .i64 x.kind, .int .i64 x.at_, .string (str x.name), .int .i64 x.val.kind, .int .i64 x.val.at_, .int .i64 x.val.n, .string (str x.val.s), .slice xA xn xc] 40)).drew w2 → Below w.heap.size w w2) := Lib.hid fun w2 k => hb1.drew.trans (k.mono (by show w.heap.size ≤ (World.alloc w _).heap.size; simp))
  have KA : Hid (∀ (w2 : World), Below w.heap.size w w2 → ∀ (A : Option Addr) (c : Nat) (m : List Me) (_ : m.length ≤ 10000), (A = none → c = 0) → Rd w2 w2.heap.size A m → ∃ A' c' w3 o', (Builtin.append_ #[25, 25] 25 #[.slice a.a3 t.bf.length a.c3, .slice A m.length c]).run Tryz.prog w2 = .ok (.slice A' (t.bf.length + m.length) c') w3 ∧ Av w3 w0.heap.size 73 4 A' (t.bf.length + m.length) c' (dvs t.bf ++ dvs m) o' ∧ Ag w2 w3 w0.heap.size o.o3 o') := Lib.hid fun w2 hb A c m hm _ hrd => by
    have h2 := h.below hb
    refine run_av (P := Tryz.prog) w2 25 25 w0.heap.size 73 i0 (.agg #[.int .i64 0, .int .i64 0, .int .i64 0, .slice none 0 0]) 4 48 Tryz.underlying25 hi hz0 hz1 hz2 rfl (by omega) _ _ _ _ _ h2.bf A m.length c (dvs m) (by simp [dvs_length]) (fun hn => Rd.cells hrd (by simpa using hn)) (dvs_one _) (fun e => ?_) (by unfold maxLen; omega) (by omega) h2.be.size
    subst e
    rcases Nat.eq_zero_or_pos (m.length) with h0 | h0
    · exact h0
    · obtain ⟨ad, e, _⟩ := Rd.cells hrd (by simpa using h0)
      cases e
  have HFL := Lib.hid (Nat.le_trans hfl (Nat.le_refl _))
  have KG : Hid (∀ (w2 w3 : World) (o' : Option Nat), Below w.heap.size w w2 → w2.heap[P]? = (w.alloc (.cells #[.int .i64 x.kind, .int .i64 x.at_, .string (str x.name), .int .i64 x.val.kind, .int .i64 x.val.at_, .int .i64 x.val.n, .string (str x.val.s), .slice xA xn xc] 40)).heap[P]? → w2.heap[w.heap.size]? = (w.alloc (.cells #[.int .i64 x.kind, .int .i64 x.at_, .string (str x.name), .int .i64 x.val.kind, .int .i64 x.val.at_, .int .i64 x.val.n, .string (str x.val.s), .slice xA xn xc] 40)).heap[w.heap.size]? → Ag w2 w3 w0.heap.size o.o3 o' → w3.heap[P]? = w2.heap[P]? ∧ w3.heap[w.heap.size]? = w2.heap[w.heap.size]? ∧ w3.cell? ⟨T, 5, none⟩ = some (.slice a.a3 t.bf.length a.c3) ∧ w3.frozen? ⟨T, 5, none⟩ = false) := Lib.hid fun w2 w3 o' hb e1 e2 hag => by
    have h2 := h.below hb
    have p2 := e1.trans hPP
    have x2 := e2.trans hX1
    have t3 : Tk6 w3 T t a := (hag.block T h2.tb.lt (h2.t3 h2.tb (by decide))).trans h2.tb
    exact ⟨hag.block P (Array.getElem?_eq_some_iff.1 p2).1 (h2.t3 p2 (by decide)), hag.block _ (Array.getElem?_eq_some_iff.1 x2).1 (h2.t3 x2 (by decide)), t3.cells.2.2.2.2.2, t3.frozen _⟩
  have KSet : Hid (∀ w3 : World, w3.heap[P]? = (w.alloc (.cells #[.int .i64 x.kind, .int .i64 x.at_, .string (str x.name), .int .i64 x.val.kind, .int .i64 x.val.at_, .int .i64 x.val.n, .string (str x.val.s), .slice xA xn xc] 40)).heap[P]? → w3.heap[w.heap.size]? = (w.alloc (.cells #[.int .i64 x.kind, .int .i64 x.at_, .string (str x.name), .int .i64 x.val.kind, .int .i64 x.val.at_, .int .i64 x.val.n, .string (str x.val.s), .slice xA xn xc] 40)).heap[w.heap.size]? → ∀ v, (w3.setCell ⟨T, 5, none⟩ v).cell? ⟨P, 0, none⟩ = some (.pointer (some ⟨T, 0, none⟩)) ∧ (w3.setCell ⟨T, 5, none⟩ v).cell? ⟨w.heap.size, 7, none⟩ = some (.slice xA xn xc)) := Lib.hid fun w3 e1 e2 v => by
    have p2 := e1.trans hPP
    have x2 := e2.trans hX1
    have nP : P ≠ T := typ_ne hPP h1.tb (by decide)
    have nX : w.heap.size ≠ T := typ_ne hX1 h1.tb (by decide)
    exact ⟨Pk.cell ((heap_setCell_other _ _ _ _ (show P ≠ T from nP)).trans p2), cell8 ((heap_setCell_other _ _ _ _ (show w.heap.size ≠ T from nX)).trans x2)⟩
  have HSS : Hid (∀ w' : World, w'.heap[P]? = (w.alloc (.cells #[.int .i64 x.kind, .int .i64 x.at_, .string (str x.name), .int .i64 x.val.kind, .int .i64 x.val.at_, .int .i64 x.val.n, .string (str x.val.s), .slice xA xn xc] 40)).heap[P]? → w'.heap[w.heap.size]? = (w.alloc (.cells #[.int .i64 x.kind, .int .i64 x.at_, .string (str x.name), .int .i64 x.val.kind, .int .i64 x.val.at_, .int .i64 x.val.n, .string (str x.val.s), .slice xA xn xc] 40)).heap[w.heap.size]? → w'.cell? ⟨P, 0, none⟩ = some (.pointer (some ⟨T, 0, none⟩)) ∧ w'.cell? ⟨w.heap.size, 7, none⟩ = some (.slice xA xn xc)) := Lib.hid fun w' e1 e2 => ⟨Pk.cell (e1.trans hPP), cell8 (e2.trans hX1)⟩
  have HB0 : Hid (Below w0.heap.size w0 (w.alloc (.cells #[.int .i64 x.kind, .int .i64 x.at_, .string (str x.name), .int .i64 x.val.kind, .int .i64 x.val.at_, .int .i64 x.val.n, .string (str x.val.s), .slice xA xn xc] 40))) := Lib.hid h1.be
  have HB1 := Lib.hid hb1
  have HT1 : Hid (∀ w' : World, Below w.heap.size w w' → w'.cell? ⟨T, 5, none⟩ = some (.slice a.a3 t.bf.length a.c3)) := Lib.hid fun w' hb => (h.below hb).tb.cells.2.2.2.2.2
  clear h hP hx hk hl ht h1 hPP hX1 hP1 hb1 hfl hll
  unfold itv
  go_enter Tryz.func79, Tryz.ntmps79
  go_wp2
  generalize hX : w.heap.size = X at *
  generalize (w.alloc (.cells #[.int .i64 x.kind, .int .i64 x.at_, .string (str x.name), .int .i64 x.val.kind, .int .i64 x.val.at_, .int .i64 x.val.n, .string (str x.val.s), .slice xA xn xc] 40)) = W1 at *
  refine wp_region_held_drew (S := fun w' => w'.cell? ⟨P, 0, none⟩ = some (.pointer (some ⟨T, 0, none⟩)) ∧ w'.cell? ⟨X, 7, none⟩ = some (.slice xA xn xc)) (by kernel_rfl) (HSS.out _ rfl rfl) (fun hS0 => ?_)
  try dsimp only at hS0
  refine wpAnyH_take (i := 0) (oi := { dst := some 3, op := Op.load 82 (Operand.tmp 1), type := 82, pos := "sem.go:70", after := #[], guard := none }) (v := ?_) rfl (by kernel_rfl) (by kernel_rfl) (by kernel_rfl) (fun _ _ _ h => h) (Or.inl ⟨by rfl, ?_⟩) (by assumption) ?_
  rotate_left
  · intro w' hSw; obtain ⟨d0, d1⟩ := hSw; go_simp; try with_reducible rfl
  simp only [Act.put, List.setIfInBounds_toArray, List.set_cons_zero, List.set_cons_succ]
  refine wpAnyH_take (i := 1) (oi := { dst := some 4, op := Op.load 82 (Operand.tmp 1), type := 82, pos := "sem.go:70", after := #[], guard := none }) (v := ?_) rfl (by kernel_rfl) (by kernel_rfl) (by kernel_rfl) (fun _ _ _ h => h) (Or.inl ⟨by rfl, ?_⟩) (by assumption) ?_
  rotate_left
  · intro w' hSw; obtain ⟨d0, d1⟩ := hSw; go_simp; try with_reducible rfl
  simp only [Act.put, List.setIfInBounds_toArray, List.set_cons_zero, List.set_cons_succ]
  refine wpAnyH_take (i := 2) (oi := { dst := some 5, op := Op.nilCheck (Operand.tmp 4), type := 0, pos := "sem.go:70", after := #[{ on := 1, ground := Ground.data }], guard := none }) (v := ?_) rfl (by kernel_rfl) (by kernel_rfl) (by kernel_rfl) (fun _ _ _ h => h) (Or.inl ⟨by rfl, ?_⟩) (by assumption) ?_
  rotate_left
  · intro w' hSw; obtain ⟨d0, d1⟩ := hSw; go_simp; try with_reducible rfl
  simp only [Act.put, List.setIfInBounds_toArray, List.set_cons_zero, List.set_cons_succ]
  refine wpAnyH_take (i := 3) (oi := { dst := some 6, op := Op.fieldAddr 33 (Operand.tmp 5) 5, type := 0, pos := "sem.go:70", after := #[{ on := 2, ground := Ground.data }], guard := none }) (v := ?_) rfl (by kernel_rfl) (by kernel_rfl) (by kernel_rfl) (fun _ _ _ h => h) (Or.inl ⟨by rfl, ?_⟩) (by assumption) ?_
  rotate_left
  · intro w' hSw; obtain ⟨d0, d1⟩ := hSw; go_simp; try with_reducible rfl
  simp only [Act.put, List.setIfInBounds_toArray, List.set_cons_zero, List.set_cons_succ]
  refine wpAnyH_take (i := 5) (oi := { dst := some 8, op := Op.fieldAddr 40 (Operand.tmp 2) 4, type := 0, pos := "sem.go:70", after := #[], guard := none }) (v := ?_) rfl (by kernel_rfl) (by kernel_rfl) (by kernel_rfl) (fun _ _ _ h => h) (Or.inl ⟨by rfl, ?_⟩) (by assumption) ?_
  rotate_left
  · intro w' hSw; obtain ⟨d0, d1⟩ := hSw; go_simp; try with_reducible rfl
  simp only [Act.put, List.setIfInBounds_toArray, List.set_cons_zero, List.set_cons_succ]
  refine wpAnyH_take (i := 6) (oi := { dst := some 9, op := Op.load 38 (Operand.tmp 8), type := 38, pos := "sem.go:70", after := #[{ on := 5, ground := Ground.data }], guard := none }) (v := ?_) rfl (by kernel_rfl) (by kernel_rfl) (by kernel_rfl) (fun _ _ _ h => h) (Or.inl ⟨by rfl, ?_⟩) (by assumption) ?_
  rotate_left
  · intro w' hSw; obtain ⟨d0, d1⟩ := hSw; go_simp; try with_reducible rfl
  simp only [Act.put, List.setIfInBounds_toArray, List.set_cons_zero, List.set_cons_succ]
  refine wpAnyH_ready (rs := [4, 7]) (by kernel_rfl) (by simp) (AllReadyH.cons rfl (fun K hK => ?_) (AllReadyH.cons rfl (fun K hK => ?_) AllReadyH.nil))
  · have q4 := HT1.out _ HB1.out.drew
    go_simp
    go_wp2_with fail
    refine hK.out _ _ (HSS.out _ rfl rfl) (fun hS4 => ?_)
    clear hK K hS4
    refine wpAnyH_ready (rs := [7]) (by kernel_rfl) (by simp) (AllReadyH.cons rfl (fun K hK => ?_) AllReadyH.nil)
    go_simp
    go_wp2_with (go_at_call 80; (with_reducible refine (KC.out _ HB0.out.drew).mono ?_); rintro e w2 ⟨m, A, c, rfl, hnil, hrd, hul, hpl, hb2⟩)
    have hb := HBW.out _ hb2
    have g1 := hb2.block P HPX.out.1
    have g2 := hb2.block X HPX.out.2
    refine hK.out _ _ (HSS.out _ g1 g2) (fun hS7 => ?_)
    clear hK K hS7
    obtain ⟨A', c', w3, o', hrun, hav, hag⟩ := KA.out w2 hb A c m (by rw [← pl_length, hpl]; exact HFL.out) hnil hrd
    refine wpAnyH_ready (rs := [8]) (by kernel_rfl) (by simp) (AllReadyH.cons rfl (fun K hK => ?_) AllReadyH.nil)
    refine step_av (by rfl) _ _ _ (by rfl) _ _ (by rfl) (by rfl) _ _ hrun ?_
    obtain ⟨g3, g4, q5, q6⟩ := KG.out _ _ _ hb g1 g2 hag
    refine hK.out _ _ (HSS.out _ (g3.trans g1) (g4.trans g2)) (fun hS8 => ?_)
    clear hK K
    refine wpAnyH_take (i := 9) (oi := { dst := some 12, op := Op.nilCheck (Operand.tmp 3), type := 0, pos := "sem.go:70", after := #[{ on := 0, ground := Ground.data }, { on := 0, ground := Ground.phase }, { on := 1, ground := Ground.phase }, { on := 2, ground := Ground.phase }, { on := 3, ground := Ground.phase }, { on := 4, ground := Ground.phase }, { on := 5, ground := Ground.phase }, { on := 6, ground := Ground.phase }, { on := 7, ground := Ground.phase }, { on := 8, ground := Ground.phase }], guard := none }) (v := ?_) rfl (by kernel_rfl) (by kernel_rfl) (by kernel_rfl) (fun _ _ _ h => h) (Or.inl ⟨by rfl, ?_⟩) (by assumption) ?_
    rotate_left
    · intro w' hSw; obtain ⟨d0, d1⟩ := hSw; go_simp; try with_reducible rfl
    refine wpAnyH_take (i := 10) (oi := { dst := some 13, op := Op.fieldAddr 33 (Operand.tmp 12) 5, type := 0, pos := "sem.go:70", after := #[{ on := 9, ground := Ground.data }, { on := 0, ground := Ground.phase }, { on := 1, ground := Ground.phase }, { on := 2, ground := Ground.phase }, { on := 3, ground := Ground.phase }, { on := 4, ground := Ground.phase }, { on := 5, ground := Ground.phase }, { on := 6, ground := Ground.phase }, { on := 7, ground := Ground.phase }, { on := 8, ground := Ground.phase }], guard := none }) (v := ?_) rfl (by kernel_rfl) (by kernel_rfl) (by kernel_rfl) (fun _ _ _ h => h) (Or.inl ⟨by rfl, ?_⟩) (by assumption) ?_
    rotate_left
    · intro w' hSw; obtain ⟨d0, d1⟩ := hSw; go_simp; try with_reducible rfl
    have KP := Lib.hid (St.put3 (n := t.bf.length + m.length) (l := m) (by simp) HH.out (by rw [hX]; exact hb) (by rw [dvs_append]; exact hav) hag hul)
    have KS := Lib.hid (KSet.out _ (g3.trans g1) (g4.trans g2))
    clear hrun hav hag hrd hnil g1 g2 g3 g4 hb hb2
    clear hS8
    refine wpAnyH_ready (rs := [11]) (by kernel_rfl) (by simp) (AllReadyH.cons rfl (fun K hK => ?_) AllReadyH.nil)
    go_simp
    go_wp2_with fail
    refine hK.out _ _ (KS.out _) (fun hS11 => ?_)
    clear hK K hS11
    refine wpAnyH_done (by kernel_rfl) ?_ _
    go_wp2
    go_end0
    refine ⟨rfl, _, _, _, ?_, KP.out⟩
    rw [lst_bf HK.out]
    show Pg.mk _ _ _ _ _ _ = _
    simp only [Tp, pl_append, hpl]
  · go_simp
    go_wp2_with (go_at_call 80; (with_reducible refine (KC.out _ HB0.out.drew).mono ?_); rintro e w2 ⟨m, A, c, rfl, hnil, hrd, hul, hpl, hb2⟩)
    have hb := HBW.out _ hb2
    have g1 := hb2.block P HPX.out.1
    have g2 := hb2.block X HPX.out.2
    refine hK.out _ _ (HSS.out _ g1 g2) (fun hS7 => ?_)
    clear hK K hS7
    refine wpAnyH_ready (rs := [4]) (by kernel_rfl) (by simp) (AllReadyH.cons rfl (fun K hK => ?_) AllReadyH.nil)
    have q4 := HT1.out _ hb
    go_simp
    go_wp2_with fail
    refine hK.out _ _ (HSS.out _ g1 g2) (fun hS4 => ?_)
    clear hK K hS4
    obtain ⟨A', c', w3, o', hrun, hav, hag⟩ := KA.out w2 hb A c m (by rw [← pl_length, hpl]; exact HFL.out) hnil hrd
    refine wpAnyH_ready (rs := [8]) (by kernel_rfl) (by simp) (AllReadyH.cons rfl (fun K hK => ?_) AllReadyH.nil)
    refine step_av (by rfl) _ _ _ (by rfl) _ _ (by rfl) (by rfl) _ _ hrun ?_
    obtain ⟨g3, g4, q5, q6⟩ := KG.out _ _ _ hb g1 g2 hag
    refine hK.out _ _ (HSS.out _ (g3.trans g1) (g4.trans g2)) (fun hS8 => ?_)
    clear hK K
    refine wpAnyH_take (i := 9) (oi := { dst := some 12, op := Op.nilCheck (Operand.tmp 3), type := 0, pos := "sem.go:70", after := #[{ on := 0, ground := Ground.data }, { on := 0, ground := Ground.phase }, { on := 1, ground := Ground.phase }, { on := 2, ground := Ground.phase }, { on := 3, ground := Ground.phase }, { on := 4, ground := Ground.phase }, { on := 5, ground := Ground.phase }, { on := 6, ground := Ground.phase }, { on := 7, ground := Ground.phase }, { on := 8, ground := Ground.phase }], guard := none }) (v := ?_) rfl (by kernel_rfl) (by kernel_rfl) (by kernel_rfl) (fun _ _ _ h => h) (Or.inl ⟨by rfl, ?_⟩) (by assumption) ?_
    rotate_left
    · intro w' hSw; obtain ⟨d0, d1⟩ := hSw; go_simp; try with_reducible rfl
    refine wpAnyH_take (i := 10) (oi := { dst := some 13, op := Op.fieldAddr 33 (Operand.tmp 12) 5, type := 0, pos := "sem.go:70", after := #[{ on := 9, ground := Ground.data }, { on := 0, ground := Ground.phase }, { on := 1, ground := Ground.phase }, { on := 2, ground := Ground.phase }, { on := 3, ground := Ground.phase }, { on := 4, ground := Ground.phase }, { on := 5, ground := Ground.phase }, { on := 6, ground := Ground.phase }, { on := 7, ground := Ground.phase }, { on := 8, ground := Ground.phase }], guard := none }) (v := ?_) rfl (by kernel_rfl) (by kernel_rfl) (by kernel_rfl) (fun _ _ _ h => h) (Or.inl ⟨by rfl, ?_⟩) (by assumption) ?_
    rotate_left
    · intro w' hSw; obtain ⟨d0, d1⟩ := hSw; go_simp; try with_reducible rfl
    have KP := Lib.hid (St.put3 (n := t.bf.length + m.length) (l := m) (by simp) HH.out (by rw [hX]; exact hb) (by rw [dvs_append]; exact hav) hag hul)
    have KS := Lib.hid (KSet.out _ (g3.trans g1) (g4.trans g2))
    clear hrun hav hag hrd hnil g1 g2 g3 g4 hb hb2
    clear hS8
    refine wpAnyH_ready (rs := [11]) (by kernel_rfl) (by simp) (AllReadyH.cons rfl (fun K hK => ?_) AllReadyH.nil)
    go_simp
    go_wp2_with fail
    refine hK.out _ _ (KS.out _) (fun hS11 => ?_)
    clear hK K hS11
    refine wpAnyH_done (by kernel_rfl) ?_ _
    go_wp2
    go_end0
    refine ⟨rfl, _, _, _, ?_, KP.out⟩
    rw [lst_bf HK.out]
    show Pg.mk _ _ _ _ _ _ = _
    simp only [Tp, pl_append, hpl]
end Go.Proofs.YtmjneokjgcgchaaGreat
