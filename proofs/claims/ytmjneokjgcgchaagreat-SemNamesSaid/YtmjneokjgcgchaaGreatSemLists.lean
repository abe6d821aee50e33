/-
  What some items say, as it is listed: the program's own.
-/
import Derived.Test.YtmjneokjgcgchaaGreatSemTab
namespace Go.Proofs.YtmjneokjgcgchaaGreat
open Go.RowKit

/-- What an item may hold at most. -/
def Xb (x : Im) : Prop := x.ents.length ≤ 1000 ∧ (x.ents.flatMap bfE).length ≤ 1000 ∧ ∀ e ∈ x.ents, e.ll.length ≤ 1000
/-- What a table may hold at most. -/
def Pb (p : Pg) : Prop := p.sp.length ≤ 1000 ∧ p.ci.length ≤ 1000 ∧ p.no.length ≤ 1000 ∧ p.bf.length ≤ 1000
theorem Pb.take {l : List Im} (h : Pb (lstL Pg.nil l)) (k : Nat) : Pb (lstL Pg.nil (l.take k)) := by
  have e := List.take_append_drop k l
  rw [← e, lstL_append] at h
  have h1 := congrArg List.length (lstL_sp (l.drop k) (lstL Pg.nil (l.take k)))
  have h2 := congrArg List.length (lstL_ci (l.drop k) (lstL Pg.nil (l.take k)))
  have h3 := congrArg List.length (lstL_no (l.drop k) (lstL Pg.nil (l.take k)))
  have h4 := congrArg List.length (lstL_bf (l.drop k) (lstL Pg.nil (l.take k)))
  rw [List.length_append] at h1 h2 h3 h4
  exact ⟨by have := h.1; omega, by have := h.2.1; omega, by have := h.2.2.1; omega, by have := h.2.2.2; omega⟩
theorem Tp.lens {t : Tb} {p : Pg} (h : Tp t = p) (hb : Pb p) : t.sp.length ≤ 10000 ∧ t.ci.length ≤ 10000 ∧ t.no.length ≤ 10000 ∧ t.bf.length ≤ 10000 := by
  subst h
  obtain ⟨h1, h2, h3, h4⟩ := hb
  simp only [Tp, pl_length] at h1 h2 h3 h4
  omega
theorem lst_take {l : List Im} {k : Nat} {x : Im} (h : l[k]? = some x) : lstL Pg.nil (l.take (k + 1)) = lstI (lstL Pg.nil (l.take k)) x := by
  rw [take_last h, lstL_append]
  rfl
/-- An empty table. -/
def tbZ : Tb := ⟨[], 0, [], [], [], []⟩
def taZ : Ta := ⟨none, 0, none, 0, none, 0, none, 0⟩
theorem tp_z : Tp tbZ = Pg.nil := rfl
theorem str_nil : str [] = ⟨#[]⟩ := rfl
theorem cells8 {w : World} {b : Nat} {t : TypeId} {f : Nat × Nat} {c0 c1 c2 c3 c4 c5 c6 c7 : Value} (h : w.heap[b]? = some (Obj.cells #[c0, c1, c2, c3, c4, c5, c6, c7] t f)) : w.cell? ⟨b, 0, none⟩ = some c0 ∧ w.cell? ⟨b, 1, none⟩ = some c1 ∧ w.cell? ⟨b, 2, none⟩ = some c2 ∧ w.cell? ⟨b, 3, none⟩ = some c3 ∧ w.cell? ⟨b, 4, none⟩ = some c4 ∧ w.cell? ⟨b, 5, none⟩ = some c5 ∧ w.cell? ⟨b, 6, none⟩ = some c6 ∧ w.cell? ⟨b, 7, none⟩ = some c7 := by
  simp [World.cell?, h]
theorem St.z {w0 w : World} {T : Nat} (hb : Below w0.heap.size w0 w) (hT : w0.heap.size ≤ T) (h : Tk6 w T tbZ taZ) : St w0 w T tbZ taZ ⟨none, none, none, none⟩ :=
  ⟨hb, hT, h, Av.nil, Av.nil, Av.nil, Av.nil, (fun _ h => by cases h), (fun _ h => by cases h)⟩
set_option maxRecDepth 100000 in
set_option maxHeartbeats 4000000 in
theorem Lists_any {v : Value} {is : List Im} (w : World) (hx : Ix w (fun _ => False) v is) (hl : is.length ≤ 10000) (hb : ∀ x ∈ is, Xb x) (hp : Pb (lstL Pg.nil is)) :
    Calls Tryz.prog 20 #[v] w (TabR w.heap.size w fun p => p = lstL Pg.nil is) := by
  obtain ⟨d, hd, hr, hn⟩ := hx
  obtain ⟨Av, cv, hve, _⟩ := id hr
  subst hve
  have hdl : d.length = is.length := by rw [hd]; simp
  rw [← hdl] at hl
  have HR := Lib.hid hr
  have HN := Lib.hid hn
  have HD := Lib.hid hd
  have HXB := Lib.hid hb
  have HPB := Lib.hid hp
  have hz1 : Tk6 (w.alloc (.cells #[.string (str []), .int .i64 0, .slice none 0 0, .slice none 0 0, .slice none 0 0, .slice none 0 0] 33)) w.heap.size tbZ taZ := heap_alloc_new w _
  have hz2 : Tk6 ((w.alloc (.cells #[.string (str []), .int .i64 0, .slice none 0 0, .slice none 0 0, .slice none 0 0, .slice none 0 0] 33)).alloc (.cells #[.string (str []), .int .i64 0, .slice none 0 0, .slice none 0 0, .slice none 0 0, .slice none 0 0] 33)) (w.heap.size + 1) tbZ taZ := by
    have := heap_alloc_new (w.alloc (.cells #[.string (str []), .int .i64 0, .slice none 0 0, .slice none 0 0, .slice none 0 0, .slice none 0 0] 33)) (.cells #[.string (str []), .int .i64 0, .slice none 0 0, .slice none 0 0, .slice none 0 0, .slice none 0 0] 33)
    rwa [show (w.alloc (.cells #[.string (str []), .int .i64 0, .slice none 0 0, .slice none 0 0, .slice none 0 0, .slice none 0 0] 33)).heap.size = w.heap.size + 1 by simp] at this
  have hz3 : Tk6 ((w.alloc (.cells #[.string (str []), .int .i64 0, .slice none 0 0, .slice none 0 0, .slice none 0 0, .slice none 0 0] 33)).alloc (.cells #[.string (str []), .int .i64 0, .slice none 0 0, .slice none 0 0, .slice none 0 0, .slice none 0 0] 33)) w.heap.size tbZ taZ := (Below.heap_alloc _ _ _ (by simp)).trans hz1
  have HS0 := Lib.hid (St.z (((Below.refl w.heap.size w).alloc (Nat.le_refl _) _).alloc (by simp) _) (by omega) hz2)
  have HZ0 := Lib.hid hz3
  clear hr hn hd hdl hb hp hz1 hz2 hz3
  rw [str_nil] at HS0 HZ0
  generalize hnn : d.length = n at *
  have HL := Lib.hid hnn
  clear hnn
  go_enter Tryz.func20, Tryz.ntmps20
  go_wp2
  go_loopw [8] (fun i wr => ∃ (k : Nat) (t : Tb) (a : Ta) (o : To), k ≤ n ∧ i = .int .i64 (k : Int) ∧ Hid (Tp t = lstL Pg.nil (is.take k)) ∧ Hid (St w wr (w.heap.size + 1) t a o) ∧ Hid (Tk6 wr w.heap.size tbZ taZ)) (fun i _ => n - (intOf i).toNat)
  case atStart => exact ⟨0, tbZ, taZ, ⟨none, none, none, none⟩, Nat.zero_le _, rfl, Lib.hid (by simp [tp_z, lstL]), HS0, HZ0⟩
  case round =>
    obtain ⟨k, t, a, o, hk, rfl, HT, HS, HZ⟩ := hrel
    by_cases hkl : k < n
    · have t0 : decide (k < n) = true := by simp; omega
      obtain ⟨b, p, c, q, e1, g1, hm, q1⟩ := Rw.at HR.out (j := k) (by have := HL.out; omega)
      injection e1 with e1 e1n e1c
      clear e1n
      subst e1 e1c
      have hz := HN.out q hm
      have hisk : is[k]? = some q.1 := by rw [HD.out, List.getElem?_map, g1]; rfl
      have HTK := Lib.hid (lst_take hisk)
      have HBD0 := HXB.out q.1 (List.mem_of_getElem? hisk)
      have hbt := Tp.lens HT.out (HPB.out.take k)
      obtain ⟨x, v1⟩ := q
      obtain ⟨A1, n1, s1, hv1⟩ := hz.shape'
      simp only at hz hv1 HTK HBD0
      subst hv1
      have HX := Lib.hid hz
      have HBD : Hid (x.ents.length ≤ 10000 ∧ (x.ents.flatMap bfE).length ≤ 10000 ∧ ∀ e ∈ x.ents, e.ll.length ≤ 10000) := Lib.hid ⟨Nat.le_trans HBD0.1 (by omega), Nat.le_trans HBD0.2.1 (by omega), fun e he => Nat.le_trans (HBD0.2.2 e he) (by omega)⟩
      have q0 := q1 0 _ rfl
      have hbl : b < w.heap.size := World.block_lt_of_cell? w _ q0
      have hbe := HS.out.be
      have y0 : wr.cell? ⟨b, p + k * 8, none⟩ = some (.int .i64 x.kind) := by rw [hbe.cell (p := ⟨b, p + k * 8, none⟩) hbl]; simpa using q0
      have y1 : wr.cell? ⟨b, p + k * 8 + 1, none⟩ = some (.int .i64 x.at_) := (hbe.cell (p := ⟨b, p + k * 8 + 1, none⟩) hbl).trans (q1 1 _ rfl)
      have y2 : wr.cell? ⟨b, p + k * 8 + 2, none⟩ = some (.string (str x.name)) := (hbe.cell (p := ⟨b, p + k * 8 + 2, none⟩) hbl).trans (q1 2 _ rfl)
      have y3 : wr.cell? ⟨b, p + k * 8 + 3, none⟩ = some (.int .i64 x.val.kind) := (hbe.cell (p := ⟨b, p + k * 8 + 3, none⟩) hbl).trans (q1 3 _ rfl)
      have y4 : wr.cell? ⟨b, p + k * 8 + 4, none⟩ = some (.int .i64 x.val.at_) := (hbe.cell (p := ⟨b, p + k * 8 + 4, none⟩) hbl).trans (q1 4 _ rfl)
      have y5 : wr.cell? ⟨b, p + k * 8 + 5, none⟩ = some (.int .i64 x.val.n) := (hbe.cell (p := ⟨b, p + k * 8 + 5, none⟩) hbl).trans (q1 5 _ rfl)
      have y6 : wr.cell? ⟨b, p + k * 8 + 6, none⟩ = some (.string (str x.val.s)) := (hbe.cell (p := ⟨b, p + k * 8 + 6, none⟩) hbl).trans (q1 6 _ rfl)
      have y7 : wr.cell? ⟨b, p + k * 8 + 7, none⟩ = some (.slice A1 n1 s1) := (hbe.cell (p := ⟨b, p + k * 8 + 7, none⟩) hbl).trans (q1 7 _ rfl)
      have hst1 := HS.out.below ((Below.refl wr.heap.size wr).alloc (Nat.le_refl _) (.cells #[.int .i64 x.kind, .int .i64 x.at_, .string (str x.name), .int .i64 x.val.kind, .int .i64 x.val.at_, .int .i64 x.val.n, .string (str x.val.s), .slice A1 n1 s1] 40))
      have hx1 := heap_alloc_new wr (.cells #[.int .i64 x.kind, .int .i64 x.at_, .string (str x.name), .int .i64 x.val.kind, .int .i64 x.val.at_, .int .i64 x.val.n, .string (str x.val.s), .slice A1 n1 s1] 40)
      have hz1 : Tk6 (wr.alloc (.cells #[.int .i64 x.kind, .int .i64 x.at_, .string (str x.name), .int .i64 x.val.kind, .int .i64 x.val.at_, .int .i64 x.val.n, .string (str x.val.s), .slice A1 n1 s1] 40)) w.heap.size tbZ taZ := (Below.heap_alloc _ _ _ HZ.out.lt).trans HZ.out
      have HST1 := Lib.hid hst1
      have HX1 := Lib.hid hx1
      have HZ1 := Lib.hid hz1
      have HBT := Lib.hid hbt
      clear q0 q1 hz g1 hm hbe HBD0 hisk hst1 hx1 hz1 hbt
      have hkind : x.kind = 0 ∨ x.kind = 2 ∨ (x.kind = 3 ∨ x.kind = 4) ∨ (x.kind = 5 ∨ x.kind = 6) ∨ (x.kind = 7 ∨ x.kind = 8) ∨ (x.kind = 1 ∨ x.kind < 0 ∨ 8 < x.kind) := by omega
      rcases hkind with hkd | hkd | hkd | hkd | hkd | hkd
      · have HKD := Lib.hid hkd
        have KD := Lib.hid (fun W => deedD_any (w.heap.size + 1) x.kind HKD.out W)
        clear hkd
        go_wp2
        clear y0 y1 y2 y3 y4 y5 y6 y7
        generalize hX : wr.heap.size = X at *
        generalize wr.alloc (.cells #[.int .i64 x.kind, .int .i64 x.at_, .string (str x.name), .int .i64 x.val.kind, .int .i64 x.val.at_, .int .i64 x.val.n, .string (str x.val.s), .slice A1 n1 s1] 40) = W1 at *
        have HSS : Hid (∀ w' : World, w'.heap[X]? = W1.heap[X]? → (fun w' => w'.cell? ⟨X, 0, none⟩ = some (.int .i64 x.kind) ∧ w'.cell? ⟨X, 1, none⟩ = some (.int .i64 x.at_) ∧ w'.cell? ⟨X, 2, none⟩ = some (.string (str x.name)) ∧ w'.cell? ⟨X, 3, none⟩ = some (.int .i64 x.val.kind) ∧ w'.cell? ⟨X, 4, none⟩ = some (.int .i64 x.val.at_) ∧ w'.cell? ⟨X, 5, none⟩ = some (.int .i64 x.val.n) ∧ w'.cell? ⟨X, 6, none⟩ = some (.string (str x.val.s)) ∧ w'.cell? ⟨X, 7, none⟩ = some (.slice A1 n1 s1)) w') := Lib.hid fun w' e => cells8 (e.trans HX1.out)
        refine wp_region_held_drew (S := fun w' => w'.cell? ⟨X, 0, none⟩ = some (.int .i64 x.kind) ∧ w'.cell? ⟨X, 1, none⟩ = some (.int .i64 x.at_) ∧ w'.cell? ⟨X, 2, none⟩ = some (.string (str x.name)) ∧ w'.cell? ⟨X, 3, none⟩ = some (.int .i64 x.val.kind) ∧ w'.cell? ⟨X, 4, none⟩ = some (.int .i64 x.val.at_) ∧ w'.cell? ⟨X, 5, none⟩ = some (.int .i64 x.val.n) ∧ w'.cell? ⟨X, 6, none⟩ = some (.string (str x.val.s)) ∧ w'.cell? ⟨X, 7, none⟩ = some (.slice A1 n1 s1)) (by kernel_rfl) (HSS.out _ rfl) (fun hS0 => ?_)
        try dsimp only at hS0
        refine wpAnyH_take (i := 0) (oi := { dst := some 12, op := Op.fieldAddr 40 (Operand.tmp 5) 0, type := 0, pos := "sem.go:160", after := #[], guard := none }) (v := ?_) rfl (by kernel_rfl) (by kernel_rfl) (by kernel_rfl) (fun _ _ _ h => h) (Or.inl ⟨by rfl, ?_⟩) (by assumption) ?_
        rotate_left
        · intro w' hSw; obtain ⟨d0, d1, d2, d3, d4, d5, d6, d7⟩ := hSw; go_simp; try with_reducible rfl
        simp only [Act.put, List.setIfInBounds_toArray, List.set_cons_zero, List.set_cons_succ]
        refine wpAnyH_take (i := 1) (oi := { dst := some 13, op := Op.load 3 (Operand.tmp 12), type := 3, pos := "sem.go:160", after := #[{ on := 0, ground := Ground.data }], guard := none }) (v := ?_) rfl (by kernel_rfl) (by kernel_rfl) (by kernel_rfl) (fun _ _ _ h => h) (Or.inl ⟨by rfl, ?_⟩) (by assumption) ?_
        rotate_left
        · intro w' hSw; obtain ⟨d0, d1, d2, d3, d4, d5, d6, d7⟩ := hSw; go_simp; try with_reducible rfl
        simp only [Act.put, List.setIfInBounds_toArray, List.set_cons_zero, List.set_cons_succ]
        refine wpAnyH_take (i := 4) (oi := { dst := some 16, op := Op.load 40 (Operand.tmp 5), type := 40, pos := "sem.go:160", after := #[], guard := none }) (v := ?_) rfl (by kernel_rfl) (by kernel_rfl) (by kernel_rfl) (fun _ _ _ h => h) (Or.inl ⟨by rfl, ?_⟩) (by assumption) ?_
        rotate_left
        · intro w' hSw; obtain ⟨d0, d1, d2, d3, d4, d5, d6, d7⟩ := hSw; go_simp; try with_reducible rfl
        simp only [Act.put, List.setIfInBounds_toArray, List.set_cons_zero, List.set_cons_succ]
        refine wpAnyH_ready (rs := [2]) (by kernel_rfl) (by simp) (AllReadyH.cons rfl (fun K hK => ?_) AllReadyH.nil)
        go_simp
        go_wp2_with (go_at_call 37; (with_reducible refine (KD.out _).mono ?_); rintro e w2 ⟨P, rfl, hpk, hPl, hb2⟩)
        have hst := (HST1.out.below (w' := W1.drew) ((Below.refl _ _).drew)).below hb2
        have hz2 : Tk6 w2 w.heap.size tbZ taZ := (hb2.block _ HZ1.out.lt).trans HZ1.out
        have hx2 := (hb2.block X (Array.getElem?_eq_some_iff.1 HX1.out).1)
        refine hK.out _ _ (HSS.out _ hx2) (fun hS2 => ?_)
        clear hK K
        refine wpAnyH_take (i := 3) (oi := { dst := some 15, op := Op.field 80 (Operand.tmp 14) 0, type := 78, pos := "sem.go:160", after := #[{ on := 2, ground := Ground.data }], guard := none }) (v := ?_) rfl (by kernel_rfl) (by kernel_rfl) (by kernel_rfl) (fun _ _ _ h => h) (Or.inl ⟨by rfl, ?_⟩) (by assumption) ?_
        rotate_left
        · intro w' hSw; obtain ⟨d0, d1, d2, d3, d4, d5, d6, d7⟩ := hSw; go_simp; try with_reducible rfl
        simp only [Act.put, List.setIfInBounds_toArray, List.set_cons_zero, List.set_cons_succ]
        have hbt := HBT.out
        have KL := Lib.hid (lstD_any (xA := A1) (xn := n1) (xc := s1) hst hpk HKD.out)
        have HOFF := Lib.hid (And.intro hst (And.intro hz2 (hx2.trans HX1.out)))
        unfold itv at KL
        clear hst hz2 hx2 hbt hpk hPl hb2
        refine wpAnyH_ready (rs := [5]) (by kernel_rfl) (by simp) (AllReadyH.cons rfl (fun K hK => ?_) AllReadyH.nil)
        go_simp
        go_wp2_with (go_at_call 67; (with_reducible refine KL.out.mono ?_); rintro e w3 ⟨rfl, t', a', o', ht3, hst3, hfr3⟩)
        obtain ⟨hst2, hz2, hx2⟩ := HOFF.out
        have hz3 : Tk6 w3 w.heap.size tbZ taZ := hst2.off hfr3 hz2 (by omega) (by decide) (by decide) (by decide)
        have hx3 := hst2.off hfr3 hx2 (typ_ne hx2 hst2.tb (by decide)) (by decide) (by decide) (by decide)
        refine hK.out _ _ (HSS.out _ (hx3.trans HX1.out.symm)) (fun hS5 => ?_)
        have HFT := Lib.hid ht3
        have HFS := Lib.hid hst3
        have HFZ := Lib.hid hz3
        clear hK K hS5 hS2 hst2 hz2 hx2 hx3 hz3 hst3 hfr3 ht3
        refine wpAnyH_done (by kernel_rfl) ?_ _
        go_wp2
        exact ⟨⟨k + 1, t', a', o', by omega, by go_num, Lib.hid (by rw [HFT.out, HT.out, HTK.out]), HFS, HFZ⟩, by simp [intOf]; omega⟩
      · have HKD := Lib.hid hkd
        have KD := Lib.hid (fun W => deed0_any (w.heap.size + 1) x.kind HKD.out W)
        clear hkd
        go_wp2
        clear y0 y1 y2 y3 y4 y5 y6 y7
        generalize hX : wr.heap.size = X at *
        generalize wr.alloc (.cells #[.int .i64 x.kind, .int .i64 x.at_, .string (str x.name), .int .i64 x.val.kind, .int .i64 x.val.at_, .int .i64 x.val.n, .string (str x.val.s), .slice A1 n1 s1] 40) = W1 at *
        have HSS : Hid (∀ w' : World, w'.heap[X]? = W1.heap[X]? → (fun w' => w'.cell? ⟨X, 0, none⟩ = some (.int .i64 x.kind) ∧ w'.cell? ⟨X, 1, none⟩ = some (.int .i64 x.at_) ∧ w'.cell? ⟨X, 2, none⟩ = some (.string (str x.name)) ∧ w'.cell? ⟨X, 3, none⟩ = some (.int .i64 x.val.kind) ∧ w'.cell? ⟨X, 4, none⟩ = some (.int .i64 x.val.at_) ∧ w'.cell? ⟨X, 5, none⟩ = some (.int .i64 x.val.n) ∧ w'.cell? ⟨X, 6, none⟩ = some (.string (str x.val.s)) ∧ w'.cell? ⟨X, 7, none⟩ = some (.slice A1 n1 s1)) w') := Lib.hid fun w' e => cells8 (e.trans HX1.out)
        refine wp_region_held_drew (S := fun w' => w'.cell? ⟨X, 0, none⟩ = some (.int .i64 x.kind) ∧ w'.cell? ⟨X, 1, none⟩ = some (.int .i64 x.at_) ∧ w'.cell? ⟨X, 2, none⟩ = some (.string (str x.name)) ∧ w'.cell? ⟨X, 3, none⟩ = some (.int .i64 x.val.kind) ∧ w'.cell? ⟨X, 4, none⟩ = some (.int .i64 x.val.at_) ∧ w'.cell? ⟨X, 5, none⟩ = some (.int .i64 x.val.n) ∧ w'.cell? ⟨X, 6, none⟩ = some (.string (str x.val.s)) ∧ w'.cell? ⟨X, 7, none⟩ = some (.slice A1 n1 s1)) (by kernel_rfl) (HSS.out _ rfl) (fun hS0 => ?_)
        try dsimp only at hS0
        refine wpAnyH_take (i := 0) (oi := { dst := some 12, op := Op.fieldAddr 40 (Operand.tmp 5) 0, type := 0, pos := "sem.go:160", after := #[], guard := none }) (v := ?_) rfl (by kernel_rfl) (by kernel_rfl) (by kernel_rfl) (fun _ _ _ h => h) (Or.inl ⟨by rfl, ?_⟩) (by assumption) ?_
        rotate_left
        · intro w' hSw; obtain ⟨d0, d1, d2, d3, d4, d5, d6, d7⟩ := hSw; go_simp; try with_reducible rfl
        simp only [Act.put, List.setIfInBounds_toArray, List.set_cons_zero, List.set_cons_succ]
        refine wpAnyH_take (i := 1) (oi := { dst := some 13, op := Op.load 3 (Operand.tmp 12), type := 3, pos := "sem.go:160", after := #[{ on := 0, ground := Ground.data }], guard := none }) (v := ?_) rfl (by kernel_rfl) (by kernel_rfl) (by kernel_rfl) (fun _ _ _ h => h) (Or.inl ⟨by rfl, ?_⟩) (by assumption) ?_
        rotate_left
        · intro w' hSw; obtain ⟨d0, d1, d2, d3, d4, d5, d6, d7⟩ := hSw; go_simp; try with_reducible rfl
        simp only [Act.put, List.setIfInBounds_toArray, List.set_cons_zero, List.set_cons_succ]
        refine wpAnyH_take (i := 4) (oi := { dst := some 16, op := Op.load 40 (Operand.tmp 5), type := 40, pos := "sem.go:160", after := #[], guard := none }) (v := ?_) rfl (by kernel_rfl) (by kernel_rfl) (by kernel_rfl) (fun _ _ _ h => h) (Or.inl ⟨by rfl, ?_⟩) (by assumption) ?_
        rotate_left
        · intro w' hSw; obtain ⟨d0, d1, d2, d3, d4, d5, d6, d7⟩ := hSw; go_simp; try with_reducible rfl
        simp only [Act.put, List.setIfInBounds_toArray, List.set_cons_zero, List.set_cons_succ]
        refine wpAnyH_ready (rs := [2]) (by kernel_rfl) (by simp) (AllReadyH.cons rfl (fun K hK => ?_) AllReadyH.nil)
        go_simp
        go_wp2_with (go_at_call 37; (with_reducible refine (KD.out _).mono ?_); rintro e w2 ⟨P, rfl, hpk, hPl, hb2⟩)
        have hst := (HST1.out.below (w' := W1.drew) ((Below.refl _ _).drew)).below hb2
        have hz2 : Tk6 w2 w.heap.size tbZ taZ := (hb2.block _ HZ1.out.lt).trans HZ1.out
        have hx2 := (hb2.block X (Array.getElem?_eq_some_iff.1 HX1.out).1)
        refine hK.out _ _ (HSS.out _ hx2) (fun hS2 => ?_)
        clear hK K
        refine wpAnyH_take (i := 3) (oi := { dst := some 15, op := Op.field 80 (Operand.tmp 14) 0, type := 78, pos := "sem.go:160", after := #[{ on := 2, ground := Ground.data }], guard := none }) (v := ?_) rfl (by kernel_rfl) (by kernel_rfl) (by kernel_rfl) (fun _ _ _ h => h) (Or.inl ⟨by rfl, ?_⟩) (by assumption) ?_
        rotate_left
        · intro w' hSw; obtain ⟨d0, d1, d2, d3, d4, d5, d6, d7⟩ := hSw; go_simp; try with_reducible rfl
        simp only [Act.put, List.setIfInBounds_toArray, List.set_cons_zero, List.set_cons_succ]
        have hbt := HBT.out
        have KL := Lib.hid (lst0_any hst hpk HX.out HKD.out HBD.out.1 hbt.1)
        have HOFF := Lib.hid (And.intro hst (And.intro hz2 (hx2.trans HX1.out)))
        unfold itv at KL
        clear hst hz2 hx2 hbt hpk hPl hb2
        refine wpAnyH_ready (rs := [5]) (by kernel_rfl) (by simp) (AllReadyH.cons rfl (fun K hK => ?_) AllReadyH.nil)
        go_simp
        go_wp2_with (go_at_call 70; (with_reducible refine KL.out.mono ?_); rintro e w3 ⟨rfl, t', a', o', ht3, hst3, hfr3⟩)
        obtain ⟨hst2, hz2, hx2⟩ := HOFF.out
        have hz3 : Tk6 w3 w.heap.size tbZ taZ := hst2.off hfr3 hz2 (by omega) (by decide) (by decide) (by decide)
        have hx3 := hst2.off hfr3 hx2 (typ_ne hx2 hst2.tb (by decide)) (by decide) (by decide) (by decide)
        refine hK.out _ _ (HSS.out _ (hx3.trans HX1.out.symm)) (fun hS5 => ?_)
        have HFT := Lib.hid ht3
        have HFS := Lib.hid hst3
        have HFZ := Lib.hid hz3
        clear hK K hS5 hS2 hst2 hz2 hx2 hx3 hz3 hst3 hfr3 ht3
        refine wpAnyH_done (by kernel_rfl) ?_ _
        go_wp2
        exact ⟨⟨k + 1, t', a', o', by omega, by go_num, Lib.hid (by rw [HFT.out, HT.out, HTK.out]), HFS, HFZ⟩, by simp [intOf]; omega⟩
      · have HKD := Lib.hid hkd
        have KD := Lib.hid (fun W => deed1_any (w.heap.size + 1) x.kind HKD.out W)
        clear hkd
        go_wp2
        clear y0 y1 y2 y3 y4 y5 y6 y7
        generalize hX : wr.heap.size = X at *
        generalize wr.alloc (.cells #[.int .i64 x.kind, .int .i64 x.at_, .string (str x.name), .int .i64 x.val.kind, .int .i64 x.val.at_, .int .i64 x.val.n, .string (str x.val.s), .slice A1 n1 s1] 40) = W1 at *
        have HSS : Hid (∀ w' : World, w'.heap[X]? = W1.heap[X]? → (fun w' => w'.cell? ⟨X, 0, none⟩ = some (.int .i64 x.kind) ∧ w'.cell? ⟨X, 1, none⟩ = some (.int .i64 x.at_) ∧ w'.cell? ⟨X, 2, none⟩ = some (.string (str x.name)) ∧ w'.cell? ⟨X, 3, none⟩ = some (.int .i64 x.val.kind) ∧ w'.cell? ⟨X, 4, none⟩ = some (.int .i64 x.val.at_) ∧ w'.cell? ⟨X, 5, none⟩ = some (.int .i64 x.val.n) ∧ w'.cell? ⟨X, 6, none⟩ = some (.string (str x.val.s)) ∧ w'.cell? ⟨X, 7, none⟩ = some (.slice A1 n1 s1)) w') := Lib.hid fun w' e => cells8 (e.trans HX1.out)
        refine wp_region_held_drew (S := fun w' => w'.cell? ⟨X, 0, none⟩ = some (.int .i64 x.kind) ∧ w'.cell? ⟨X, 1, none⟩ = some (.int .i64 x.at_) ∧ w'.cell? ⟨X, 2, none⟩ = some (.string (str x.name)) ∧ w'.cell? ⟨X, 3, none⟩ = some (.int .i64 x.val.kind) ∧ w'.cell? ⟨X, 4, none⟩ = some (.int .i64 x.val.at_) ∧ w'.cell? ⟨X, 5, none⟩ = some (.int .i64 x.val.n) ∧ w'.cell? ⟨X, 6, none⟩ = some (.string (str x.val.s)) ∧ w'.cell? ⟨X, 7, none⟩ = some (.slice A1 n1 s1)) (by kernel_rfl) (HSS.out _ rfl) (fun hS0 => ?_)
        try dsimp only at hS0
        refine wpAnyH_take (i := 0) (oi := { dst := some 12, op := Op.fieldAddr 40 (Operand.tmp 5) 0, type := 0, pos := "sem.go:160", after := #[], guard := none }) (v := ?_) rfl (by kernel_rfl) (by kernel_rfl) (by kernel_rfl) (fun _ _ _ h => h) (Or.inl ⟨by rfl, ?_⟩) (by assumption) ?_
        rotate_left
        · intro w' hSw; obtain ⟨d0, d1, d2, d3, d4, d5, d6, d7⟩ := hSw; go_simp; try with_reducible rfl
        simp only [Act.put, List.setIfInBounds_toArray, List.set_cons_zero, List.set_cons_succ]
        refine wpAnyH_take (i := 1) (oi := { dst := some 13, op := Op.load 3 (Operand.tmp 12), type := 3, pos := "sem.go:160", after := #[{ on := 0, ground := Ground.data }], guard := none }) (v := ?_) rfl (by kernel_rfl) (by kernel_rfl) (by kernel_rfl) (fun _ _ _ h => h) (Or.inl ⟨by rfl, ?_⟩) (by assumption) ?_
        rotate_left
        · intro w' hSw; obtain ⟨d0, d1, d2, d3, d4, d5, d6, d7⟩ := hSw; go_simp; try with_reducible rfl
        simp only [Act.put, List.setIfInBounds_toArray, List.set_cons_zero, List.set_cons_succ]
        refine wpAnyH_take (i := 4) (oi := { dst := some 16, op := Op.load 40 (Operand.tmp 5), type := 40, pos := "sem.go:160", after := #[], guard := none }) (v := ?_) rfl (by kernel_rfl) (by kernel_rfl) (by kernel_rfl) (fun _ _ _ h => h) (Or.inl ⟨by rfl, ?_⟩) (by assumption) ?_
        rotate_left
        · intro w' hSw; obtain ⟨d0, d1, d2, d3, d4, d5, d6, d7⟩ := hSw; go_simp; try with_reducible rfl
        simp only [Act.put, List.setIfInBounds_toArray, List.set_cons_zero, List.set_cons_succ]
        refine wpAnyH_ready (rs := [2]) (by kernel_rfl) (by simp) (AllReadyH.cons rfl (fun K hK => ?_) AllReadyH.nil)
        go_simp
        go_wp2_with (go_at_call 37; (with_reducible refine (KD.out _).mono ?_); rintro e w2 ⟨P, rfl, hpk, hPl, hb2⟩)
        have hst := (HST1.out.below (w' := W1.drew) ((Below.refl _ _).drew)).below hb2
        have hz2 : Tk6 w2 w.heap.size tbZ taZ := (hb2.block _ HZ1.out.lt).trans HZ1.out
        have hx2 := (hb2.block X (Array.getElem?_eq_some_iff.1 HX1.out).1)
        refine hK.out _ _ (HSS.out _ hx2) (fun hS2 => ?_)
        clear hK K
        refine wpAnyH_take (i := 3) (oi := { dst := some 15, op := Op.field 80 (Operand.tmp 14) 0, type := 78, pos := "sem.go:160", after := #[{ on := 2, ground := Ground.data }], guard := none }) (v := ?_) rfl (by kernel_rfl) (by kernel_rfl) (by kernel_rfl) (fun _ _ _ h => h) (Or.inl ⟨by rfl, ?_⟩) (by assumption) ?_
        rotate_left
        · intro w' hSw; obtain ⟨d0, d1, d2, d3, d4, d5, d6, d7⟩ := hSw; go_simp; try with_reducible rfl
        simp only [Act.put, List.setIfInBounds_toArray, List.set_cons_zero, List.set_cons_succ]
        have hbt := HBT.out
        have KL := Lib.hid (lst1_any hst hpk HX.out HKD.out HBD.out.1 hbt.2.1)
        have HOFF := Lib.hid (And.intro hst (And.intro hz2 (hx2.trans HX1.out)))
        unfold itv at KL
        clear hst hz2 hx2 hbt hpk hPl hb2
        refine wpAnyH_ready (rs := [5]) (by kernel_rfl) (by simp) (AllReadyH.cons rfl (fun K hK => ?_) AllReadyH.nil)
        go_simp
        go_wp2_with (go_at_call 73; (with_reducible refine KL.out.mono ?_); rintro e w3 ⟨rfl, t', a', o', ht3, hst3, hfr3⟩)
        obtain ⟨hst2, hz2, hx2⟩ := HOFF.out
        have hz3 : Tk6 w3 w.heap.size tbZ taZ := hst2.off hfr3 hz2 (by omega) (by decide) (by decide) (by decide)
        have hx3 := hst2.off hfr3 hx2 (typ_ne hx2 hst2.tb (by decide)) (by decide) (by decide) (by decide)
        refine hK.out _ _ (HSS.out _ (hx3.trans HX1.out.symm)) (fun hS5 => ?_)
        have HFT := Lib.hid ht3
        have HFS := Lib.hid hst3
        have HFZ := Lib.hid hz3
        clear hK K hS5 hS2 hst2 hz2 hx2 hx3 hz3 hst3 hfr3 ht3
        refine wpAnyH_done (by kernel_rfl) ?_ _
        go_wp2
        exact ⟨⟨k + 1, t', a', o', by omega, by go_num, Lib.hid (by rw [HFT.out, HT.out, HTK.out]), HFS, HFZ⟩, by simp [intOf]; omega⟩
      · have HKD := Lib.hid hkd
        have KD := Lib.hid (fun W => deed2_any (w.heap.size + 1) x.kind HKD.out W)
        clear hkd
        go_wp2
        clear y0 y1 y2 y3 y4 y5 y6 y7
        generalize hX : wr.heap.size = X at *
        generalize wr.alloc (.cells #[.int .i64 x.kind, .int .i64 x.at_, .string (str x.name), .int .i64 x.val.kind, .int .i64 x.val.at_, .int .i64 x.val.n, .string (str x.val.s), .slice A1 n1 s1] 40) = W1 at *
        have HSS : Hid (∀ w' : World, w'.heap[X]? = W1.heap[X]? → (fun w' => w'.cell? ⟨X, 0, none⟩ = some (.int .i64 x.kind) ∧ w'.cell? ⟨X, 1, none⟩ = some (.int .i64 x.at_) ∧ w'.cell? ⟨X, 2, none⟩ = some (.string (str x.name)) ∧ w'.cell? ⟨X, 3, none⟩ = some (.int .i64 x.val.kind) ∧ w'.cell? ⟨X, 4, none⟩ = some (.int .i64 x.val.at_) ∧ w'.cell? ⟨X, 5, none⟩ = some (.int .i64 x.val.n) ∧ w'.cell? ⟨X, 6, none⟩ = some (.string (str x.val.s)) ∧ w'.cell? ⟨X, 7, none⟩ = some (.slice A1 n1 s1)) w') := Lib.hid fun w' e => cells8 (e.trans HX1.out)
        refine wp_region_held_drew (S := fun w' => w'.cell? ⟨X, 0, none⟩ = some (.int .i64 x.kind) ∧ w'.cell? ⟨X, 1, none⟩ = some (.int .i64 x.at_) ∧ w'.cell? ⟨X, 2, none⟩ = some (.string (str x.name)) ∧ w'.cell? ⟨X, 3, none⟩ = some (.int .i64 x.val.kind) ∧ w'.cell? ⟨X, 4, none⟩ = some (.int .i64 x.val.at_) ∧ w'.cell? ⟨X, 5, none⟩ = some (.int .i64 x.val.n) ∧ w'.cell? ⟨X, 6, none⟩ = some (.string (str x.val.s)) ∧ w'.cell? ⟨X, 7, none⟩ = some (.slice A1 n1 s1)) (by kernel_rfl) (HSS.out _ rfl) (fun hS0 => ?_)
        try dsimp only at hS0
        refine wpAnyH_take (i := 0) (oi := { dst := some 12, op := Op.fieldAddr 40 (Operand.tmp 5) 0, type := 0, pos := "sem.go:160", after := #[], guard := none }) (v := ?_) rfl (by kernel_rfl) (by kernel_rfl) (by kernel_rfl) (fun _ _ _ h => h) (Or.inl ⟨by rfl, ?_⟩) (by assumption) ?_
        rotate_left
        · intro w' hSw; obtain ⟨d0, d1, d2, d3, d4, d5, d6, d7⟩ := hSw; go_simp; try with_reducible rfl
        simp only [Act.put, List.setIfInBounds_toArray, List.set_cons_zero, List.set_cons_succ]
        refine wpAnyH_take (i := 1) (oi := { dst := some 13, op := Op.load 3 (Operand.tmp 12), type := 3, pos := "sem.go:160", after := #[{ on := 0, ground := Ground.data }], guard := none }) (v := ?_) rfl (by kernel_rfl) (by kernel_rfl) (by kernel_rfl) (fun _ _ _ h => h) (Or.inl ⟨by rfl, ?_⟩) (by assumption) ?_
        rotate_left
        · intro w' hSw; obtain ⟨d0, d1, d2, d3, d4, d5, d6, d7⟩ := hSw; go_simp; try with_reducible rfl
        simp only [Act.put, List.setIfInBounds_toArray, List.set_cons_zero, List.set_cons_succ]
        refine wpAnyH_take (i := 4) (oi := { dst := some 16, op := Op.load 40 (Operand.tmp 5), type := 40, pos := "sem.go:160", after := #[], guard := none }) (v := ?_) rfl (by kernel_rfl) (by kernel_rfl) (by kernel_rfl) (fun _ _ _ h => h) (Or.inl ⟨by rfl, ?_⟩) (by assumption) ?_
        rotate_left
        · intro w' hSw; obtain ⟨d0, d1, d2, d3, d4, d5, d6, d7⟩ := hSw; go_simp; try with_reducible rfl
        simp only [Act.put, List.setIfInBounds_toArray, List.set_cons_zero, List.set_cons_succ]
        refine wpAnyH_ready (rs := [2]) (by kernel_rfl) (by simp) (AllReadyH.cons rfl (fun K hK => ?_) AllReadyH.nil)
        go_simp
        go_wp2_with (go_at_call 37; (with_reducible refine (KD.out _).mono ?_); rintro e w2 ⟨P, rfl, hpk, hPl, hb2⟩)
        have hst := (HST1.out.below (w' := W1.drew) ((Below.refl _ _).drew)).below hb2
        have hz2 : Tk6 w2 w.heap.size tbZ taZ := (hb2.block _ HZ1.out.lt).trans HZ1.out
        have hx2 := (hb2.block X (Array.getElem?_eq_some_iff.1 HX1.out).1)
        refine hK.out _ _ (HSS.out _ hx2) (fun hS2 => ?_)
        clear hK K
        refine wpAnyH_take (i := 3) (oi := { dst := some 15, op := Op.field 80 (Operand.tmp 14) 0, type := 78, pos := "sem.go:160", after := #[{ on := 2, ground := Ground.data }], guard := none }) (v := ?_) rfl (by kernel_rfl) (by kernel_rfl) (by kernel_rfl) (fun _ _ _ h => h) (Or.inl ⟨by rfl, ?_⟩) (by assumption) ?_
        rotate_left
        · intro w' hSw; obtain ⟨d0, d1, d2, d3, d4, d5, d6, d7⟩ := hSw; go_simp; try with_reducible rfl
        simp only [Act.put, List.setIfInBounds_toArray, List.set_cons_zero, List.set_cons_succ]
        have hbt := HBT.out
        have KL := Lib.hid (lst2_any hst hpk HX.out HKD.out HBD.out.1 hbt.2.2.1)
        have HOFF := Lib.hid (And.intro hst (And.intro hz2 (hx2.trans HX1.out)))
        unfold itv at KL
        clear hst hz2 hx2 hbt hpk hPl hb2
        refine wpAnyH_ready (rs := [5]) (by kernel_rfl) (by simp) (AllReadyH.cons rfl (fun K hK => ?_) AllReadyH.nil)
        go_simp
        go_wp2_with (go_at_call 77; (with_reducible refine KL.out.mono ?_); rintro e w3 ⟨rfl, t', a', o', ht3, hst3, hfr3⟩)
        obtain ⟨hst2, hz2, hx2⟩ := HOFF.out
        have hz3 : Tk6 w3 w.heap.size tbZ taZ := hst2.off hfr3 hz2 (by omega) (by decide) (by decide) (by decide)
        have hx3 := hst2.off hfr3 hx2 (typ_ne hx2 hst2.tb (by decide)) (by decide) (by decide) (by decide)
        refine hK.out _ _ (HSS.out _ (hx3.trans HX1.out.symm)) (fun hS5 => ?_)
        have HFT := Lib.hid ht3
        have HFS := Lib.hid hst3
        have HFZ := Lib.hid hz3
        clear hK K hS5 hS2 hst2 hz2 hx2 hx3 hz3 hst3 hfr3 ht3
        refine wpAnyH_done (by kernel_rfl) ?_ _
        go_wp2
        exact ⟨⟨k + 1, t', a', o', by omega, by go_num, Lib.hid (by rw [HFT.out, HT.out, HTK.out]), HFS, HFZ⟩, by simp [intOf]; omega⟩
      · have HKD := Lib.hid hkd
        have KD := Lib.hid (fun W => deed3_any (w.heap.size + 1) x.kind HKD.out W)
        clear hkd
        go_wp2
        clear y0 y1 y2 y3 y4 y5 y6 y7
        generalize hX : wr.heap.size = X at *
        generalize wr.alloc (.cells #[.int .i64 x.kind, .int .i64 x.at_, .string (str x.name), .int .i64 x.val.kind, .int .i64 x.val.at_, .int .i64 x.val.n, .string (str x.val.s), .slice A1 n1 s1] 40) = W1 at *
        have HSS : Hid (∀ w' : World, w'.heap[X]? = W1.heap[X]? → (fun w' => w'.cell? ⟨X, 0, none⟩ = some (.int .i64 x.kind) ∧ w'.cell? ⟨X, 1, none⟩ = some (.int .i64 x.at_) ∧ w'.cell? ⟨X, 2, none⟩ = some (.string (str x.name)) ∧ w'.cell? ⟨X, 3, none⟩ = some (.int .i64 x.val.kind) ∧ w'.cell? ⟨X, 4, none⟩ = some (.int .i64 x.val.at_) ∧ w'.cell? ⟨X, 5, none⟩ = some (.int .i64 x.val.n) ∧ w'.cell? ⟨X, 6, none⟩ = some (.string (str x.val.s)) ∧ w'.cell? ⟨X, 7, none⟩ = some (.slice A1 n1 s1)) w') := Lib.hid fun w' e => cells8 (e.trans HX1.out)
        refine wp_region_held_drew (S := fun w' => w'.cell? ⟨X, 0, none⟩ = some (.int .i64 x.kind) ∧ w'.cell? ⟨X, 1, none⟩ = some (.int .i64 x.at_) ∧ w'.cell? ⟨X, 2, none⟩ = some (.string (str x.name)) ∧ w'.cell? ⟨X, 3, none⟩ = some (.int .i64 x.val.kind) ∧ w'.cell? ⟨X, 4, none⟩ = some (.int .i64 x.val.at_) ∧ w'.cell? ⟨X, 5, none⟩ = some (.int .i64 x.val.n) ∧ w'.cell? ⟨X, 6, none⟩ = some (.string (str x.val.s)) ∧ w'.cell? ⟨X, 7, none⟩ = some (.slice A1 n1 s1)) (by kernel_rfl) (HSS.out _ rfl) (fun hS0 => ?_)
        try dsimp only at hS0
        refine wpAnyH_take (i := 0) (oi := { dst := some 12, op := Op.fieldAddr 40 (Operand.tmp 5) 0, type := 0, pos := "sem.go:160", after := #[], guard := none }) (v := ?_) rfl (by kernel_rfl) (by kernel_rfl) (by kernel_rfl) (fun _ _ _ h => h) (Or.inl ⟨by rfl, ?_⟩) (by assumption) ?_
        rotate_left
        · intro w' hSw; obtain ⟨d0, d1, d2, d3, d4, d5, d6, d7⟩ := hSw; go_simp; try with_reducible rfl
        simp only [Act.put, List.setIfInBounds_toArray, List.set_cons_zero, List.set_cons_succ]
        refine wpAnyH_take (i := 1) (oi := { dst := some 13, op := Op.load 3 (Operand.tmp 12), type := 3, pos := "sem.go:160", after := #[{ on := 0, ground := Ground.data }], guard := none }) (v := ?_) rfl (by kernel_rfl) (by kernel_rfl) (by kernel_rfl) (fun _ _ _ h => h) (Or.inl ⟨by rfl, ?_⟩) (by assumption) ?_
        rotate_left
        · intro w' hSw; obtain ⟨d0, d1, d2, d3, d4, d5, d6, d7⟩ := hSw; go_simp; try with_reducible rfl
        simp only [Act.put, List.setIfInBounds_toArray, List.set_cons_zero, List.set_cons_succ]
        refine wpAnyH_take (i := 4) (oi := { dst := some 16, op := Op.load 40 (Operand.tmp 5), type := 40, pos := "sem.go:160", after := #[], guard := none }) (v := ?_) rfl (by kernel_rfl) (by kernel_rfl) (by kernel_rfl) (fun _ _ _ h => h) (Or.inl ⟨by rfl, ?_⟩) (by assumption) ?_
        rotate_left
        · intro w' hSw; obtain ⟨d0, d1, d2, d3, d4, d5, d6, d7⟩ := hSw; go_simp; try with_reducible rfl
        simp only [Act.put, List.setIfInBounds_toArray, List.set_cons_zero, List.set_cons_succ]
        refine wpAnyH_ready (rs := [2]) (by kernel_rfl) (by simp) (AllReadyH.cons rfl (fun K hK => ?_) AllReadyH.nil)
        go_simp
        go_wp2_with (go_at_call 37; (with_reducible refine (KD.out _).mono ?_); rintro e w2 ⟨P, rfl, hpk, hPl, hb2⟩)
        have hst := (HST1.out.below (w' := W1.drew) ((Below.refl _ _).drew)).below hb2
        have hz2 : Tk6 w2 w.heap.size tbZ taZ := (hb2.block _ HZ1.out.lt).trans HZ1.out
        have hx2 := (hb2.block X (Array.getElem?_eq_some_iff.1 HX1.out).1)
        refine hK.out _ _ (HSS.out _ hx2) (fun hS2 => ?_)
        clear hK K
        refine wpAnyH_take (i := 3) (oi := { dst := some 15, op := Op.field 80 (Operand.tmp 14) 0, type := 78, pos := "sem.go:160", after := #[{ on := 2, ground := Ground.data }], guard := none }) (v := ?_) rfl (by kernel_rfl) (by kernel_rfl) (by kernel_rfl) (fun _ _ _ h => h) (Or.inl ⟨by rfl, ?_⟩) (by assumption) ?_
        rotate_left
        · intro w' hSw; obtain ⟨d0, d1, d2, d3, d4, d5, d6, d7⟩ := hSw; go_simp; try with_reducible rfl
        simp only [Act.put, List.setIfInBounds_toArray, List.set_cons_zero, List.set_cons_succ]
        have hbt := HBT.out
        have KL := Lib.hid (lst3_any hst hpk HX.out HKD.out HBD.out.1 hbt.2.2.2 HBD.out.2.1 HBD.out.2.2)
        have HOFF := Lib.hid (And.intro hst (And.intro hz2 (hx2.trans HX1.out)))
        unfold itv at KL
        clear hst hz2 hx2 hbt hpk hPl hb2
        refine wpAnyH_ready (rs := [5]) (by kernel_rfl) (by simp) (AllReadyH.cons rfl (fun K hK => ?_) AllReadyH.nil)
        go_simp
        go_wp2_with (go_at_call 79; (with_reducible refine KL.out.mono ?_); rintro e w3 ⟨rfl, t', a', o', ht3, hst3, hfr3⟩)
        obtain ⟨hst2, hz2, hx2⟩ := HOFF.out
        have hz3 : Tk6 w3 w.heap.size tbZ taZ := hst2.off hfr3 hz2 (by omega) (by decide) (by decide) (by decide)
        have hx3 := hst2.off hfr3 hx2 (typ_ne hx2 hst2.tb (by decide)) (by decide) (by decide) (by decide)
        refine hK.out _ _ (HSS.out _ (hx3.trans HX1.out.symm)) (fun hS5 => ?_)
        have HFT := Lib.hid ht3
        have HFS := Lib.hid hst3
        have HFZ := Lib.hid hz3
        clear hK K hS5 hS2 hst2 hz2 hx2 hx3 hz3 hst3 hfr3 ht3
        refine wpAnyH_done (by kernel_rfl) ?_ _
        go_wp2
        exact ⟨⟨k + 1, t', a', o', by omega, by go_num, Lib.hid (by rw [HFT.out, HT.out, HTK.out]), HFS, HFZ⟩, by simp [intOf]; omega⟩
      · have HKD := Lib.hid hkd
        have KD := Lib.hid (fun W => deedN_any (w.heap.size + 1) x.kind HKD.out W)
        clear hkd
        go_wp2
        clear y0 y1 y2 y3 y4 y5 y6 y7
        generalize hX : wr.heap.size = X at *
        generalize wr.alloc (.cells #[.int .i64 x.kind, .int .i64 x.at_, .string (str x.name), .int .i64 x.val.kind, .int .i64 x.val.at_, .int .i64 x.val.n, .string (str x.val.s), .slice A1 n1 s1] 40) = W1 at *
        have HSS : Hid (∀ w' : World, w'.heap[X]? = W1.heap[X]? → (fun w' => w'.cell? ⟨X, 0, none⟩ = some (.int .i64 x.kind) ∧ w'.cell? ⟨X, 1, none⟩ = some (.int .i64 x.at_) ∧ w'.cell? ⟨X, 2, none⟩ = some (.string (str x.name)) ∧ w'.cell? ⟨X, 3, none⟩ = some (.int .i64 x.val.kind) ∧ w'.cell? ⟨X, 4, none⟩ = some (.int .i64 x.val.at_) ∧ w'.cell? ⟨X, 5, none⟩ = some (.int .i64 x.val.n) ∧ w'.cell? ⟨X, 6, none⟩ = some (.string (str x.val.s)) ∧ w'.cell? ⟨X, 7, none⟩ = some (.slice A1 n1 s1)) w') := Lib.hid fun w' e => cells8 (e.trans HX1.out)
        refine wp_region_held_drew (S := fun w' => w'.cell? ⟨X, 0, none⟩ = some (.int .i64 x.kind) ∧ w'.cell? ⟨X, 1, none⟩ = some (.int .i64 x.at_) ∧ w'.cell? ⟨X, 2, none⟩ = some (.string (str x.name)) ∧ w'.cell? ⟨X, 3, none⟩ = some (.int .i64 x.val.kind) ∧ w'.cell? ⟨X, 4, none⟩ = some (.int .i64 x.val.at_) ∧ w'.cell? ⟨X, 5, none⟩ = some (.int .i64 x.val.n) ∧ w'.cell? ⟨X, 6, none⟩ = some (.string (str x.val.s)) ∧ w'.cell? ⟨X, 7, none⟩ = some (.slice A1 n1 s1)) (by kernel_rfl) (HSS.out _ rfl) (fun hS0 => ?_)
        try dsimp only at hS0
        refine wpAnyH_take (i := 0) (oi := { dst := some 12, op := Op.fieldAddr 40 (Operand.tmp 5) 0, type := 0, pos := "sem.go:160", after := #[], guard := none }) (v := ?_) rfl (by kernel_rfl) (by kernel_rfl) (by kernel_rfl) (fun _ _ _ h => h) (Or.inl ⟨by rfl, ?_⟩) (by assumption) ?_
        rotate_left
        · intro w' hSw; obtain ⟨d0, d1, d2, d3, d4, d5, d6, d7⟩ := hSw; go_simp; try with_reducible rfl
        simp only [Act.put, List.setIfInBounds_toArray, List.set_cons_zero, List.set_cons_succ]
        refine wpAnyH_take (i := 1) (oi := { dst := some 13, op := Op.load 3 (Operand.tmp 12), type := 3, pos := "sem.go:160", after := #[{ on := 0, ground := Ground.data }], guard := none }) (v := ?_) rfl (by kernel_rfl) (by kernel_rfl) (by kernel_rfl) (fun _ _ _ h => h) (Or.inl ⟨by rfl, ?_⟩) (by assumption) ?_
        rotate_left
        · intro w' hSw; obtain ⟨d0, d1, d2, d3, d4, d5, d6, d7⟩ := hSw; go_simp; try with_reducible rfl
        simp only [Act.put, List.setIfInBounds_toArray, List.set_cons_zero, List.set_cons_succ]
        refine wpAnyH_take (i := 4) (oi := { dst := some 16, op := Op.load 40 (Operand.tmp 5), type := 40, pos := "sem.go:160", after := #[], guard := none }) (v := ?_) rfl (by kernel_rfl) (by kernel_rfl) (by kernel_rfl) (fun _ _ _ h => h) (Or.inl ⟨by rfl, ?_⟩) (by assumption) ?_
        rotate_left
        · intro w' hSw; obtain ⟨d0, d1, d2, d3, d4, d5, d6, d7⟩ := hSw; go_simp; try with_reducible rfl
        simp only [Act.put, List.setIfInBounds_toArray, List.set_cons_zero, List.set_cons_succ]
        refine wpAnyH_ready (rs := [2]) (by kernel_rfl) (by simp) (AllReadyH.cons rfl (fun K hK => ?_) AllReadyH.nil)
        go_simp
        go_wp2_with (go_at_call 37; (with_reducible refine (KD.out _).mono ?_); rintro e w2 ⟨P, rfl, hpk, hPl, hb2⟩)
        have hst := (HST1.out.below (w' := W1.drew) ((Below.refl _ _).drew)).below hb2
        have hz2 : Tk6 w2 w.heap.size tbZ taZ := (hb2.block _ HZ1.out.lt).trans HZ1.out
        have hx2 := (hb2.block X (Array.getElem?_eq_some_iff.1 HX1.out).1)
        refine hK.out _ _ (HSS.out _ hx2) (fun hS2 => ?_)
        clear hK K
        refine wpAnyH_take (i := 3) (oi := { dst := some 15, op := Op.field 80 (Operand.tmp 14) 0, type := 78, pos := "sem.go:160", after := #[{ on := 2, ground := Ground.data }], guard := none }) (v := ?_) rfl (by kernel_rfl) (by kernel_rfl) (by kernel_rfl) (fun _ _ _ h => h) (Or.inl ⟨by rfl, ?_⟩) (by assumption) ?_
        rotate_left
        · intro w' hSw; obtain ⟨d0, d1, d2, d3, d4, d5, d6, d7⟩ := hSw; go_simp; try with_reducible rfl
        simp only [Act.put, List.setIfInBounds_toArray, List.set_cons_zero, List.set_cons_succ]
        have hbt := HBT.out
        have KL := Lib.hid (lstN_any (xA := A1) (xn := n1) (xc := s1) hst HKD.out)
        have HOFF := Lib.hid (And.intro hst (And.intro hz2 (hx2.trans HX1.out)))
        unfold itv at KL
        clear hst hz2 hx2 hbt hpk hPl hb2
        refine wpAnyH_ready (rs := [5]) (by kernel_rfl) (by simp) (AllReadyH.cons rfl (fun K hK => ?_) AllReadyH.nil)
        go_simp
        go_wp2_with (go_at_call 83; (with_reducible refine KL.out.mono ?_); rintro e w3 ⟨rfl, t', a', o', ht3, hst3, hfr3⟩)
        obtain ⟨hst2, hz2, hx2⟩ := HOFF.out
        have hz3 : Tk6 w3 w.heap.size tbZ taZ := hst2.off hfr3 hz2 (by omega) (by decide) (by decide) (by decide)
        have hx3 := hst2.off hfr3 hx2 (typ_ne hx2 hst2.tb (by decide)) (by decide) (by decide) (by decide)
        refine hK.out _ _ (HSS.out _ (hx3.trans HX1.out.symm)) (fun hS5 => ?_)
        have HFT := Lib.hid ht3
        have HFS := Lib.hid hst3
        have HFZ := Lib.hid hz3
        clear hK K hS5 hS2 hst2 hz2 hx2 hx3 hz3 hst3 hfr3 ht3
        refine wpAnyH_done (by kernel_rfl) ?_ _
        go_wp2
        exact ⟨⟨k + 1, t', a', o', by omega, by go_num, Lib.hid (by rw [HFT.out, HT.out, HTK.out]), HFS, HFZ⟩, by simp [intOf]; omega⟩
    · have t0 : decide (k < n) = false := by simp; omega
      have htk : is.take k = is := List.take_of_length_le (by rw [HD.out, List.length_map]; have := HL.out; omega)
      have ht := HT.out
      rw [htk] at ht
      have hrt := HS.out.rt.tm
      have HFin : Hid (∀ act : Act, act.defers = [] → act.tmps[2]?.getD undef = .pointer (some ⟨w.heap.size, 0, none⟩) → bodyPost Tryz.prog Tryz.f20 (TabR w.heap.size w fun p => p = lstL Pg.nil is) .ret act (put6 wr w.heap.size (.string (str t.nm)) (.int .i64 t.wm) (.slice a.a0 t.sp.length a.c0) (.slice a.a1 t.ci.length a.c1) (.slice a.a2 t.no.length a.c2) (.slice a.a3 t.bf.length a.c3))) := Lib.hid fun act hd h2 => tab_ret Tryz.results20 HZ.out (hrt.ret ht HS.out.be (Nat.le_refl _) (Nat.le_refl _) ⟨_, _, HZ.out⟩) hd h2
      obtain ⟨y0, y1, y2, y3, y4, y5⟩ := HS.out.tb.cells
      obtain ⟨z0, z1, z2, z3, z4, z5⟩ := cells6 HZ.out
      obtain ⟨f0, f1, f2, f3, f4, f5⟩ := thaw6 HZ.out
      clear hrt ht htk
      unfold put6 at HFin
      go_wp2_with (with_reducible exact HFin.out _ rfl rfl)
end Go.Proofs.YtmjneokjgcgchaaGreat
