/-
  The program's own add.
-/
import Derived.Test.YtkkochjdimegpaaDestRun
import Derived.Deep.AppendLies
import Derived.Laws.OwnMore
namespace Go.Proofs.Ytkkochjdimegpaa
open Go.RowKit
attribute [local go_sem ↓] Go.wp_at_zero Go.wp_at_succ

theorem dgb_below {w w' : World} (h : Below w.heap.size w w') (row : Option Nat) : w.grownBy w' row := ⟨h.os, h.tape, h.output, h.size, fun k hk _ => h.block k hk⟩
theorem dgb_trans {a b c : World} {r r' : Option Nat} (h : a.grownBy b r) (k : b.grownBy c r') (hr : ∀ g, r' = some g → r = some g ∨ a.heap.size ≤ g) : a.grownBy c r :=
  ⟨k.os.trans h.os, k.tape.trans h.tape, k.output.trans h.output, Nat.le_trans h.size k.size, fun j hj hne => (k.block j (Nat.lt_of_lt_of_le hj h.size) fun e => by
    rcases hr j e.symm with h1 | h1
    · exact hne h1.symm
    · omega).trans (h.block j hj hne)⟩
/-- What adds to a row hands back: the row, which is the old one or a new one. -/
def AddedB (w : World) (base : Nat) (v : Value) (m : List Me) (e : Ending) (w' : World) : Prop :=
  ∃ v', e = .returned v' ∧ w'.ownsRow base 25 4 v' m.length (dvs m) ∧ w.grownBy w' v.ownBlock ∧ (∀ g, v'.ownBlock = some g → v.ownBlock = some g ∨ w.heap.size ≤ g)
theorem own_fc {w : World} {base : Nat} {e : TypeId} {v : Value} {n : Nat} {out : List Me} {x : Me} (h : w.ownsRow base e 4 v n (dvs out ++ fq x)) (hn : n = out.length + 1) : w.ownsRow base e 4 v (out ++ [x]).length (dvs (out ++ [x])) := by
  subst hn
  rw [dvs_append, List.length_append]
  simpa [dvs] using h
theorem own_hiB {w : World} {base : Nat} {e : TypeId} {g cap n : Nat} {p : List Me} {y : Me} {hi : Int} (h : w.ownsRow base e 4 (.slice (some ⟨g, 0, none⟩) n cap) n (dvs (p ++ [y]))) :
    (w.setCell ⟨g, p.length * 4 + 2, none⟩ (.int .i64 hi)).ownsRow base e 4 (.slice (some ⟨g, 0, none⟩) n cap) n (dvs (p ++ [{ y with b := { y.b with hi := hi } }])) ∧ w.grownBy (w.setCell ⟨g, p.length * 4 + 2, none⟩ (.int .i64 hi)) (some g) := by
  have k := h.stored (p.length * 4 + 2) (.int .i64 hi)
  have e1 : (dvs (p ++ [y])).set (p.length * 4 + 2) (.int .i64 hi) = dvs (p ++ [{ y with b := { y.b with hi := hi } }]) := by
    rw [dvs_append, dvs_append, List.set_append_right _ _ (by rw [dvs_length]; omega), dvs_length, show p.length * 4 + 2 - p.length * 4 = 2 by omega]
    rfl
  rw [e1] at k
  exact k
def addM (d : List Me) (x : Me) : List Me :=
  match d.getLast? with
  | none => [x]
  | some e => if jnB e.b x.b then d.dropLast ++ [{ e with b := { e.b with hi := x.b.hi } }] else d ++ [x]
theorem addM_nil (x : Me) : addM [] x = [x] := rfl
theorem addM_snoc (p : List Me) (e x : Me) : addM (p ++ [e]) x = if jnB e.b x.b then p ++ [{ e with b := { e.b with hi := x.b.hi } }] else p ++ [e] ++ [x] := by
  unfold addM
  rw [List.getLast?_concat, List.dropLast_concat]
theorem addM_pl (d : List Me) (x : Me) : pl (addM d x) = addE (pl d) x.b := by
  rcases List.eq_nil_or_concat d with rfl | ⟨p, e, rfl⟩
  · rfl
  · rw [List.concat_eq_append, addM_snoc, pl_append]
    show _ = addE (pl p ++ [e.b]) x.b
    rw [addE_snoc]
    split
    · rw [pl_append]; rfl
    · rw [pl_append, pl_append]; rfl
theorem addM_ul {w : World} {d : List Me} {x : Me} (hd : Utl w d) (hx : Ut w x.a x.c x.b.u) : Utl w (addM d x) := by
  rcases List.eq_nil_or_concat d with rfl | ⟨p, e, rfl⟩
  · intro m hm
    rw [addM_nil, List.mem_singleton] at hm
    rw [hm]; exact hx
  · rw [List.concat_eq_append] at *
    rw [addM_snoc]
    split
    · intro m hm
      rcases List.mem_append.1 hm with hm | hm
      · exact hd m (List.mem_append_left _ hm)
      · rw [List.mem_singleton] at hm
        subst hm
        exact hd e (by simp)
    · intro m hm
      rcases List.mem_append.1 hm with hm | hm
      · exact hd m hm
      · rw [List.mem_singleton] at hm
        rw [hm]; exact hx
theorem addM_length (d : List Me) (x : Me) : (addM d x).length ≤ d.length + 1 := by
  have := addE_length (pl d) x.b
  rw [← addM_pl, pl_length, pl_length] at this
  exact this
set_option maxRecDepth 100000 in
set_option maxHeartbeats 4000000 in
theorem dAdd_any (base : Nat) (v : Value) (o : List Me) (x : Me) (w : World) (hown : w.ownsRow base 25 4 v o.length (dvs o)) (hbase : base ≤ w.heap.size) (hl : o.length ≤ 1073741824) (hul : Ul w o) (hux : Un w x.a x.c x.b.u) (hs : ∀ y ∈ o, Sb y.b) (hx : Sb x.b) :
    Calls Try.prog 53 #[v, fv x] w (AddedB w base v (addM o x)) := by
  obtain ⟨i0, hi, hz0, hz1, hz2⟩ := info_parts infoB
  rcases List.eq_nil_or_concat o with rfl | ⟨p, y, rfl⟩
  · obtain ⟨c, _, _, A, rfl, _, _⟩ := Rd.of_own hown
    rw [addM_nil]
    unfold fv
    go_enter Try.func53, Try.ntmps53
    go_wp2
    go_quiet (fail)
    obtain ⟨W1, hW1⟩ : ∃ W1, ((w.alloc (.cells #[.int .i64 x.b.n, .int .i64 x.b.lo, .int .i64 x.b.hi, .slice x.a x.b.u.length x.c] 25)).drewN nq) = W1 := ⟨_, rfl⟩
    have hW : Below w.heap.size w W1 := by rw [← hW1]; exact below_drewN ((Below.refl _ _).alloc (Nat.le_refl _) _) _
    have hbx : Fb W1 w.heap.size x := by rw [← hW1]; exact Fb.below (B := w.heap.size + 1) (Fb.new w x 25) (below_drewN (Below.refl _ _) _) (by omega)
    have hown1 := own_belowD hown hW (Nat.le_refl _)
    have hz : w.heap.size < W1.heap.size := by rw [← hW1]; simp
    rw [hW1]
    clear hW1 hown
    obtain ⟨y0, y1, y2, y3⟩ := hbx
    simp only [Nat.zero_add] at y1 y2 y3
    go_wp2_with (at_builtin; refine wpList_append_lies _ rfl _ _ _ rfl base 25 i0 (.agg #[.int .i64 0, .int .i64 0, .int .i64 0, .slice none 0 0]) 4 48 Try.underlying22 hi hz0 hz1 hz2 rfl (by omega) _ _ _ rfl (hown1.alloc _) ⟨W1.heap.size, 0, none⟩ 1 1 (fq x) rfl rfl (World.news_of_block (heap_alloc_new W1 _)) (by intro u hu; exact dvs_one [x] u (by simpa [dvs] using hu)) (by omega) (by unfold maxLen; omega) (by omega) (by simp; omega) _ rfl ?_; intro g2 cap2 w3 hown3 hgrow hat hgl)
    go_ret
    refine ⟨_, rfl, own_fc (out := []) hown3 rfl, dgb_trans (dgb_trans (dgb_below hW _) (World.grownBy_alloc W1 _ _) (fun g e => .inl e)) hgrow (fun g e => .inl e), fun g e => ?_⟩
    have e2 : g2 = g := by simpa [Value.ownBlock] using e
    subst e2
    rcases hat with h | h
    · exact .inl h
    · exact .inr (by rw [h]; simp; omega)
  · rw [List.concat_eq_append] at *
    have hys : Sb y.b := hs y (by simp)
    have huy := hul y (by simp)
    obtain ⟨g, cap, rfl, hg1, hg2⟩ := hown.form (by simp)
    have hle : (p ++ [y]).length = p.length + 1 := by simp
    rw [hle] at hown hl ⊢
    have K1 := Lib.hid (fun W (hW : Below w.heap.size w W) => dJoins_any y x W (huy.over hW) (hux.over hW) hys hx)
    have hm : (addM (p ++ [y]) x) = if jnB y.b x.b then p ++ [{ y with b := { y.b with hi := x.b.hi } }] else p ++ [y] ++ [x] := addM_snoc p y x
    obtain ⟨m, hmm⟩ : ∃ m, m = addM (p ++ [y]) x := ⟨_, rfl⟩
    rw [← hmm]
    have HM := Lib.hid (hmm.trans hm)
    clear hmm hm hs hys hx hle huy hux hul
    have hcl : ∀ W, Below w.heap.size w W → F4 W g (p.length * 4) y := fun W hW => by
      have h1 := own_belowD hown hW (Nat.le_refl _)
      have key : ∀ i u, i < 4 → (fq y)[i]? = some u → W.cell? ⟨g, p.length * 4 + i, none⟩ = some u := fun i u hi hu => by
        have := h1.cells (g := g) rfl (p.length * 4 + i) u ((dvs_get (p ++ [y]) p.length i y (by simp) hi).trans hu)
        rwa [addr_add, Nat.zero_add] at this
      exact ⟨key 0 _ (by omega) rfl, key 1 _ (by omega) rfl, key 2 _ (by omega) rfl, key 3 _ (by omega) rfl⟩
    have HCL := Lib.hid hcl
    have hb0 : Below w.heap.size w (w.alloc (.cells #[.int .i64 x.b.n, .int .i64 x.b.lo, .int .i64 x.b.hi, .slice x.a x.b.u.length x.c] 25)) := (Below.refl _ _).alloc (Nat.le_refl _) _
    have hbz : Fb (w.alloc (.cells #[.int .i64 x.b.n, .int .i64 x.b.lo, .int .i64 x.b.hi, .slice x.a x.b.u.length x.c] 25)) w.heap.size x := Fb.new _ _ _
    have hsz : w.heap.size < (w.alloc (.cells #[.int .i64 x.b.n, .int .i64 x.b.lo, .int .i64 x.b.hi, .slice x.a x.b.u.length x.c] 25)).heap.size := by simp
    unfold fv at *
    go_enter Try.func53, Try.ntmps53
    go_wp2_with fail
    generalize w.alloc (.cells #[.int .i64 x.b.n, .int .i64 x.b.lo, .int .i64 x.b.hi, .slice x.a x.b.u.length x.c] 25) = wr at *
    have HH : Hid (∀ w', Below wr.heap.size wr w' → (w'.cell? ⟨g, p.length * 4, none⟩ = some (.int .i64 y.b.n) ∧ w'.cell? ⟨g, p.length * 4 + 1, none⟩ = some (.int .i64 y.b.lo) ∧ w'.cell? ⟨g, p.length * 4 + 2, none⟩ = some (.int .i64 y.b.hi) ∧ w'.cell? ⟨g, p.length * 4 + 3, none⟩ = some (.slice y.a y.b.u.length y.c)) ∧ w'.cell? ⟨w.heap.size, 0, none⟩ = some (.int .i64 x.b.n) ∧ w'.cell? ⟨w.heap.size, 1, none⟩ = some (.int .i64 x.b.lo) ∧ w'.cell? ⟨w.heap.size, 2, none⟩ = some (.int .i64 x.b.hi) ∧ w'.cell? ⟨w.heap.size, 3, none⟩ = some (.slice x.a x.b.u.length x.c)) := Lib.hid fun w' hw => by
      have q := HCL.out w' (hb0.trans (hw.mono (by omega)))
      have r := Fb.below hbz hw hsz
      exact ⟨⟨q.c0, q.c1, q.c2, q.c3⟩, r.c0, r.c1, r.c2, r.c3⟩
    have z0 : Below wr.heap.size wr wr.drew := (Below.refl _ _).drew
    have HB : Hid (∀ w', Below wr.heap.size wr w' → Below w.heap.size w w' ∧ w.heap.size < w'.heap.size) := Lib.hid fun w' hw => ⟨hb0.trans (hw.mono (by omega)), Nat.lt_of_lt_of_le hsz hw.size⟩
    have HOW := Lib.hid hown
    clear hcl hb0 hbz hown hsz
    cases hj : decide (jnB y.b x.b)
    all_goals
      rw [hj] at K1
      have HJ := Lib.hid hj
      clear hj
      go_region_held (fun w' => (w'.cell? ⟨g, p.length * 4, none⟩ = some (.int .i64 y.b.n) ∧ w'.cell? ⟨g, p.length * 4 + 1, none⟩ = some (.int .i64 y.b.lo) ∧ w'.cell? ⟨g, p.length * 4 + 2, none⟩ = some (.int .i64 y.b.hi) ∧ w'.cell? ⟨g, p.length * 4 + 3, none⟩ = some (.slice y.a y.b.u.length y.c)) ∧ w'.cell? ⟨w.heap.size, 0, none⟩ = some (.int .i64 x.b.n) ∧ w'.cell? ⟨w.heap.size, 1, none⟩ = some (.int .i64 x.b.lo) ∧ w'.cell? ⟨w.heap.size, 2, none⟩ = some (.int .i64 x.b.hi) ∧ w'.cell? ⟨w.heap.size, 3, none⟩ = some (.slice x.a x.b.u.length x.c))
        (first | with_reducible exact HH.out _ z8 | with_reducible exact HH.out _ z0)
        ((go_at_call 49; (with_reducible refine (K1.out _ (HB.out _ z0).1).mono ?_); rintro e W1 ⟨rfl, y8⟩; have z8 := z0.trans (y8.mono z0.size)))
    · all_goals
        obtain ⟨hW, hz⟩ := HB.out _ z8
        have hown1 := own_belowD HOW.out hW (Nat.le_refl _)
        obtain ⟨_, y0, y1, y2, y3⟩ := HH.out _ z8
        go_wp2_with (at_builtin; refine wpList_append_lies _ rfl _ _ _ rfl base 25 i0 (.agg #[.int .i64 0, .int .i64 0, .int .i64 0, .slice none 0 0]) 4 48 Try.underlying22 hi hz0 hz1 hz2 rfl (by omega) _ _ _ rfl (hown1.alloc _) ⟨W1.heap.size, 0, none⟩ 1 1 (fq x) rfl rfl (World.news_of_block (heap_alloc_new W1 _)) (by intro u hu; exact dvs_one [x] u (by simpa [dvs] using hu)) (by omega) (by unfold maxLen; omega) (by omega) (by simp; omega) _ rfl ?_; intro g2 cap2 w3 hown3 hgrow hat hgl)
        go_ret
        refine ⟨_, rfl, by rw [HM.out, if_neg (of_decide_eq_false HJ.out)]; exact own_fc (out := p ++ [y]) hown3 (by simp), dgb_trans (dgb_trans (dgb_below hW _) (World.grownBy_alloc W1 _ _) (fun g e => .inl e)) hgrow (fun g e => .inl e), fun g e => ?_⟩
        have e2 : g2 = g := by simpa [Value.ownBlock] using e
        subst e2
        rcases hat with h | h
        · exact .inl h
        · exact .inr (by rw [h]; simp; omega)
    · all_goals
        obtain ⟨hW, hz⟩ := HB.out _ z8
        have hown1 := own_belowD HOW.out hW (Nat.le_refl _)
        obtain ⟨⟨x0, x1, x2, x3⟩, y0, y1, y2, y3⟩ := HH.out _ z8
        have hf := hown1.frozenAt (p.length * 4 + 2)
        obtain ⟨k1, k2⟩ := own_hiB (hi := x.b.hi) hown1
        go_wp2
        go_ret
        refine ⟨_, rfl, ?_, dgb_trans (dgb_below hW _) k2 (fun g e => .inl e), fun g e => .inl e⟩
        rw [HM.out, if_pos (of_decide_eq_true HJ.out), List.length_append]
        exact k1
end Go.Proofs.Ytkkochjdimegpaa
