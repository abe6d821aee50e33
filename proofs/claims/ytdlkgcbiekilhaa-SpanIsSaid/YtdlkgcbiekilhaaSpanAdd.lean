/-
  The program's own add.
-/
import Derived.Test.YtdlkgcbiekilhaaSpanPro1
import Derived.Deep.AppendLies
import Derived.Laws.OwnMore
namespace Go.Proofs.Ytdlkgcbiekilhaa
open Go.RowKit
attribute [local go_sem ↓] Go.wp_at_zero Go.wp_at_succ

theorem gb_below {w w' : World} (h : Below w.heap.size w w') (row : Option Nat) : w.grownBy w' row := ⟨h.os, h.tape, h.output, h.size, fun k hk _ => h.block k hk⟩
theorem gb_trans {a b c : World} {r r' : Option Nat} (h : a.grownBy b r) (k : b.grownBy c r') (hr : ∀ g, r' = some g → r = some g ∨ a.heap.size ≤ g) : a.grownBy c r :=
  ⟨k.os.trans h.os, k.tape.trans h.tape, k.output.trans h.output, Nat.le_trans h.size k.size, fun j hj hne => (k.block j (Nat.lt_of_lt_of_le hj h.size) fun e => by
    rcases hr j e.symm with h1 | h1
    · exact hne h1.symm
    · omega).trans (h.block j hj hne)⟩
/-- What adds to a row hands back: the row, which is the old one or a new one. -/
def Added (w : World) (base : Nat) (v : Value) (m : List Sp) (e : Ending) (w' : World) : Prop :=
  ∃ v', e = .returned v' ∧ w'.ownsRow base 24 4 v' m.length (svs m) ∧ w.grownBy w' v.ownBlock ∧ (∀ g, v'.ownBlock = some g → v.ownBlock = some g ∨ w.heap.size ≤ g)
theorem own_sc {w : World} {base : Nat} {e : TypeId} {v : Value} {n : Nat} {out : List Sp} {x : Sp} (h : w.ownsRow base e 4 v n (svs out ++ sq x)) (hn : n = out.length + 1) : w.ownsRow base e 4 v (out ++ [x]).length (svs (out ++ [x])) := by
  subst hn
  rw [svs_append, List.length_append]
  simpa [svs] using h
theorem own_hi {w : World} {base : Nat} {e : TypeId} {g cap n : Nat} {p : List Sp} {y : Sp} {hi : Int} (h : w.ownsRow base e 4 (.slice (some ⟨g, 0, none⟩) n cap) n (svs (p ++ [y]))) :
    (w.setCell ⟨g, p.length * 4 + 2, none⟩ (.int .i64 hi)).ownsRow base e 4 (.slice (some ⟨g, 0, none⟩) n cap) n (svs (p ++ [{ y with hi := hi }])) ∧ w.grownBy (w.setCell ⟨g, p.length * 4 + 2, none⟩ (.int .i64 hi)) (some g) := by
  have k := h.stored (p.length * 4 + 2) (.int .i64 hi)
  have e1 : (svs (p ++ [y])).set (p.length * 4 + 2) (.int .i64 hi) = svs (p ++ [{ y with hi := hi }]) := by
    rw [svs_append, svs_append, List.set_append_right _ _ (by rw [svs_length]; omega), svs_length, show p.length * 4 + 2 - p.length * 4 = 2 by omega]
    rfl
  rw [e1] at k
  exact k
set_option maxRecDepth 100000 in
set_option maxHeartbeats 4000000 in
theorem add_any (st : Bool) (base : Nat) (v : Value) (o : List Sp) (x : Sp) (w : World) (hown : w.ownsRow base 24 4 v o.length (svs o)) (hbase : base ≤ w.heap.size) (hl : o.length ≤ 1073741824) (hs : ∀ y ∈ o, Nr y) (hx : Nr x) :
    Calls Try.prog 46 #[v, sv x, .bool st] w (Added w base v (addL st o x)) := by
  obtain ⟨i0, hi, hz0, hz1, hz2⟩ := info_parts infoS
  rcases List.eq_nil_or_concat o with rfl | ⟨p, y, rfl⟩
  · obtain ⟨c, _, _, A, rfl, _⟩ := Ss.of_own hown
    rw [addL_nil]
    unfold sv
    go_enter Try.func46, Try.ntmps46
    go_wp2
    go_quiet (fail)
    obtain ⟨W1, hW1⟩ : ∃ W1, ((w.alloc (.cells #[.int .i64 x.n, .int .i64 x.lo, .int .i64 x.hi, .int .i64 x.to] 24)).drewN nq) = W1 := ⟨_, rfl⟩
    have hW : Below w.heap.size w W1 := by rw [← hW1]; exact below_drewN ((Below.refl _ _).alloc (Nat.le_refl _) _) _
    have hbx : Bs W1 w.heap.size x := by rw [← hW1]; exact Bs.below (B := w.heap.size + 1) (Bs.new w x 24) (below_drewN (Below.refl _ _) _) (by omega)
    have hown1 := own_belowS hown hW (Nat.le_refl _)
    have hz : w.heap.size < W1.heap.size := by rw [← hW1]; simp
    rw [hW1]
    clear hW1 hown
    obtain ⟨y0, y1, y2, y3⟩ := hbx
    simp only [Nat.zero_add] at y1 y2 y3
    go_wp2_with (at_builtin; refine wpList_append_lies _ rfl _ _ _ rfl base 24 i0 (.agg #[.int .i64 0, .int .i64 0, .int .i64 0, .int .i64 0]) 4 32 Try.underlying22 hi hz0 hz1 hz2 rfl (by omega) _ _ _ rfl (hown1.alloc _) ⟨W1.heap.size, 0, none⟩ 1 1 (sq x) rfl rfl (World.news_of_block (heap_alloc_new W1 _)) (by intro u hu; exact svs_one [x] u (by simpa [svs] using hu)) (by omega) (by unfold maxLen; omega) (by omega) (by simp; omega) _ rfl ?_; intro g2 cap2 w3 hown3 hgrow hat hgl)
    go_ret
    refine ⟨_, rfl, own_sc (out := []) hown3 rfl, gb_trans (gb_trans (gb_below hW _) (World.grownBy_alloc W1 _ _) (fun g e => .inl e)) hgrow (fun g e => .inl e), fun g e => ?_⟩
    have e2 : g2 = g := by simpa [Value.ownBlock] using e
    subst e2
    rcases hat with h | h
    · exact .inl h
    · exact .inr (by rw [h]; simp; omega)
  · rw [List.concat_eq_append] at *
    have hys : Nr y := hs y (by simp)
    obtain ⟨g, cap, rfl, hg1, hg2⟩ := hown.form (by simp)
    have hle : (p ++ [y]).length = p.length + 1 := by simp
    rw [hle] at hown hl ⊢
    have K1 := Lib.hid (fun W => joins_any st y x W hys hx)
    have hm : (addL st (p ++ [y]) x) = if jnS st y x then p ++ [{ y with hi := x.hi }] else p ++ [y] ++ [x] := addL_snoc p y x
    obtain ⟨m, hmm⟩ : ∃ m, m = addL st (p ++ [y]) x := ⟨_, rfl⟩
    rw [← hmm]
    have HM := Lib.hid (hmm.trans hm)
    clear hmm hm hs hys hx hle
    have hcl : ∀ W, Below w.heap.size w W → S4 W g (p.length * 4) y := fun W hW => by
      have h1 := own_belowS hown hW (Nat.le_refl _)
      have key : ∀ i u, i < 4 → (sq y)[i]? = some u → W.cell? ⟨g, p.length * 4 + i, none⟩ = some u := fun i u hi hu => by
        have := h1.cells (g := g) rfl (p.length * 4 + i) u ((svs_get (p ++ [y]) p.length i y (by simp) hi).trans hu)
        rwa [addr_add, Nat.zero_add] at this
      exact ⟨key 0 _ (by omega) rfl, key 1 _ (by omega) rfl, key 2 _ (by omega) rfl, key 3 _ (by omega) rfl⟩
    have HCL := Lib.hid hcl
    have hb0 : Below w.heap.size w (w.alloc (.cells #[.int .i64 x.n, .int .i64 x.lo, .int .i64 x.hi, .int .i64 x.to] 24)) := (Below.refl _ _).alloc (Nat.le_refl _) _
    have hbz : Bs (w.alloc (.cells #[.int .i64 x.n, .int .i64 x.lo, .int .i64 x.hi, .int .i64 x.to] 24)) w.heap.size x := Bs.new _ _ _
    have hsz : w.heap.size < (w.alloc (.cells #[.int .i64 x.n, .int .i64 x.lo, .int .i64 x.hi, .int .i64 x.to] 24)).heap.size := by simp
    unfold sv at *
    go_enter Try.func46, Try.ntmps46
    go_wp2_with fail
    generalize w.alloc (.cells #[.int .i64 x.n, .int .i64 x.lo, .int .i64 x.hi, .int .i64 x.to] 24) = wr at *
    have HH : Hid (∀ w', Below wr.heap.size wr w' → (w'.cell? ⟨g, p.length * 4, none⟩ = some (.int .i64 y.n) ∧ w'.cell? ⟨g, p.length * 4 + 1, none⟩ = some (.int .i64 y.lo) ∧ w'.cell? ⟨g, p.length * 4 + 2, none⟩ = some (.int .i64 y.hi) ∧ w'.cell? ⟨g, p.length * 4 + 3, none⟩ = some (.int .i64 y.to)) ∧ w'.cell? ⟨w.heap.size, 0, none⟩ = some (.int .i64 x.n) ∧ w'.cell? ⟨w.heap.size, 1, none⟩ = some (.int .i64 x.lo) ∧ w'.cell? ⟨w.heap.size, 2, none⟩ = some (.int .i64 x.hi) ∧ w'.cell? ⟨w.heap.size, 3, none⟩ = some (.int .i64 x.to)) := Lib.hid fun w' hw => by
      have q := HCL.out w' (hb0.trans (hw.mono (by omega)))
      have r := Bs.below hbz hw hsz
      exact ⟨⟨q.c0, q.c1, q.c2, q.c3⟩, r.c0, r.c1, r.c2, r.c3⟩
    have z0 : Below wr.heap.size wr wr.drew := (Below.refl _ _).drew
    have HB : Hid (∀ w', Below wr.heap.size wr w' → Below w.heap.size w w' ∧ w.heap.size < w'.heap.size) := Lib.hid fun w' hw => ⟨hb0.trans (hw.mono (by omega)), Nat.lt_of_lt_of_le hsz hw.size⟩
    have HOW := Lib.hid hown
    clear hcl hb0 hbz hown hsz
    cases hj : decide (jnS st y x)
    all_goals
      rw [hj] at K1
      have HJ := Lib.hid hj
      clear hj
      go_region_held (fun w' => (w'.cell? ⟨g, p.length * 4, none⟩ = some (.int .i64 y.n) ∧ w'.cell? ⟨g, p.length * 4 + 1, none⟩ = some (.int .i64 y.lo) ∧ w'.cell? ⟨g, p.length * 4 + 2, none⟩ = some (.int .i64 y.hi) ∧ w'.cell? ⟨g, p.length * 4 + 3, none⟩ = some (.int .i64 y.to)) ∧ w'.cell? ⟨w.heap.size, 0, none⟩ = some (.int .i64 x.n) ∧ w'.cell? ⟨w.heap.size, 1, none⟩ = some (.int .i64 x.lo) ∧ w'.cell? ⟨w.heap.size, 2, none⟩ = some (.int .i64 x.hi) ∧ w'.cell? ⟨w.heap.size, 3, none⟩ = some (.int .i64 x.to))
        (first | with_reducible exact HH.out _ z8 | with_reducible exact HH.out _ z0)
        ((go_at_call 40; with_reducible refine (K1.out _).mono ?_; rintro e W1 ⟨rfl, y8⟩; have z8 := z0.trans (y8.mono z0.size)))
    · all_goals
        obtain ⟨hW, hz⟩ := HB.out _ z8
        have hown1 := own_belowS HOW.out hW (Nat.le_refl _)
        obtain ⟨_, y0, y1, y2, y3⟩ := HH.out _ z8
        go_wp2_with (at_builtin; refine wpList_append_lies _ rfl _ _ _ rfl base 24 i0 (.agg #[.int .i64 0, .int .i64 0, .int .i64 0, .int .i64 0]) 4 32 Try.underlying22 hi hz0 hz1 hz2 rfl (by omega) _ _ _ rfl (hown1.alloc _) ⟨W1.heap.size, 0, none⟩ 1 1 (sq x) rfl rfl (World.news_of_block (heap_alloc_new W1 _)) (by intro u hu; exact svs_one [x] u (by simpa [svs] using hu)) (by omega) (by unfold maxLen; omega) (by omega) (by simp; omega) _ rfl ?_; intro g2 cap2 w3 hown3 hgrow hat hgl)
        go_ret
        refine ⟨_, rfl, by rw [HM.out, if_neg (of_decide_eq_false HJ.out)]; exact own_sc (out := p ++ [y]) hown3 (by simp), gb_trans (gb_trans (gb_below hW _) (World.grownBy_alloc W1 _ _) (fun g e => .inl e)) hgrow (fun g e => .inl e), fun g e => ?_⟩
        have e2 : g2 = g := by simpa [Value.ownBlock] using e
        subst e2
        rcases hat with h | h
        · exact .inl h
        · exact .inr (by rw [h]; simp; omega)
    · all_goals
        obtain ⟨hW, hz⟩ := HB.out _ z8
        have hown1 := own_belowS HOW.out hW (Nat.le_refl _)
        obtain ⟨⟨x0, x1, x2, x3⟩, y0, y1, y2, y3⟩ := HH.out _ z8
        have hf := hown1.frozenAt (p.length * 4 + 2)
        obtain ⟨k1, k2⟩ := own_hi (hi := x.hi) hown1
        go_wp2
        go_ret
        refine ⟨_, rfl, ?_, gb_trans (gb_below hW _) k2 (fun g e => .inl e), fun g e => .inl e⟩
        rw [HM.out, if_pos (of_decide_eq_true HJ.out), List.length_append]
        exact k1
end Go.Proofs.Ytdlkgcbiekilhaa
