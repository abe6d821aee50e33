/-
  The program's own units.
-/
import Derived.Test.YtkkochjdimegpaaDestClone
namespace Go.Proofs.Ytkkochjdimegpaa
open Go.RowKit
attribute [local go_sem ↓] Go.wp_at_zero Go.wp_at_succ

theorem ivs_set_last {u : List Int} {q : Nat} (hq : u.length = q + 1) (d : Int) : (ivs u).set q (.int .i64 (lastU u + d)) = ivs (addU u d) := by
  rcases List.eq_nil_or_concat u with rfl | ⟨p, e, rfl⟩
  · simp at hq
  · rw [List.concat_eq_append] at *
    simp at hq
    rw [addU_snoc, lastU_snoc, ivs_append, ivs_append, List.set_append_right _ _ (by rw [ivs_length]; omega), ivs_length, hq, Nat.sub_self]
    rfl
set_option maxRecDepth 100000 in
set_option maxHeartbeats 4000000 in
/-- Units of a code: new memory. -/
theorem units_any (x : Me) (v : Int) (w : World) (hu : Un w x.a x.c x.b.u) (hk : okU x.b.u) (h0 : 0 ≤ x.b.lo) (h1 : x.b.lo < 4294967296) (h4 : 0 ≤ v) (h5 : v ≤ 4294967296) :
    Calls Try.prog 28 #[fv x, .int .i64 v] w fun e w' => ∃ r, e = .returned r ∧ w'.ownsRow w.heap.size 3 1 r x.b.u.length (ivs (goB x.b v)) ∧ Below w.heap.size w w' := by
  obtain ⟨q, hq⟩ : ∃ q, x.b.u.length = q + 1 := ⟨x.b.u.length - 1, by have := hk.1; omega⟩
  have hq64 : q < 64 := by have := hk.2.1; omega
  have K1 : Hid (∀ W, Below w.heap.size w W → Calls Try.prog 43 #[.slice x.a x.b.u.length x.c] W fun e w' => ∃ v, e = .returned v ∧ w'.ownsRow W.heap.size 3 1 v x.b.u.length (ivs x.b.u) ∧ Below W.heap.size W w') := Lib.hid fun W hW => Clone_any x.a x.c x.b.u W (hu.over hW) (by omega) (by omega)
  have K2 : Hid (∀ W, Below w.heap.size w W → Calls Try.prog 36 #[fv x, .int .i64 v] W fun e w' => e = .returned (.int .i64 (lastU x.b.u + (v - x.b.lo))) ∧ Below W.heap.size W w') := Lib.hid fun W hW => lastUnit_any x v W (hu.over hW).si hk h0 h1 h4 h5
  have hs := Fb.new w x 25
  have hb0 := al_below w (.cells #[.int .i64 x.b.n, .int .i64 x.b.lo, .int .i64 x.b.hi, .slice x.a x.b.u.length x.c] 25)
  have hz0 : w.heap.size < (w.alloc (.cells #[.int .i64 x.b.n, .int .i64 x.b.lo, .int .i64 x.b.hi, .slice x.a x.b.u.length x.c] 25)).heap.size := by simp
  have E1 := Lib.hid (ivs_set_last hq (v - x.b.lo))
  unfold fv at *
  rw [hq] at K1 K2 hs hb0 hz0 ⊢
  have HQ := Lib.hid hq
  clear hu hk h0 h1 h4 h5 hq
  go_enter Try.func28, Try.ntmps28
  go_wp2_with fail
  refine (K1.out _ hb0).mono ?_
  rintro e w1 ⟨r, rfl, hown, hb1⟩
  obtain ⟨g, cap, rfl, hg1, hg2⟩ := hown.form (by omega)
  obtain ⟨c0, c1, c2, c3⟩ := hs.below hb1 hz0
  rw [Nat.zero_add] at c1 c2 c3
  rw [HQ.out] at c3
  have k1 : Below w.heap.size w w1 := hb0.trans (hb1.mono (by omega))
  have f1 : (0 : Int) ≤ (q : Int) := by omega
  go_wp2_with fail
  refine (K2.out _ k1).mono ?_
  rintro e w2 ⟨rfl, hb2⟩
  have hown2 := own_lowD (own_belowD hown hb2 (Nat.le_refl _)) (base' := w.heap.size) (by omega)
  have hf := hown2.frozenAt q
  have hcl := hown2.cells (g := g) rfl q _ (ivs_get x.b.u q (by have := HQ.out; omega))
  rw [addr_add, Nat.zero_add] at hcl
  have k3 := hown2.stored q (.int .i64 (lastU x.b.u + (v - x.b.lo)))
  rw [E1.out] at k3
  clear c0 c1 c2 c3
  go_wp2
  go_ret
  exact ⟨_, rfl, k3.1, (k1.trans (hb2.mono (by have := hb1.size; omega))).setCell (p := ⟨g, q, none⟩) (by show w.heap.size ≤ g; omega) _⟩
end Go.Proofs.Ytkkochjdimegpaa
