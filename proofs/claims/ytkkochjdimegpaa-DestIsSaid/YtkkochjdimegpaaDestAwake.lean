/-
  The document's example is as it says.
-/
import Derived.Test.YtkkochjdimegpaaDestRows
import Derived.Test.YtkkochjdimegpaaDestFind2
namespace Go.Proofs.Ytkkochjdimegpaa
open Go.RowKit
attribute [local go_sem ↓] Go.wp_at_zero Go.wp_at_succ

def exB : Bp := ⟨2, 240, 272, [65]⟩
theorem exB_sb : Sb exB := by decide +kernel
theorem exB_ct : Ct [exB] := ⟨fun s hs => by rw [List.mem_singleton] at hs; rw [hs]; exact exB_sb, List.pairwise_singleton _ _⟩
theorem exB_rows : rowsC (pl [⟨exB, none, 0⟩]) = [⟨2, 240, 255, [65]⟩, ⟨2, 256, 272, [81]⟩] := by
  show rowsC [exB] = _
  rw [rowsC, if_pos exB_ct]
  show cutB exB ++ [] = _
  have h1 : rowE exB = 255 := by decide +kernel
  have e2 : partB exB 256 272 = ⟨2, 256, 272, [81]⟩ := by decide +kernel
  have h2 : rowE ⟨2, 256, 272, [81]⟩ = 272 := by decide +kernel
  rw [List.append_nil, cutB_more (by rw [h1]; decide), h1]
  show partB exB 240 255 :: cutB (partB exB 256 272) = _
  rw [e2, cutB_done (by rw [h2]; decide)]
  rfl
theorem exB_find : findB [exB] 2 256 = some [81] := by
  rw [findB, if_pos exB_ct]
  decide +kernel
theorem two_of {m : List Me} {x y : Bp} (h : pl m = [x, y]) : ∃ a b, m = [a, b] ∧ a.b = x ∧ b.b = y := by
  match m, h with
  | [a, b], h =>
    injection h with h1 h2
    injection h2 with h2 _
    exact ⟨a, b, rfl, h1, h2⟩
set_option maxRecDepth 100000 in
set_option maxHeartbeats 4000000 in
theorem awake_any (w : World) : Calls Try.prog 9 #[] w fun e w' => e = .returned (.bool true) ∧ Below w.heap.size w w' := by
  have hs0 : Sd ((w.alloc (.cells #[.int .i64 65] 3)).alloc (.cells #[.int .i64 2, .int .i64 240, .int .i64 272, .slice (some ⟨w.heap.size, 0, none⟩) 1 1] 25)) (some ⟨w.heap.size + 1, 0, none⟩) [⟨exB, some ⟨w.heap.size, 0, none⟩, 1⟩] := by
    refine ⟨fun _ => ⟨w.heap.size + 1, 0, rfl, by simp, fun j x hx => ?_⟩, fun m hm => ?_⟩
    · cases j with
      | zero => cases hx; exact ⟨by simp [exB], by simp [exB], by simp [exB], by simp [exB]⟩
      | succ j => simp at hx
    · rw [List.mem_singleton] at hm
      subst hm
      refine ⟨Nat.le_refl _, (fun e => by cases e), fun _ => ⟨w.heap.size, 0, rfl, by simp; omega, fun j hj => ?_⟩⟩
      have : j = 0 := by simp [exB] at hj; exact hj
      subst this
      simp [exB]
  have hb0 : Below w.heap.size w ((w.alloc (.cells #[.int .i64 65] 3)).alloc (.cells #[.int .i64 2, .int .i64 240, .int .i64 272, .slice (some ⟨w.heap.size, 0, none⟩) 1 1] 25)) := ((Below.refl _ _).alloc (Nat.le_refl _) _).alloc (by simp) _
  have hz0 : w.heap.size + 1 < ((w.alloc (.cells #[.int .i64 65] 3)).alloc (.cells #[.int .i64 2, .int .i64 240, .int .i64 272, .slice (some ⟨w.heap.size, 0, none⟩) 1 1] 25)).heap.size := by simp
  have HS := Lib.hid hs0
  have HB := Lib.hid hb0
  go_enter Try.func9, Try.ntmps9
  go_wp2_with fail
  generalize (w.alloc (.cells #[.int .i64 65] 3)).alloc (.cells #[.int .i64 2, .int .i64 240, .int .i64 272, .slice (some ⟨w.heap.size, 0, none⟩) 1 1] 25) = W0 at *
  have K1 := Lib.hid (DRows_any (some ⟨w.heap.size + 1, 0, none⟩) 1 _ W0 HS.out (by simp))
  clear hs0
  refine K1.out.mono ?_
  rintro e w1 ⟨m, A1, c1, rfl, h1, h2, h3, h4, h5, hb1⟩
  have h5' := h5.trans exB_rows
  obtain ⟨r0, r1, rfl, e0, e1⟩ := two_of h5'
  have hS1 := HS.out.over hb1
  obtain ⟨⟨n0, l0, i0, u0⟩, ra0, rc0⟩ := r0
  obtain ⟨⟨n1, l1, i1, u1⟩, ra1, rc1⟩ := r1
  dsimp only at e0 e1
  injection e0 with a0 a1 a2 a3
  injection e1 with b0 b1 b2 b3
  subst a0 a1 a2 a3 b0 b1 b2 b3
  have HR := Lib.hid h3
  obtain ⟨bb, bo, rfl, hbb, _⟩ := h3.rd (by simp)
  have el : [(⟨⟨2, 240, 255, [65]⟩, ra0, rc0⟩ : Me), ⟨⟨2, 256, 272, [81]⟩, ra1, rc1⟩].length = 2 := rfl
  rw [el] at h1 ⊢
  have HS1 := Lib.hid hS1
  have HB1 := Lib.hid hb1
  have K2 : Hid (∀ W, Below w1.heap.size w1 W → Calls Try.prog 16 #[.slice (some ⟨w.heap.size + 1, 0, none⟩) 1 1, .agg #[.int .i64 2, .int .i64 256]] W (RetO W (some [81]))) := Lib.hid fun W hW => by
    have := dFind_any (some ⟨w.heap.size + 1, 0, none⟩) 1 _ 2 256 W (HS1.out.over hW) (by simp)
    have e : findB (pl [⟨exB, some ⟨w.heap.size, 0, none⟩, 1⟩]) 2 256 = some [81] := exB_find
    rw [e] at this
    exact this
  have K3 : Hid (∀ W, Below w1.heap.size w1 W → Calls Try.prog 19 #[.agg #[.int .i64 2, .int .i64 240, .int .i64 272, .slice (some ⟨w.heap.size, 0, none⟩) 1 1]] W fun e w' => e = .returned (.bool true) ∧ Below W.heap.size W w') := Lib.hid fun W hW => by
    have := DSane_any ⟨exB, some ⟨w.heap.size, 0, none⟩, 1⟩ W ((HS1.out.over hW).ul _ (by simp))
    rw [decide_eq_true exB_sb] at this
    exact this
  clear K1 h2 h3 h4 h5 h5' hS1 hb1 el hb0
  go_wp2_with fail
  refine (K2.out _ (Below.refl _ _)).mono ?_
  rintro e w2 ⟨⟨ua, uc, rfl, hut⟩, hb2⟩
  obtain ⟨gu, gp, rfl, _, hgc⟩ := hut.un.si (by simp)
  have g0 : w2.cell? ⟨gu, gp, none⟩ = some (.int .i64 81) := hgc 0 (by simp)
  have q0 := (HR.out.over hb2).rd.at (j := 0) rfl
  have q1 := (HR.out.over hb2).rd.at (j := 1) rfl
  obtain ⟨_, _, ee, _, ⟨x0, x1, x2, x3⟩⟩ := q0
  injection ee with ee
  injection ee with e1 e2
  subst e1 e2
  obtain ⟨_, _, ee, _, ⟨y0, y1, y2, y3⟩⟩ := q1
  injection ee with ee
  injection ee with e1 e2
  subst e1 e2
  obtain ⟨_, _, ee, _, ⟨z0, z1, z2, z3⟩⟩ := ((HS1.out.over hb2).rd.at (j := 0) rfl)
  injection ee with ee
  injection ee with e1 e2
  subst e1 e2
  simp only [Nat.zero_mul, Nat.add_zero, Nat.one_mul, Nat.zero_add] at x0 x1 x2 x3 y0 y1 y2 y3 z0 z1 z2 z3
  dsimp only [exB, List.length_cons, List.length_nil] at x0 x1 x2 x3 y0 y1 y2 y3 z0 z1 z2 z3
  simp only [Nat.zero_add] at x3 y3 z3
  have HB2 := Lib.hid hb2
  clear hut hgc hb2
  go_wp2_with ((go_at_call 19; refine (K3.out _ HB2.out).mono ?_; rintro e w3 ⟨rfl, hb3⟩))
  go_ret
  have s1 := HB1.out.size
  have s2 := HB2.out.size
  exact ⟨rfl, ((HB.out.trans (HB1.out.mono (by omega))).trans (HB2.out.mono (by omega))).trans (hb3.mono (by omega))⟩
end Go.Proofs.Ytkkochjdimegpaa
