/-
  The program's own from, upTo, To.
-/
import Derived.Test.YtkkochjdimegpaaDestUnits
namespace Go.Proofs.Ytkkochjdimegpaa
open Go.RowKit
attribute [local go_sem ↓] Go.wp_at_zero Go.wp_at_succ

/-- Four stores into one block. -/
theorem setB4 {w : World} {b : Nat} {a0 a1 a2 a3 : Value} (h0 : w.cell? ⟨b, 0, none⟩ = some a0) (h1 : w.cell? ⟨b, 1, none⟩ = some a1) (h2 : w.cell? ⟨b, 2, none⟩ = some a2) (h3 : w.cell? ⟨b, 3, none⟩ = some a3) (u0 u1 u2 u3 : Value) :
    ∀ W, W = (((w.setCell ⟨b, 0, none⟩ u0).setCell ⟨b, 1, none⟩ u1).setCell ⟨b, 2, none⟩ u2).setCell ⟨b, 3, none⟩ u3 → W.cell? ⟨b, 0, none⟩ = some u0 ∧ W.cell? ⟨b, 1, none⟩ = some u1 ∧ W.cell? ⟨b, 2, none⟩ = some u2 ∧ W.cell? ⟨b, 3, none⟩ = some u3 := by
  rintro W rfl
  have ne : ∀ i j : Nat, i ≠ j → (⟨b, i, none⟩ : Addr) ≠ ⟨b, j, none⟩ := fun i j h e => by injection e with _ e2; exact h e2
  refine ⟨?_, ?_, ?_, ?_⟩
  · rw [World.cell?_setCell_other _ _ _ _ (ne 3 0 (by decide)), World.cell?_setCell_other _ _ _ _ (ne 2 0 (by decide)), World.cell?_setCell_other _ _ _ _ (ne 1 0 (by decide))]
    exact World.cell?_setCell_same _ _ _ h0
  · rw [World.cell?_setCell_other _ _ _ _ (ne 3 1 (by decide)), World.cell?_setCell_other _ _ _ _ (ne 2 1 (by decide))]
    exact World.cell?_setCell_same _ _ _ ((World.cell?_setCell_other _ _ _ _ (ne 0 1 (by decide))).trans h1)
  · rw [World.cell?_setCell_other _ _ _ _ (ne 3 2 (by decide))]
    exact World.cell?_setCell_same _ _ _ ((World.cell?_setCell_other _ _ _ _ (ne 1 2 (by decide))).trans ((World.cell?_setCell_other _ _ _ _ (ne 0 2 (by decide))).trans h2))
  · exact World.cell?_setCell_same _ _ _ ((World.cell?_setCell_other _ _ _ _ (ne 2 3 (by decide))).trans ((World.cell?_setCell_other _ _ _ _ (ne 1 3 (by decide))).trans ((World.cell?_setCell_other _ _ _ _ (ne 0 3 (by decide))).trans h3)))
theorem belowB4 {w w0 : World} {B b : Nat} (h : Below B w0 w) (hb : B ≤ b) (u0 u1 u2 u3 : Value) : Below B w0 ((((w.setCell ⟨b, 0, none⟩ u0).setCell ⟨b, 1, none⟩ u1).setCell ⟨b, 2, none⟩ u2).setCell ⟨b, 3, none⟩ u3) :=
  (((h.setCell (p := ⟨b, 0, none⟩) hb _).setCell (p := ⟨b, 1, none⟩) hb _).setCell (p := ⟨b, 2, none⟩) hb _).setCell (p := ⟨b, 3, none⟩) hb _
/-- An entry handed back: its units are new. -/
def RetE (w : World) (b : Bp) (e : Ending) (w' : World) : Prop := ∃ a c, e = .returned (fv ⟨b, a, c⟩) ∧ Ut w' a c b.u ∧ Below w.heap.size w w'
theorem Ut.setFar {w : World} {a : Option Addr} {c g i : Nat} {u : List Int} {v : Value} (h : Ut w a c u) (hg : Tq w g) : Ut (w.setCell ⟨g, i, none⟩ v) a c u := h.ik (Ik.of_set hg)
/-- Units at a row that was made behind some block, where only blocks ahead of the row are written. -/
theorem Un.oth {w w' : World} {a : Option Addr} {c : Nat} {u : List Int} (h : Un w a c u) (hs : w.heap.size ≤ w'.heap.size) (hk : ∀ b o, a = some ⟨b, o, none⟩ → w'.heap[b]? = w.heap[b]?) : Un w' a c u := ⟨h.c0, h.c1, fun hn => by
  obtain ⟨b, o, e, hb, hc⟩ := h.si hn
  exact ⟨b, o, e, Nat.lt_of_lt_of_le hb hs, fun j hj => (World.cell?_of_block (a := ⟨b, o + j, none⟩) (hk b o e)).trans (hc j hj)⟩⟩
theorem Ut.oth {w w' : World} {a : Option Addr} {c : Nat} {u : List Int} (h : Ut w a c u) (hs : w.heap.size ≤ w'.heap.size) (hk : ∀ b o, a = some ⟨b, o, none⟩ → w'.heap[b]? = w.heap[b]?) : Ut w' a c u := ⟨h.un.oth hs hk, fun hn => by
  obtain ⟨b, o, cs, f, e, hh⟩ := h.ty hn
  exact ⟨b, o, cs, f, e, (hk b o e).trans hh⟩⟩
theorem set4_heap (w : World) (b k : Nat) (u0 u1 u2 u3 : Value) (h : k ≠ b) : ((((w.setCell ⟨b, 0, none⟩ u0).setCell ⟨b, 1, none⟩ u1).setCell ⟨b, 2, none⟩ u2).setCell ⟨b, 3, none⟩ u3).heap[k]? = w.heap[k]? := by
  rw [heap_setCell_other _ _ _ _ h, heap_setCell_other _ _ _ _ h, heap_setCell_other _ _ _ _ h, heap_setCell_other _ _ _ _ h]
set_option maxRecDepth 100000 in
set_option maxHeartbeats 4000000 in
theorem from_any (x : Me) (lo : Int) (w : World) (hu : Un w x.a x.c x.b.u) (hk : okU x.b.u) (h0 : 0 ≤ x.b.lo) (h1 : x.b.lo < 4294967296) (h4 : 0 ≤ lo) (h5 : lo ≤ 4294967296) :
    Calls Try.prog 37 #[fv x, .int .i64 lo] w (RetE w (partB x.b lo x.b.hi)) := by
  have K1 : Hid (∀ W, Below w.heap.size w W → Calls Try.prog 28 #[fv x, .int .i64 lo] W fun e w' => ∃ r, e = .returned r ∧ w'.ownsRow W.heap.size 3 1 r x.b.u.length (ivs (goB x.b lo)) ∧ Below W.heap.size W w') := Lib.hid fun W hW => units_any x lo W (hu.over hW) hk h0 h1 h4 h5
  have HG := Lib.hid (show (goB x.b lo).length = x.b.u.length from addU_length _ _)
  obtain ⟨G, hG⟩ : ∃ G, G = goB x.b lo := ⟨_, rfl⟩
  have EG := Lib.hid hG
  rw [← hG] at K1 HG
  clear hu hk h0 h1 h4 h5 hG
  unfold fv at *
  go_enter Try.func37, Try.ntmps37
  go_wp2_with fail
  have xs : Fb ((w.alloc (.cells #[.int .i64 x.b.n, .int .i64 x.b.lo, .int .i64 x.b.hi, .slice x.a x.b.u.length x.c] 25)).alloc (.cells #[.int .i64 0, .int .i64 0, .int .i64 0, .slice none 0 0] 25)) w.heap.size x := ⟨by simp, by simp, by simp, by simp⟩
  have xz : Fb ((w.alloc (.cells #[.int .i64 x.b.n, .int .i64 x.b.lo, .int .i64 x.b.hi, .slice x.a x.b.u.length x.c] 25)).alloc (.cells #[.int .i64 0, .int .i64 0, .int .i64 0, .slice none 0 0] 25)) (w.heap.size + 1) ⟨⟨0, 0, 0, []⟩, none, 0⟩ := ⟨by simp, by simp, by simp, by simp⟩
  have xf : ∀ i, ((w.alloc (.cells #[.int .i64 x.b.n, .int .i64 x.b.lo, .int .i64 x.b.hi, .slice x.a x.b.u.length x.c] 25)).alloc (.cells #[.int .i64 0, .int .i64 0, .int .i64 0, .slice none 0 0] 25)).frozen? ⟨w.heap.size + 1, i, none⟩ = false := fun i => by simp
  have b1 : Below w.heap.size w ((w.alloc (.cells #[.int .i64 x.b.n, .int .i64 x.b.lo, .int .i64 x.b.hi, .slice x.a x.b.u.length x.c] 25)).alloc (.cells #[.int .i64 0, .int .i64 0, .int .i64 0, .slice none 0 0] 25)) := ((Below.refl _ _).alloc (Nat.le_refl _) _).alloc (by simp) _
  have z1 : w.heap.size + 1 < ((w.alloc (.cells #[.int .i64 x.b.n, .int .i64 x.b.lo, .int .i64 x.b.hi, .slice x.a x.b.u.length x.c] 25)).alloc (.cells #[.int .i64 0, .int .i64 0, .int .i64 0, .slice none 0 0] 25)).heap.size := by simp
  generalize (w.alloc (.cells #[.int .i64 x.b.n, .int .i64 x.b.lo, .int .i64 x.b.hi, .slice x.a x.b.u.length x.c] 25)).alloc (.cells #[.int .i64 0, .int .i64 0, .int .i64 0, .slice none 0 0] 25) = wr at *
  have hS : ∀ w', Below wr.heap.size wr w' → (fun w' => (w'.cell? ⟨w.heap.size, 0, none⟩ = some (.int .i64 x.b.n) ∧ w'.cell? ⟨w.heap.size, 1, none⟩ = some (.int .i64 x.b.lo) ∧ w'.cell? ⟨w.heap.size, 2, none⟩ = some (.int .i64 x.b.hi) ∧ w'.cell? ⟨w.heap.size, 3, none⟩ = some (.slice x.a x.b.u.length x.c)) ∧ (w'.cell? ⟨w.heap.size + 1, 0, none⟩ = some (.int .i64 0) ∧ w'.cell? ⟨w.heap.size + 1, 1, none⟩ = some (.int .i64 0) ∧ w'.cell? ⟨w.heap.size + 1, 2, none⟩ = some (.int .i64 0) ∧ w'.cell? ⟨w.heap.size + 1, 3, none⟩ = some (.slice none 0 0)) ∧ (w'.frozen? ⟨w.heap.size + 1, 0, none⟩ = false ∧ w'.frozen? ⟨w.heap.size + 1, 1, none⟩ = false ∧ w'.frozen? ⟨w.heap.size + 1, 2, none⟩ = false ∧ w'.frozen? ⟨w.heap.size + 1, 3, none⟩ = false)) w' := fun w' hb => by
    have p := Fb.below xs hb (by omega)
    have q := Fb.below xz hb (by omega)
    have f : ∀ i, w'.frozen? ⟨w.heap.size + 1, i, none⟩ = false := fun i => (hb.frozen (p := ⟨w.heap.size + 1, i, none⟩) z1).trans (xf i)
    exact ⟨⟨p.c0, p.c1, p.c2, p.c3⟩, ⟨q.c0, q.c1, q.c2, q.c3⟩, f 0, f 1, f 2, f 3⟩
  have HS := Lib.hid hS
  clear hS xs xz xf
  have z0 : Below wr.heap.size wr wr.drew := (Below.refl _ _).drew
  have KB : Hid (∀ W, Below wr.heap.size wr W → Below w.heap.size w W) := Lib.hid fun W hW => b1.trans (hW.mono (by omega))
  obtain ⟨⟨p0, p1, p2, p3⟩, ⟨q0, q1, q2, q3⟩, f0, f1, f2, f3⟩ := HS.out wr (Below.refl _ _)
  go_region_with ((go_at_call 28; (with_reducible refine (K1.out _ (KB.out _ z0)).mono ?_); rintro e x1 ⟨rU, rfl, hown, y8⟩; have z8 := z0.trans (y8.mono z0.size); obtain ⟨rA, rC, rfl, hut, _⟩ := Ut.of_own hown; have hlow : ∀ g, (Value.slice rA G.length rC).ownBlock = some g → wr.drew.heap.size ≤ g ∧ g < x1.heap.size := fun g hg => own_ltD hown hg; obtain ⟨⟨p0, p1, p2, p3⟩, ⟨q0, q1, q2, q3⟩, f0, f1, f2, f3⟩ := HS.out _ z8))
  all_goals
    have hg := setB4 q0 q1 q2 q3 (.int .i64 x.b.n) (.int .i64 lo) (.int .i64 x.b.hi) (.slice rA G.length rC) _ rfl
    have hbE := belowB4 (b := w.heap.size + 1) (b1.trans (z8.mono (by omega))) (by omega) (.int .i64 x.b.n) (.int .i64 lo) (.int .i64 x.b.hi) (.slice rA G.length rC)
    have hutE : Ut ((((x1.setCell ⟨w.heap.size + 1, 0, none⟩ (.int .i64 x.b.n)).setCell ⟨w.heap.size + 1, 1, none⟩ (.int .i64 lo)).setCell ⟨w.heap.size + 1, 2, none⟩ (.int .i64 x.b.hi)).setCell ⟨w.heap.size + 1, 3, none⟩ (.slice rA G.length rC)) rA rC G := hut.oth (by simp) (fun b o e => set4_heap _ _ _ _ _ _ _ (by
      have h1 := (hlow b (by rw [e]; rfl)).1
      have h2 := z0.size
      omega))
    clear p0 p1 p2 p3 q0 q1 q2 q3 f0 f1 f2 f3
    go_wp2
    generalize (((World.setCell x1 ⟨w.heap.size + 1, 0, none⟩ (.int .i64 x.b.n)).setCell ⟨w.heap.size + 1, 1, none⟩ (.int .i64 lo)).setCell ⟨w.heap.size + 1, 2, none⟩ (.int .i64 x.b.hi)).setCell ⟨w.heap.size + 1, 3, none⟩ (.slice rA G.length rC) = W at *
    obtain ⟨g0, g1, g2, g3⟩ := hg
    refine bodyPost_ret (v := _) (by simp [results, Try.results37, go_sem, g0, g1, g2, g3]; try rfl) rfl ?_
    refine ⟨rA, rC, ?_, ?_, hbE⟩
    · unfold fv partB
      rw [← EG.out]
    · show Ut W rA rC (goB x.b lo)
      rw [← EG.out]
      exact hutE
end Go.Proofs.Ytkkochjdimegpaa
