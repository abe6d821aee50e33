/-
  The program's own addAhead.
-/
import Derived.Test.YtdlkgcbiekilhaaSpanAdd
import Derived.Handy
namespace Go.Proofs.Ytdlkgcbiekilhaa
open Go.RowKit
attribute [local go_sem ↓] Go.wp_at_zero Go.wp_at_succ

theorem addL_nr {st : Bool} {o : List Sp} {x : Sp} (ho : ∀ y ∈ o, Nr y) (hx : Nr x) : ∀ y ∈ addL st o x, Nr y := by
  revert ho
  refine addL_ind (C := fun o r => (∀ y ∈ o, Nr y) → ∀ y ∈ r, Nr y) ?_ ?_ ?_
  · intro _ y hy
    rw [List.mem_singleton] at hy
    rw [hy]; exact hx
  · intro p e _ ho y hy
    rcases List.mem_append.1 hy with hy | hy
    · exact ho y (List.mem_append_left _ hy)
    · rw [List.mem_singleton] at hy
      subst hy
      obtain ⟨a, b, _, _, e, f⟩ := ho e (by simp)
      exact ⟨a, b, hx.h0, hx.h1, e, f⟩
  · intro p e _ ho y hy
    rcases List.mem_append.1 hy with hy | hy
    · exact ho y hy
    · rw [List.mem_singleton] at hy
      rw [hy]; exact hx
theorem addA_nr {st : Bool} {s : Sp} : ∀ {v o : List Sp}, (∀ y ∈ o, Nr y) → (∀ y ∈ v, Nr y) → (∀ y ∈ (addA st o v s).1, Nr y) ∧ (∀ y ∈ (addA st o v s).2, Nr y)
  | [], o, ho, hv => ⟨ho, hv⟩
  | x :: v, o, ho, hv => by
    rw [addA]
    split
    · exact addA_nr (addL_nr ho (hv x List.mem_cons_self)) (fun y hy => hv y (List.mem_cons_of_mem _ hy))
    · exact ⟨ho, hv⟩
/-- How long a slice is. -/
def slLen : Value → Nat
  | .slice _ n _ => n
  | _ => 0
/-- A row and the rest of a list. -/
def Ahd (w : World) (base : Nat) (v : Value) (q : List Sp × List Sp) (e : Ending) (w' : World) : Prop :=
  ∃ v' A c, e = .returned (.tuple #[v', .slice A q.2.length c]) ∧ q.2.length ≤ c ∧ Ss w' base A q.2 ∧ w'.ownsRow base 24 4 v' q.1.length (svs q.1) ∧ w.grownBy w' v.ownBlock ∧ (∀ g, v'.ownBlock = some g → v.ownBlock = some g ∨ w.heap.size ≤ g)
theorem own_lt {w : World} {base : Nat} {e : TypeId} {v : Value} {n g size : Nat} {xs : List Value} (h : w.ownsRow base e size v n xs) (hg : v.ownBlock = some g) : base ≤ g ∧ g < w.heap.size := by
  rcases h.2 with ⟨rfl, _⟩ | ⟨g', cap, cur, rfl, h1, hg', _⟩
  · cases hg
  · have e2 : g' = g := by simpa [Value.ownBlock] using hg
    subst e2
    exact ⟨h1, (Array.getElem?_eq_some_iff.1 hg').1⟩
theorem Ss.grown {w w' : World} {B : Nat} {A : Option Addr} {l : List Sp} {row : Option Nat} (h : Ss w B A l) (hg : w.grownBy w' row) (hB : B ≤ w.heap.size) (hr : ∀ g, row = some g → B ≤ g) : Ss w' B A l :=
  h.keep fun p hp => hg.cell_far p (by omega) (fun e => by have := hr _ e.symm; omega)
theorem Bs.grown {w w' : World} {b : Nat} {x : Sp} {row : Option Nat} (h : Bs w b x) (hg : w.grownBy w' row) (hb : b < w.heap.size) (hr : some b ≠ row) : Bs w' b x :=
  S4.keep h fun i => hg.cell_far ⟨b, i, none⟩ hb hr
set_option maxRecDepth 100000 in
set_option maxHeartbeats 4000000 in
theorem addAhead_any (st : Bool) (base : Nat) (v : Value) (A : Option Addr) (c : Nat) (o l : List Sp) (s : Sp) (w : World) (hown : w.ownsRow base 24 4 v o.length (svs o)) (hbase : base ≤ w.heap.size) (hA : Ss w base A l) (hc : l.length ≤ c) (hl : o.length + l.length ≤ 1073741824) (ho : ∀ y ∈ o, Nr y) (hv : ∀ y ∈ l, Nr y) :
    Calls Try.prog 44 #[v, .slice A l.length c, sv s, .bool st] w (Ahd w base v (addA st o l s)) := by
  obtain ⟨Q, hQ⟩ : ∃ Q, Q = addA st o l s := ⟨_, rfl⟩
  rw [← hQ]
  have hlt : ∀ g, v.ownBlock = some g → base ≤ g ∧ g < w.heap.size := fun g hg => own_lt hown hg
  have HLT := Lib.hid hlt
  have HOV := Lib.hid (And.intro ho hv)
  have H0 : Hid (addA st o l s = Q) := Lib.hid hQ.symm
  clear hQ hlt ho hv
  unfold sv
  go_enter Try.func44, Try.ntmps44
  go_wp2
  have hb0 : Below w.heap.size w (w.alloc (.cells #[.int .i64 s.n, .int .i64 s.lo, .int .i64 s.hi, .int .i64 s.to] 24)) := (Below.refl _ _).alloc (Nat.le_refl _) _
  have hbs : Bs (w.alloc (.cells #[.int .i64 s.n, .int .i64 s.lo, .int .i64 s.hi, .int .i64 s.to] 24)) w.heap.size s := Bs.new _ _ _
  have hsz : (w.alloc (.cells #[.int .i64 s.n, .int .i64 s.lo, .int .i64 s.hi, .int .i64 s.to] 24)).heap.size = w.heap.size + 1 := by simp
  have hown0 := own_belowS hown hb0 (Nat.le_refl _)
  have hA0 := hA.below (hb0.mono hbase)
  generalize w.alloc (.cells #[.int .i64 s.n, .int .i64 s.lo, .int .i64 s.hi, .int .i64 s.to] 24) = W0 at *
  clear hown hA
  go_loopw [0, 1] (fun a b wr => ∃ (o1 v1 : List Sp) (A1 : Option Addr) (c1 : Nat), Hid (addA st o1 v1 s = Q) ∧ b = .slice A1 v1.length c1 ∧ v1.length ≤ c1 ∧ Ss wr base A1 v1 ∧ wr.ownsRow base 24 4 a o1.length (svs o1) ∧ W0.grownBy wr v.ownBlock ∧ Hid (∀ g, a.ownBlock = some g → v.ownBlock = some g ∨ W0.heap.size ≤ g) ∧ o1.length + v1.length ≤ 1073741824 ∧ Hid ((∀ y ∈ o1, Nr y) ∧ (∀ y ∈ v1, Nr y))) (fun _ b _ => slLen b)
  case atStart => exact ⟨o, l, A, c, H0, rfl, hc, hA0, hown0, World.grownBy.refl _ _, Lib.hid (fun g hg => .inl hg), hl, HOV⟩
  case round =>
    clear hown0 hA0 H0 HOV hl hc
    obtain ⟨o1, v1, A1, c1, HQ, rfl, hc1, hA1, hown1, hgr, HF, hl1, HN1⟩ := hrel
    have hbs1 := hbs.grown hgr (by omega) (fun e => by have := HLT.out _ e.symm; omega)
    have hszr := hgr.size
    have hbr : base ≤ wr.heap.size := by omega
    have fin : ∀ W, Below wr.heap.size wr W → w.grownBy W v.ownBlock ∧ W.ownsRow base 24 4 u0 o1.length (svs o1) ∧ Ss W base A1 v1 := fun W hW => ⟨gb_trans (gb_trans (gb_below hb0 _) hgr (fun g e => .inl e)) (gb_below hW _) (fun g e => .inl e), own_belowS hown1 hW (Nat.le_refl _), hA1.below (hW.mono hbr)⟩
    have FIN := Lib.hid fin
    clear fin
    cases v1 with
    | nil =>
      go_wp2
      go_quiet (fail)
      go_wp2
      go_returns
      obtain ⟨f1, f2, f3⟩ := FIN.out (wr.drewN nq) (below_drewN (Below.refl _ _) _)
      have hq : Q = (o1, []) := HQ.out.symm
      rw [hq]
      exact ⟨_, _, _, rfl, hc1, f3, f2, f1, fun g hg => (HF.out g hg).imp id (by omega)⟩
    | cons x v2 =>
      obtain ⟨b, q, rfl, hbb, hx4⟩ := hA1.at (j := 0) (x := x) rfl
      rw [Nat.zero_mul, Nat.add_zero] at hx4
      have HH : Hid (∀ w', Below wr.heap.size wr w' → (w'.cell? ⟨b, q, none⟩ = some (.int .i64 x.n) ∧ w'.cell? ⟨b, q + 1, none⟩ = some (.int .i64 x.lo) ∧ w'.cell? ⟨b, q + 2, none⟩ = some (.int .i64 x.hi) ∧ w'.cell? ⟨b, q + 3, none⟩ = some (.int .i64 x.to)) ∧ w'.cell? ⟨w.heap.size, 0, none⟩ = some (.int .i64 s.n) ∧ w'.cell? ⟨w.heap.size, 1, none⟩ = some (.int .i64 s.lo) ∧ w'.cell? ⟨w.heap.size, 2, none⟩ = some (.int .i64 s.hi) ∧ w'.cell? ⟨w.heap.size, 3, none⟩ = some (.int .i64 s.to)) := Lib.hid fun w' hw => by
        have p := hx4.keep (w' := w') fun i => hw.cell (p := ⟨b, i, none⟩) (by show b < _; omega)
        have r := hbs1.below hw (by omega)
        exact ⟨⟨p.c0, p.c1, p.c2, p.c3⟩, r.c0, r.c1, r.c2, r.c3⟩
      have K1 := Lib.hid (fun W => ahead_any x s W)
      have z0 : Below wr.heap.size wr wr.drew := (Below.refl _ _).drew
      have hl2 : (x :: v2).length = v2.length + 1 := rfl
      rw [hl2] at hl1 hc1 ⊢
      unfold sv at K1
      by_cases hah : ahS x s
      · rw [decide_eq_true hah] at K1
        have hq2 : addA st (addL st o1 x) v2 s = Q := by
          have := HQ.out
          rwa [addA, if_pos hah] at this
        have HQ2 := Lib.hid hq2
        clear hah hq2 hx4 hbs1 hl2
        go_wp2_with fail
        go_region_held (fun w' => (w'.cell? ⟨b, q, none⟩ = some (.int .i64 x.n) ∧ w'.cell? ⟨b, q + 1, none⟩ = some (.int .i64 x.lo) ∧ w'.cell? ⟨b, q + 2, none⟩ = some (.int .i64 x.hi) ∧ w'.cell? ⟨b, q + 3, none⟩ = some (.int .i64 x.to)) ∧ w'.cell? ⟨w.heap.size, 0, none⟩ = some (.int .i64 s.n) ∧ w'.cell? ⟨w.heap.size, 1, none⟩ = some (.int .i64 s.lo) ∧ w'.cell? ⟨w.heap.size, 2, none⟩ = some (.int .i64 s.hi) ∧ w'.cell? ⟨w.heap.size, 3, none⟩ = some (.int .i64 s.to))
          (first | with_reducible exact HH.out _ z8 | with_reducible exact HH.out _ z0)
          ((go_at_call 39; with_reducible refine (K1.out _).mono ?_; rintro e W1 ⟨rfl, y8⟩; have z8 := z0.trans (y8.mono z0.size)))
        all_goals
          obtain ⟨f1, f2, f3⟩ := FIN.out _ z8
          obtain ⟨⟨x0, x1, x2, x3⟩, y0, y1, y2, y3⟩ := HH.out _ z8
          have hnx : Nr x := HN1.out.2 x List.mem_cons_self
          have K2 := Lib.hid (add_any st base u0 o1 x W1 f2 (by have := z8.size; omega) (by omega) HN1.out.1 hnx)
          unfold sv at K2
          have G1 : Hid (W0.grownBy W1 v.ownBlock) := Lib.hid (gb_trans hgr (gb_below z8 _) (fun g e => .inl e))
          have hs1 := z8.size
          clear f1 f2 hnx
          go_wp2_with fail
          refine K2.out.mono ?_
          rintro e W2 ⟨v2', rfl, h1, h2, h3⟩
          have hA2 := f3.grown h2 (by omega) (fun g hg => by rcases HF.out g hg with h | h; exact (HLT.out g h).1; omega)
          have hdr := hA2.drop 1
          clear x0 x1 x2 x3 y0 y1 y2 y3 f3
          go_wp2
          refine ⟨⟨addL st o1 x, v2, _, _, HQ2, rfl, by omega, ?_, h1, gb_trans G1.out h2 (fun g e => HF.out g e), Lib.hid (fun g hg => ?_), ?_, Lib.hid ⟨addL_nr HN1.out.1 (HN1.out.2 x List.mem_cons_self), fun y hy => HN1.out.2 y (List.mem_cons_of_mem _ hy)⟩⟩, by simp [slLen]⟩
          · split
            · obtain rfl : v2 = [] := List.eq_nil_of_length_eq_zero (by omega)
              exact Ss.nil
            · simpa using hdr
          · rcases h3 g hg with h | h
            · exact HF.out g h
            · right; omega
          · have := addL_length (st := st) o1 x
            omega
      · rw [decide_eq_false hah] at K1
        have hq2 : (o1, x :: v2) = Q := by
          have := HQ.out
          rwa [addA, if_neg hah] at this
        have HQ2 := Lib.hid hq2
        clear hah hq2 hx4 hbs1 hl2
        go_wp2_with fail
        go_region_held (fun w' => (w'.cell? ⟨b, q, none⟩ = some (.int .i64 x.n) ∧ w'.cell? ⟨b, q + 1, none⟩ = some (.int .i64 x.lo) ∧ w'.cell? ⟨b, q + 2, none⟩ = some (.int .i64 x.hi) ∧ w'.cell? ⟨b, q + 3, none⟩ = some (.int .i64 x.to)) ∧ w'.cell? ⟨w.heap.size, 0, none⟩ = some (.int .i64 s.n) ∧ w'.cell? ⟨w.heap.size, 1, none⟩ = some (.int .i64 s.lo) ∧ w'.cell? ⟨w.heap.size, 2, none⟩ = some (.int .i64 s.hi) ∧ w'.cell? ⟨w.heap.size, 3, none⟩ = some (.int .i64 s.to))
          (first | with_reducible exact HH.out _ z8 | with_reducible exact HH.out _ z0)
          ((go_at_call 39; with_reducible refine (K1.out _).mono ?_; rintro e W1 ⟨rfl, y8⟩; have z8 := z0.trans (y8.mono z0.size)))
        all_goals
          go_wp2
          go_returns
          obtain ⟨f1, f2, f3⟩ := FIN.out _ z8
          rw [← HQ2.out]
          exact ⟨_, _, _, rfl, hc1, f3, f2, f1, fun g hg => (HF.out g hg).imp id (by omega)⟩
end Go.Proofs.Ytdlkgcbiekilhaa
