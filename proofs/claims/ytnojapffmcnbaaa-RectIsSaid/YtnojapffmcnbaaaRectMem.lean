/-
  Codespaces in memory: a slice that holds a list of codespaces, three cells each; the document's own 'the same'.
-/
import Derived.Test.YtnojapffmcnbaaaRectCmp
import Derived.Laws.StructEq
import Derived.BigQuiet
import Derived.Deep.QuietTactic
namespace Go.Proofs.Ytnojapffmcnbaaa
open Go.RowKit

/-- Codespaces as cells. -/
def rq (x : Rc) : List Value := [.int .i64 x.n, .int .i64 x.lo, .int .i64 x.hi]
def rvs (l : List Rc) : List Value := l.flatMap rq
theorem rvs_cons (t : Rc) (l : List Rc) : rvs (t :: l) = rq t ++ rvs l := by simp [rvs]
theorem rvs_append (a b : List Rc) : rvs (a ++ b) = rvs a ++ rvs b := by simp [rvs]
theorem rvs_length : ∀ l : List Rc, (rvs l).length = l.length * 3
  | [] => rfl
  | t :: l => by rw [rvs_cons, List.length_append, rvs_length l, List.length_cons]; simp [rq]; omega
theorem rvs_one (l : List Rc) : ∀ u ∈ rvs l, u.oneCell' = true := by
  intro u hu
  simp only [rvs, List.mem_flatMap, rq, List.mem_cons, List.not_mem_nil, or_false] at hu
  obtain ⟨t, _, rfl | rfl | rfl⟩ := hu <;> rfl
theorem rvs_get : ∀ (l : List Rc) (j i : Nat) (x : Rc), l[j]? = some x → i < 3 → (rvs l)[j * 3 + i]? = (rq x)[i]?
  | [], j, i, x, h, _ => by simp at h
  | t :: l, 0, i, x, h, hi => by
    rw [List.getElem?_cons_zero] at h
    cases h
    rw [rvs_cons, Nat.zero_mul, Nat.zero_add, List.getElem?_append_left (by simpa [rq] using hi)]
  | t :: l, j + 1, i, x, h, hi => by
    rw [List.getElem?_cons_succ] at h
    rw [rvs_cons, List.getElem?_append_right (by simp [rq]; omega), ← rvs_get l j i x h hi]
    congr 1
    simp [rq]
    omega
/-- A codespace's three cells, at a place. -/
structure R3 (w : World) (b p : Nat) (x : Rc) : Prop where
  c0 : w.cell? ⟨b, p, none⟩ = some (.int .i64 x.n)
  c1 : w.cell? ⟨b, p + 1, none⟩ = some (.int .i64 x.lo)
  c2 : w.cell? ⟨b, p + 2, none⟩ = some (.int .i64 x.hi)
theorem R3.keep {w w' : World} {b p : Nat} {x : Rc} (h : R3 w b p x) (hk : ∀ i, w'.cell? ⟨b, i, none⟩ = w.cell? ⟨b, i, none⟩) : R3 w' b p x := ⟨(hk _).trans h.c0, (hk _).trans h.c1, (hk _).trans h.c2⟩
/-- A slice at A holds the codespaces l, below block B. -/
def Sr (w : World) (B : Nat) (A : Option Addr) (l : List Rc) : Prop :=
  0 < l.length → ∃ b o, A = some ⟨b, o, none⟩ ∧ b < B ∧ ∀ j x, l[j]? = some x → R3 w b (o + j * 3) x
section
variable {w w' : World} {B B' : Nat} {A : Option Addr} {l : List Rc}
theorem Sr.keep (h : Sr w B A l) (hk : ∀ p : Addr, p.block < B → w'.cell? p = w.cell? p) : Sr w' B A l := fun hn => by
  obtain ⟨b, o, e, hb, hc⟩ := h hn
  exact ⟨b, o, e, hb, fun j x hx => (hc j x hx).keep fun i => hk ⟨b, i, none⟩ hb⟩
theorem Sr.below (h : Sr w B A l) (hb : Below B w w') : Sr w' B A l := h.keep fun _ hp => hb.cell hp
theorem Sr.more (h : Sr w B A l) (hB : B ≤ B') : Sr w B' A l := fun hn => by
  obtain ⟨b, o, e, hb, hc⟩ := h hn
  exact ⟨b, o, e, by omega, hc⟩
theorem Sr.over (h : Sr w w.heap.size A l) (hb : Below w.heap.size w w') : Sr w' w'.heap.size A l := (h.below hb).more hb.size
theorem Sr.nil : Sr w B A [] := fun h => absurd h (by simp)
theorem Sr.at (h : Sr w B A l) {j : Nat} {x : Rc} (hx : l[j]? = some x) : ∃ b o, A = some ⟨b, o, none⟩ ∧ b < B ∧ R3 w b (o + j * 3) x := by
  obtain ⟨b, o, e, hb, hc⟩ := h (by have := (List.getElem?_eq_some_iff.1 hx).1; omega)
  exact ⟨b, o, e, hb, hc j x hx⟩
theorem Sr.of_own {base : Nat} {e : TypeId} {v : Value} {n : Nat} (h : w.ownsRow base e 3 v n (rvs l)) : ∃ c, n = l.length ∧ n ≤ c ∧ ∃ A, v = .slice A l.length c ∧ Sr w w.heap.size A l := by
  have hl : n = l.length := by have := h.1; rw [rvs_length] at this; omega
  subst hl
  rcases h.2 with ⟨rfl, h0⟩ | ⟨g, cap, cur, rfl, hb, hg, hc, hm, hs, ht⟩
  · exact ⟨0, rfl, by omega, none, by rw [h0], fun hn => absurd hn (by omega)⟩
  · refine ⟨cap, rfl, hc, _, rfl, fun hn => ⟨g, 0, rfl, (Array.getElem?_eq_some_iff.1 hg).1, fun j x hx => ?_⟩⟩
    have key : ∀ i u, i < 3 → (rq x)[i]? = some u → w.cell? ⟨g, 0 + j * 3 + i, none⟩ = some u := fun i u hi hu => by
      have := h.cells (g := g) rfl (j * 3 + i) u ((rvs_get l j i x hx hi).trans hu)
      rwa [addr_add, ← Nat.add_assoc] at this
    exact ⟨key 0 _ (by omega) rfl, key 1 _ (by omega) rfl, key 2 _ (by omega) rfl⟩
end
theorem own_belowN {w w' : World} {base n b size : Nat} {e : TypeId} {v : Value} {xs : List Value} (h : w.ownsRow base e size v n xs) (hb : Below b w w') (hB : w.heap.size ≤ b) : w'.ownsRow base e size v n xs := by
  refine ⟨h.1, ?_⟩
  rcases h.2 with hn | ⟨g, cap, cur, rfl, h1, hg, rest⟩
  · exact .inl hn
  · refine .inr ⟨g, cap, cur, rfl, h1, ?_, rest⟩
    have hlt := (Array.getElem?_eq_some_iff.1 hg).1
    rw [hb.block g (by omega)]
    exact hg
theorem infoR : (Try.prog.info? 23).map (fun i => (i.zero, i.size, i.bytes)) = some (some (.agg #[.int .i64 0, .int .i64 0, .int .i64 0]), 3, 24) := by kernel_rfl
theorem drewN_cell (w : World) (n : Nat) (a : Addr) : (w.drewN n).cell? a = w.cell? a := rfl
/-- What a call hands back: a slice that holds codespaces. -/
def RetR (w : World) (l : List Rc) (e : Ending) (w' : World) : Prop :=
  ∃ A c, e = .returned (.slice A l.length c) ∧ l.length ≤ c ∧ Sr w' w'.heap.size A l ∧ Below w.heap.size w w'
set_option maxRecDepth 100000 in
set_option maxHeartbeats 1000000 in
/-- The document's own 'the same', at one list. -/
theorem rSame_yes {w : World} {A1 A2 : Option Addr} {c1 c2 : Nat} {l : List Rc} (ha : Sr w w.heap.size A1 l) (hb : Sr w w.heap.size A2 l) (hl : l.length ≤ 1048576) :
    Calls Try.prog 23 #[.slice A1 l.length c1, .slice A2 l.length c2] w fun r w' => r = .returned (.bool true) ∧ Below w.heap.size w w' := by
  have HA := Lib.hid ha
  have HB := Lib.hid hb
  clear ha hb
  generalize hn : l.length = n at *
  have HN := Lib.hid hn
  clear hn
  go_enter Try.func23, Try.ntmps23
  go_wp2
  go_loopw [5] (fun i wr => ∃ k m : Nat, k ≤ n ∧ i = .int .i64 (k : Int) ∧ Hid (wr = w.drewN m)) (fun i _ => n - (intOf i).toNat)
  case atStart => exact ⟨0, 0, Nat.zero_le _, rfl, Lib.hid rfl⟩
  case round =>
    obtain ⟨k, m, hk, rfl, HW⟩ := hrel
    by_cases hkl : k < n
    · have t0 : decide (k < n) = true := by simp; omega
      have hx := List.getElem?_eq_getElem (l := l) (i := k) (by have := HN.out; omega)
      generalize l[k]'(by have := HN.out; omega) = x at *
      obtain ⟨b1, o1, e1, _, q1⟩ := HA.out.at hx
      obtain ⟨b2, o2, e2, _, q2⟩ := HB.out.at hx
      subst e1 e2
      obtain ⟨y0, y1, y2⟩ : R3 wr b1 (o1 + k * 3) x := q1.keep fun i => by rw [HW.out, drewN_cell]
      obtain ⟨y3, y4, y5⟩ : R3 wr b2 (o2 + k * 3) x := q2.keep fun i => by rw [HW.out, drewN_cell]
      clear q1 q2 hx
      go_wp2
      go_quiet (fail)
      go_wp2
      refine ⟨⟨k + 1, _, by omega, by go_num, Lib.hid (by rw [HW.out]; exact World.drewN_drewN _ _ _)⟩, by simp [intOf]; omega⟩
    · have t0 : decide (k < n) = false := by simp; omega
      go_wp2
      go_ret
      exact ⟨rfl, by rw [HW.out]; exact below_drewN (Below.refl _ _) _⟩
end Go.Proofs.Ytnojapffmcnbaaa
