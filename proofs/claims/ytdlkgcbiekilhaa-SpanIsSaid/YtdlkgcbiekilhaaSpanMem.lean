/-
  Spans in memory: a slice that holds a list of spans, four cells each.
-/
import Derived.Test.YtdlkgcbiekilhaaSpanOver
import Derived.Test.YtdlkgcbiekilhaaInts
import Derived.Laws.StructEq
import Derived.BigQuiet
import Derived.Deep.QuietTactic
import Derived.Lib.Hide
namespace Go.Proofs.Ytdlkgcbiekilhaa
open Go.RowKit

/-- Spans as cells. -/
def sq (x : Sp) : List Value := [.int .i64 x.n, .int .i64 x.lo, .int .i64 x.hi, .int .i64 x.to]
/-- A span as an argument. -/
def sv (x : Sp) : Value := .agg #[.int .i64 x.n, .int .i64 x.lo, .int .i64 x.hi, .int .i64 x.to]
def svs (l : List Sp) : List Value := l.flatMap sq
theorem svs_cons (t : Sp) (l : List Sp) : svs (t :: l) = sq t ++ svs l := by simp [svs]
theorem svs_append (a b : List Sp) : svs (a ++ b) = svs a ++ svs b := by simp [svs]
theorem svs_length : ∀ l : List Sp, (svs l).length = l.length * 4
  | [] => rfl
  | t :: l => by rw [svs_cons, List.length_append, svs_length l, List.length_cons]; simp [sq]; omega
theorem svs_one (l : List Sp) : ∀ u ∈ svs l, u.oneCell' = true := by
  intro u hu
  simp only [svs, List.mem_flatMap, sq, List.mem_cons, List.not_mem_nil, or_false] at hu
  obtain ⟨t, _, rfl | rfl | rfl | rfl⟩ := hu <;> rfl
theorem svs_get : ∀ (l : List Sp) (j i : Nat) (x : Sp), l[j]? = some x → i < 4 → (svs l)[j * 4 + i]? = (sq x)[i]?
  | [], j, i, x, h, _ => by simp at h
  | t :: l, 0, i, x, h, hi => by
    rw [List.getElem?_cons_zero] at h
    cases h
    rw [svs_cons, Nat.zero_mul, Nat.zero_add, List.getElem?_append_left (by simpa [sq] using hi)]
  | t :: l, j + 1, i, x, h, hi => by
    rw [List.getElem?_cons_succ] at h
    rw [svs_cons, List.getElem?_append_right (by simp [sq]; omega), ← svs_get l j i x h hi]
    congr 1
    simp [sq]
    omega
/-- A span's four cells, at a place. -/
structure S4 (w : World) (b p : Nat) (x : Sp) : Prop where
  c0 : w.cell? ⟨b, p, none⟩ = some (.int .i64 x.n)
  c1 : w.cell? ⟨b, p + 1, none⟩ = some (.int .i64 x.lo)
  c2 : w.cell? ⟨b, p + 2, none⟩ = some (.int .i64 x.hi)
  c3 : w.cell? ⟨b, p + 3, none⟩ = some (.int .i64 x.to)
theorem S4.keep {w w' : World} {b p : Nat} {x : Sp} (h : S4 w b p x) (hk : ∀ i, w'.cell? ⟨b, i, none⟩ = w.cell? ⟨b, i, none⟩) : S4 w' b p x := ⟨(hk _).trans h.c0, (hk _).trans h.c1, (hk _).trans h.c2, (hk _).trans h.c3⟩
/-- A slice at A holds the spans l, below block B. -/
def Ss (w : World) (B : Nat) (A : Option Addr) (l : List Sp) : Prop :=
  0 < l.length → ∃ b o, A = some ⟨b, o, none⟩ ∧ b < B ∧ ∀ j x, l[j]? = some x → S4 w b (o + j * 4) x
section
variable {w w' : World} {B B' : Nat} {A : Option Addr} {l : List Sp}
theorem Ss.keep (h : Ss w B A l) (hk : ∀ p : Addr, p.block < B → w'.cell? p = w.cell? p) : Ss w' B A l := fun hn => by
  obtain ⟨b, o, e, hb, hc⟩ := h hn
  exact ⟨b, o, e, hb, fun j x hx => (hc j x hx).keep fun i => hk ⟨b, i, none⟩ hb⟩
theorem Ss.below (h : Ss w B A l) (hb : Below B w w') : Ss w' B A l := h.keep fun _ hp => hb.cell hp
theorem Ss.more (h : Ss w B A l) (hB : B ≤ B') : Ss w B' A l := fun hn => by
  obtain ⟨b, o, e, hb, hc⟩ := h hn
  exact ⟨b, o, e, by omega, hc⟩
theorem Ss.over (h : Ss w w.heap.size A l) (hb : Below w.heap.size w w') : Ss w' w'.heap.size A l := (h.below hb).more hb.size
theorem Ss.nil : Ss w B A [] := fun h => absurd h (by simp)
theorem Ss.at (h : Ss w B A l) {j : Nat} {x : Sp} (hx : l[j]? = some x) : ∃ b o, A = some ⟨b, o, none⟩ ∧ b < B ∧ S4 w b (o + j * 4) x := by
  obtain ⟨b, o, e, hb, hc⟩ := h (by have := (List.getElem?_eq_some_iff.1 hx).1; omega)
  exact ⟨b, o, e, hb, hc j x hx⟩
theorem Ss.take (h : Ss w B A l) (k : Nat) : Ss w B A (l.take k) := fun hn => by
  obtain ⟨b, o, e, hb, hc⟩ := h (by simp at hn; omega)
  refine ⟨b, o, e, hb, fun j x hx => hc j x ?_⟩
  rw [List.getElem?_take] at hx
  split at hx
  · exact hx
  · cases hx
theorem Ss.drop {b o : Nat} (h : Ss w B (some ⟨b, o, none⟩) l) (k : Nat) : Ss w B (some ⟨b, o + k * 4, none⟩) (l.drop k) := fun hn => by
  obtain ⟨b', o', e, hb, hc⟩ := h (by simp at hn; omega)
  injection e with e
  injection e with e1 e2
  subst e1 e2
  refine ⟨b, o + k * 4, rfl, hb, fun j x hx => ?_⟩
  rw [List.getElem?_drop] at hx
  have := hc _ x hx
  rwa [show o + (k + j) * 4 = o + k * 4 + j * 4 by omega] at this
theorem Ss.of_own {base : Nat} {e : TypeId} {v : Value} {n : Nat} (h : w.ownsRow base e 4 v n (svs l)) : ∃ c, n = l.length ∧ n ≤ c ∧ ∃ A, v = .slice A l.length c ∧ Ss w w.heap.size A l := by
  have hl : n = l.length := by have := h.1; rw [svs_length] at this; omega
  subst hl
  rcases h.2 with ⟨rfl, h0⟩ | ⟨g, cap, cur, rfl, hb, hg, hc, hm, hs, ht⟩
  · exact ⟨0, rfl, by omega, none, by rw [h0], fun hn => absurd hn (by omega)⟩
  · refine ⟨cap, rfl, hc, _, rfl, fun hn => ⟨g, 0, rfl, (Array.getElem?_eq_some_iff.1 hg).1, fun j x hx => ?_⟩⟩
    have key : ∀ i u, i < 4 → (sq x)[i]? = some u → w.cell? ⟨g, 0 + j * 4 + i, none⟩ = some u := fun i u hi hu => by
      have := h.cells (g := g) rfl (j * 4 + i) u ((svs_get l j i x hx hi).trans hu)
      rwa [addr_add, ← Nat.add_assoc] at this
    exact ⟨key 0 _ (by omega) rfl, key 1 _ (by omega) rfl, key 2 _ (by omega) rfl, key 3 _ (by omega) rfl⟩
end
theorem own_belowS {w w' : World} {base n b size : Nat} {e : TypeId} {v : Value} {xs : List Value} (h : w.ownsRow base e size v n xs) (hb : Below b w w') (hB : w.heap.size ≤ b) : w'.ownsRow base e size v n xs := by
  refine ⟨h.1, ?_⟩
  rcases h.2 with hn | ⟨g, cap, cur, rfl, h1, hg, rest⟩
  · exact .inl hn
  · refine .inr ⟨g, cap, cur, rfl, h1, ?_, rest⟩
    have hlt := (Array.getElem?_eq_some_iff.1 hg).1
    rw [hb.block g (by omega)]
    exact hg
theorem infoS : (Try.prog.info? 24).map (fun i => (i.zero, i.size, i.bytes)) = some (some (.agg #[.int .i64 0, .int .i64 0, .int .i64 0, .int .i64 0]), 4, 32) := by kernel_rfl
theorem drewN_cellS (w : World) (n : Nat) (a : Addr) : (w.drewN n).cell? a = w.cell? a := rfl
/-- A span's block. -/
abbrev Bs (w : World) (b : Nat) (x : Sp) : Prop := S4 w b 0 x
theorem Bs.below {w w1 : World} {b B : Nat} {r : Sp} (h : Bs w b r) (hb : Below B w w1) (hB : b < B) : Bs w1 b r := S4.keep h fun i => hb.cell (p := ⟨b, i, none⟩) hB
theorem Bs.new (w : World) (r : Sp) (t : TypeId) : Bs (w.alloc (.cells #[.int .i64 r.n, .int .i64 r.lo, .int .i64 r.hi, .int .i64 r.to] t)) w.heap.size r := ⟨by simp, by simp, by simp, by simp⟩
/-- A code's block. -/
structure Bd (w : World) (b : Nat) (n v : Int) : Prop where
  c0 : w.cell? ⟨b, 0, none⟩ = some (.int .i64 n)
  c1 : w.cell? ⟨b, 1, none⟩ = some (.int .i64 v)
theorem Bd.below {w w1 : World} {b B : Nat} {n v : Int} (h : Bd w b n v) (hb : Below B w w1) (hB : b < B) : Bd w1 b n v :=
  ⟨(hb.cell (p := ⟨b, 0, none⟩) hB).trans h.c0, (hb.cell (p := ⟨b, 1, none⟩) hB).trans h.c1⟩
theorem Bd.new (w : World) (n v : Int) (t : TypeId) : Bd (w.alloc (.cells #[.int .i64 n, .int .i64 v] t)) w.heap.size n v := ⟨by simp, by simp⟩
section
variable {w w1 : World} {O : Obj} {b : Nat}
theorem Bs.step {r : Sp} (h : Bs w b r) (hl : b < w.heap.size) (hb : Below (w.alloc O).heap.size (w.alloc O) w1) : Bs w1 b r :=
  Bs.below (Bs.below h ((Below.refl w.heap.size w).alloc (Nat.le_refl _) O) hl) hb (by simp; omega)
theorem Bd.step {n v : Int} (h : Bd w b n v) (hl : b < w.heap.size) (hb : Below (w.alloc O).heap.size (w.alloc O) w1) : Bd w1 b n v :=
  (h.below ((Below.refl w.heap.size w).alloc (Nat.le_refl _) O) hl).below hb (by simp; omega)
theorem below_stp {w0 : World} {B : Nat} (h : Below B w0 w) (hB : B ≤ w.heap.size) (hb : Below (w.alloc O).heap.size (w.alloc O) w1) : Below B w0 w1 :=
  (h.alloc hB O).trans (hb.mono (by simp; omega))
theorem size_stp (hb : Below (w.alloc O).heap.size (w.alloc O) w1) : w.heap.size < w1.heap.size := by have := hb.size; simp at this; omega
end
/-- What a call hands back: a slice that holds spans. -/
def RetS (w : World) (l : List Sp) (e : Ending) (w' : World) : Prop :=
  ∃ A c, e = .returned (.slice A l.length c) ∧ l.length ≤ c ∧ (A = none → c = 0) ∧ Ss w' w'.heap.size A l ∧ Below w.heap.size w w'
end Go.Proofs.Ytdlkgcbiekilhaa
