/-
  Tokens in memory: a slice that holds a list of tokens, four cells each; what a call hands back.
-/
import Derived.Test.YtjlecollphgmcaaDoorTokVal
namespace Go.Proofs.YtjlecollphgmcaaDoor
open Go.RowKit

/-- Tokens as cells. -/
def tq (t : Tk) : List Value := [.int .i64 t.kind, .int .i64 t.at_, .int .i64 t.n, .string (str t.s)]
def tvs (l : List Tk) : List Value := l.flatMap tq
theorem tvs_cons (t : Tk) (l : List Tk) : tvs (t :: l) = tq t ++ tvs l := by simp [tvs]
theorem tvs_append (a b : List Tk) : tvs (a ++ b) = tvs a ++ tvs b := by simp [tvs]
theorem tvs_length : ∀ l : List Tk, (tvs l).length = l.length * 4
  | [] => rfl
  | t :: l => by rw [tvs_cons, List.length_append, tvs_length l, List.length_cons]; simp [tq]; omega
theorem tvs_one (l : List Tk) : ∀ u ∈ tvs l, u.oneCell' = true := by
  intro u hu
  simp only [tvs, List.mem_flatMap, tq, List.mem_cons, List.not_mem_nil, or_false] at hu
  obtain ⟨t, _, rfl | rfl | rfl | rfl⟩ := hu <;> rfl
/-- The token at a place of a list. -/
def tg (l : List Tk) (j : Nat) : Tk := l[j]?.getD noT
theorem tg_zero (t : Tk) (l : List Tk) : tg (t :: l) 0 = t := rfl
theorem tg_succ (t : Tk) (l : List Tk) (j : Nat) : tg (t :: l) (j + 1) = tg l j := by simp [tg]
theorem tvs_get : ∀ (l : List Tk) (j i : Nat), j < l.length → i < 4 → (tvs l)[j * 4 + i]? = (tq (tg l j))[i]?
  | [], j, i, h, _ => by simp at h
  | t :: l, 0, i, _, hi => by
    rw [tvs_cons, Nat.zero_mul, Nat.zero_add, List.getElem?_append_left (by simpa [tq] using hi)]
    rfl
  | t :: l, j + 1, i, h, hi => by
    rw [tvs_cons, List.getElem?_append_right (by simp [tq]; omega), tg_succ, ← tvs_get l j i (by simpa using h) hi]
    congr 1
    simp [tq]
    omega
theorem tg_mem {l : List Tk} {j : Nat} (h : j < l.length) : tg l j ∈ l := by
  unfold tg
  rw [List.getElem?_eq_getElem h]
  exact List.getElem_mem h
theorem drop_tg {l : List Tk} {j : Nat} (h : j < l.length) : l.drop j = tg l j :: l.drop (j + 1) := by
  unfold tg
  rw [List.getElem?_eq_getElem h, List.drop_eq_getElem_cons h]
  rfl

/-- A slice at A holds the tokens l, below block B. -/
def St (w : World) (B : Nat) (A : Option Addr) (l : List Tk) : Prop :=
  0 < l.length → ∃ b o, A = some ⟨b, o, none⟩ ∧ b < B ∧ ∀ j, j < l.length →
    w.cell? ⟨b, o + j * 4, none⟩ = some (.int .i64 (tg l j).kind) ∧ w.cell? ⟨b, o + j * 4 + 1, none⟩ = some (.int .i64 (tg l j).at_) ∧ w.cell? ⟨b, o + j * 4 + 2, none⟩ = some (.int .i64 (tg l j).n) ∧ w.cell? ⟨b, o + j * 4 + 3, none⟩ = some (.string (str (tg l j).s))
section
variable {w w' : World} {B B' : Nat} {A : Option Addr} {l : List Tk}
theorem St.keep (h : St w B A l) (hk : ∀ p : Addr, p.block < B → w'.cell? p = w.cell? p) : St w' B A l := fun hn => by
  obtain ⟨b, o, e, hb, hc⟩ := h hn
  refine ⟨b, o, e, hb, fun j hj => ?_⟩
  obtain ⟨h0, h1, h2, h3⟩ := hc j hj
  exact ⟨(hk ⟨b, _, none⟩ hb).trans h0, (hk ⟨b, _, none⟩ hb).trans h1, (hk ⟨b, _, none⟩ hb).trans h2, (hk ⟨b, _, none⟩ hb).trans h3⟩
theorem St.below (h : St w B A l) (hb : Below B w w') : St w' B A l := h.keep fun _ hp => hb.cell hp
theorem St.more (h : St w B A l) (hB : B ≤ B') : St w B' A l := fun hn => by
  obtain ⟨b, o, e, hb, hc⟩ := h hn
  exact ⟨b, o, e, by omega, hc⟩
theorem St.over (h : St w w.heap.size A l) (hb : Below w.heap.size w w') : St w' w'.heap.size A l := (h.below hb).more hb.size
theorem St.nil : St w B A [] := fun h => absurd h (by simp)
theorem St.of_own {base : Nat} {e : TypeId} {v : Value} {n : Nat} (h : w.ownsRow base e 4 v n (tvs l)) : ∃ c, n = l.length ∧ n ≤ c ∧ ∃ A, v = .slice A l.length c ∧ St w w.heap.size A l := by
  have hl : n = l.length := by have := h.1; rw [tvs_length] at this; omega
  subst hl
  rcases h.2 with ⟨rfl, h0⟩ | ⟨g, cap, cur, rfl, hb, hg, hc, hm, hs, ht⟩
  · exact ⟨0, rfl, by omega, none, by rw [h0], fun hn => absurd hn (by omega)⟩
  · refine ⟨cap, rfl, hc, _, rfl, fun hn => ⟨g, 0, rfl, (Array.getElem?_eq_some_iff.1 hg).1, fun j hj => ?_⟩⟩
    have key : ∀ i u, i < 4 → (tq (tg l j))[i]? = some u → w.cell? ⟨g, 0 + j * 4 + i, none⟩ = some u := fun i u hi hu => by
      have := h.cells (g := g) rfl (j * 4 + i) u ((tvs_get l j i hj hi).trans hu)
      rwa [addr_add, ← Nat.add_assoc] at this
    exact ⟨key 0 _ (by omega) rfl, key 1 _ (by omega) rfl, key 2 _ (by omega) rfl, key 3 _ (by omega) rfl⟩
end
theorem own_belowN {w w' : World} {base n b size : Nat} {e : TypeId} {v : Value} {xs : List Value} (h : w.ownsRow base e size v n xs) (hb : Below b w w') (hB : w.heap.size ≤ b) : w'.ownsRow base e size v n xs := by
  refine ⟨h.1, ?_⟩
  rcases h.2 with hn | ⟨g, cap, cur, rfl, h1, hg, rest⟩
  · exact .inl hn
  · refine .inr ⟨g, cap, cur, rfl, h1, ?_, rest⟩
    have hlt := (Array.getElem?_eq_some_iff.1 hg).1
    rw [hb.block g (by omega)]
    exact hg
theorem infoT : (Tryd.prog.info? 31).map (fun i => (i.zero, i.size, i.bytes)) = some (some (.agg #[.int .i64 0, .int .i64 0, .int .i64 0, .string ⟨#[]⟩]), 4, 40) := by kernel_rfl
/-- Three results: tokens, a place, an error. -/
def RetTk (w : World) (a : Al) (e : Ending) (w' : World) : Prop :=
  ∃ A c, e = .returned (.tuple #[.slice A a.l.length c, .int .i64 (a.k : Int), .int .i64 a.e]) ∧ a.l.length ≤ c ∧ St w' w'.heap.size A a.l ∧ Below w.heap.size w w'
end Go.Proofs.YtjlecollphgmcaaDoor
