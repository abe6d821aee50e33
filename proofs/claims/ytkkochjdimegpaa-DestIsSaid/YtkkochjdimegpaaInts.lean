/-
  Words of this proof's own for ints in memory: a slice that holds a list of ints; what a call hands back; an argument that is such a slice.
-/
import Derived.Test.YtkkochjdimegpaaMem
import Derived.Test.YtkkochjdimegpaaView
namespace Go.Proofs.Ytkkochjdimegpaa
open Go.ChangeShapes Go.WideShapes Go.ChangeAt Go.RowKit Go.Joins

/-- Ints as Go's values. -/
def ivs (l : List Int) : List Value := l.map fun n => Value.int .i64 n
theorem ivs_length (l : List Int) : (ivs l).length = l.length := by simp [ivs]
theorem ivs_get (l : List Int) (j : Nat) (h : j < l.length) : (ivs l)[j]? = some (.int .i64 (l[j]?.getD 0)) := by simp [ivs, h]
theorem ivs_append (a b : List Int) : ivs (a ++ b) = ivs a ++ ivs b := by simp [ivs]
theorem ivs_one (l : List Int) : ∀ u ∈ ivs l, u.oneCell' = true := by
  intro u hu
  simp only [ivs, List.mem_map] at hu
  obtain ⟨b, _, rfl⟩ := hu
  rfl

/-- A slice at A holds the ints l, below block B. -/
def Si (w : World) (B : Nat) (A : Option Addr) (l : List Int) : Prop :=
  0 < l.length → ∃ b o, A = some ⟨b, o, none⟩ ∧ b < B ∧ ∀ j, j < l.length → w.cell? ⟨b, o + j, none⟩ = some (.int .i64 (l[j]?.getD 0))

section
variable {w w' : World} {B B' : Nat} {A : Option Addr} {l : List Int}
theorem Si.keep (h : Si w B A l) (hk : ∀ p : Addr, p.block < B → w'.cell? p = w.cell? p) : Si w' B A l := fun hn => by
  obtain ⟨b, o, e, hb, hc⟩ := h hn
  exact ⟨b, o, e, hb, fun j hj => (hk ⟨b, o + j, none⟩ hb).trans (hc j hj)⟩
theorem Si.below (h : Si w B A l) (hb : Below B w w') : Si w' B A l := h.keep fun _ hp => hb.cell hp
theorem Si.more (h : Si w B A l) (hB : B ≤ B') : Si w B' A l := fun hn => by
  obtain ⟨b, o, e, hb, hc⟩ := h hn
  exact ⟨b, o, e, by omega, hc⟩
/-- Over a call that leaves all that was there. -/
theorem Si.over (h : Si w w.heap.size A l) (hb : Below w.heap.size w w') : Si w' w'.heap.size A l := (h.below hb).more hb.size
theorem Si.nil : Si w B A [] := fun h => absurd h (by simp)
theorem Si.drew (h : Si w B A l) : Si w.drew B A l := h
theorem Si.alloc (h : Si w B A l) (hB : B ≤ w.heap.size) (o : Obj) : Si (w.alloc o) B A l := h.keep fun p hp => World.cell?_alloc_lt w o p (by omega)
theorem Si.cells (h : Si w B A l) (hn : 0 < l.length) : ∃ a, A = some a ∧ ∀ j u, (ivs l)[j]? = some u → w.cell? (a.add j) = some u := by
  obtain ⟨b, o, e, _, hc⟩ := h hn
  refine ⟨_, e, fun j u hu => ?_⟩
  have hj : j < l.length := by
    rcases Nat.lt_or_ge j l.length with h | h
    · exact h
    · rw [List.getElem?_eq_none (by rw [ivs_length]; exact h)] at hu; cases hu
  rw [ivs_get l j hj] at hu
  rw [addr_add, hc j hj, hu]
theorem Si.of_own {base : Nat} {e : TypeId} {v : Value} {n : Nat} (h : w.ownsRow base e 1 v n (ivs l)) : ∃ c, n = l.length ∧ (n ≤ c ∧ (v = .slice none l.length c → c = 0)) ∧ ∃ A, v = .slice A l.length c ∧ Si w w.heap.size A l := by
  have hl : n = l.length := by have := h.1; rw [ivs_length] at this; omega
  subst hl
  rcases h.2 with ⟨rfl, h0⟩ | ⟨g, cap, cur, rfl, hb, hg, hc, hm, hs, ht⟩
  · exact ⟨0, rfl, ⟨by omega, fun _ => rfl⟩, none, by rw [h0], fun hn => absurd hn (by omega)⟩
  · refine ⟨cap, rfl, ⟨hc, fun e => by cases e⟩, _, rfl, fun hn => ⟨g, 0, rfl, (Array.getElem?_eq_some_iff.1 hg).1, fun j hj => ?_⟩⟩
    have := h.cells (g := g) rfl j _ (ivs_get l j hj)
    rwa [addr_add] at this
end

/-- One result: a slice of ints (a nil one has no room). -/
def RetSi (w : World) (l : List Int) (e : Ending) (w' : World) : Prop :=
  ∃ A c, e = .returned (.slice A l.length c) ∧ (l.length ≤ c ∧ (Value.slice A l.length c = .slice none l.length c → c = 0)) ∧ Si w' w'.heap.size A l ∧ Below w.heap.size w w'
/-- Two results: a slice of ints, and a truth. -/
def RetSiB (w : World) (l : List Int) (b : Bool) (e : Ending) (w' : World) : Prop :=
  ∃ A c, e = .returned (.tuple #[.slice A l.length c, .bool b]) ∧ (l.length ≤ c ∧ (Value.slice A l.length c = .slice none l.length c → c = 0)) ∧ Si w' w'.heap.size A l ∧ Below w.heap.size w w'

section
variable {H : Type} {enc : TypeId × Value → H} {P : Program} {W : World} {base : Nat} {v : Value} {d : DataW H} {p : List MemPlace}
theorem view_ints {t e : TypeId} (ht : P.underlying t = some (.slice e)) (he : P.underlying e = some (.int .i64)) (hc : P.cellsOf e = 1) (hv : Value.okWide P W .any base t v) (h : DataW.Trod enc P W 0 (fun _ => true) true t v d p) :
    ∃ A l c, v = .slice A l.length c ∧ l.length ≤ maxLen ∧ Si W W.heap.size A l ∧ (A = none → c = 0) := by
  obtain ⟨A, len, cap, rfl⟩ := okWide_slice ht hv
  obtain ⟨fuel, hf⟩ := h
  rcases open_ints ht he hc hf with ⟨hcs, _⟩ | ⟨x, l, c, zs, hcs, _, hl, hm, hz, _, hcell, hwz⟩
  · simp [Value.cells] at hcs
    obtain ⟨rfl, rfl, rfl⟩ := hcs
    exact ⟨none, [], 0, rfl, by simp [maxLen], Si.nil, fun _ => rfl⟩
  · simp [Value.cells] at hcs
    obtain ⟨rfl, rfl, rfl⟩ := hcs
    have hz' : zs.length = cap := by simpa using hz
    have hlen : (zs.take len).length = len := by simp; omega
    have hget : ∀ j, j < len → (zs.take len)[j]?.getD 0 = zs.getD j 0 := fun j hj => by
      have hzj : zs[j]? = some (zs.getD j 0) := by rw [List.getD_eq_getElem?_getD, List.getElem?_eq_getElem (by omega : j < zs.length)]; rfl
      rw [List.getElem?_take, if_pos hj, hzj]; rfl
    refine ⟨some x, zs.take len, cap, by rw [hlen], by rw [hlen]; omega, fun hn => ?_, fun e => by cases e⟩
    rw [hlen] at hn
    obtain ⟨b, off, spot⟩ := x
    have hc0 := hcell 0 (by omega)
    have hspot : spot = none := by simpa [Addr.add] using World.cell?_spot hc0
    subst hspot
    refine ⟨b, off, rfl, World.block_lt_of_cell? W _ (by simpa [Addr.add] using hc0 : W.cell? ⟨b, off, none⟩ = _), fun j hj => ?_⟩
    rw [hlen] at hj
    have hcj := hcell j (by omega)
    rw [addr_add] at hcj
    rw [hcj, hget j hj]
end
end Go.Proofs.Ytkkochjdimegpaa
