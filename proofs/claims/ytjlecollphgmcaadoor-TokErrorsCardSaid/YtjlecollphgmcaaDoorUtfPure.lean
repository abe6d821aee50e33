/-
  Layer 2 as plain lists and numbers: scalar values, units, bytes, and UTF-8. No memory in it.
-/
import Derived.Lib.DecodeN
namespace Go.Proofs.YtjlecollphgmcaaDoor

/-- Is it a scalar value? -/
def goodB (r : Int) : Bool := decide (0 ≤ r ∧ r ≤ 1114111 ∧ (r < 55296 ∨ 57343 < r))
theorem goodB_iff (r : Int) : goodB r = true ↔ 0 ≤ r ∧ r ≤ 1114111 ∧ (r < 55296 ∨ 57343 < r) := by simp [goodB]
theorem goodB_not (r : Int) : goodB r = false ↔ ¬ (0 ≤ r ∧ r ≤ 1114111 ∧ (r < 55296 ∨ 57343 < r)) := by simp [goodB]
/-- It, or Repl. -/
def sc (r : Int) : Int := if goodB r then r else 65533
theorem sc_yes {r : Int} (h : goodB r = true) : sc r = r := by simp [sc, h]
theorem sc_no {r : Int} (h : goodB r = false) : sc r = 65533 := by simp [sc, h]
theorem sc_good (r : Int) : goodB (sc r) = true := by
  unfold sc
  split
  · assumption
  · decide
theorem sc_bounds (r : Int) : 0 ≤ sc r ∧ sc r ≤ 1114111 ∧ (sc r < 55296 ∨ 57343 < sc r) := (goodB_iff _).1 (sc_good r)
theorem sc_sc (r : Int) : sc (sc r) = sc r := sc_yes (sc_good r)

/-! ### units -/
def encU (r : Int) : List Int := if sc r < 65536 then [sc r] else [55296 + (sc r - 65536) / 1024, 56320 + (sc r - 65536) % 1024]
def enc16 (l : List Int) : List Int := l.flatMap encU
theorem encU_length (r : Int) : (encU r).length ≤ 2 := by unfold encU; split <;> simp
theorem enc16_append (a b : List Int) : enc16 (a ++ b) = enc16 a ++ enc16 b := by simp [enc16]
theorem enc16_cons (x : Int) (l : List Int) : enc16 (x :: l) = encU x ++ enc16 l := by simp [enc16]
theorem enc16_length (l : List Int) : (enc16 l).length ≤ 2 * l.length := by
  induction l with
  | nil => simp [enc16]
  | cons x l ih => rw [enc16_cons, List.length_append, List.length_cons]; have := encU_length x; omega
theorem encU_unit (r : Int) : ∀ u ∈ encU r, 0 ≤ u ∧ u ≤ 65535 := by
  intro u hu
  have hb := sc_bounds r
  unfold encU at hu
  split at hu <;> simp at hu <;> omega
theorem enc16_unit (l : List Int) : ∀ u ∈ enc16 l, 0 ≤ u ∧ u ≤ 65535 := by
  intro u hu
  simp only [enc16, List.mem_flatMap] at hu
  obtain ⟨r, _, h⟩ := hu
  exact encU_unit r u h

def hiB (x : Int) : Bool := decide (55296 ≤ x ∧ x < 56320)
def loB (x : Int) : Bool := decide (56320 ≤ x ∧ x < 57344)
theorem hiB_iff (x : Int) : hiB x = true ↔ 55296 ≤ x ∧ x < 56320 := by simp [hiB]
theorem loB_iff (x : Int) : loB x = true ↔ 56320 ≤ x ∧ x < 57344 := by simp [loB]
theorem hiB_not (x : Int) : hiB x = false ↔ ¬ (55296 ≤ x ∧ x < 56320) := by simp [hiB]
theorem loB_not (x : Int) : loB x = false ↔ ¬ (56320 ≤ x ∧ x < 57344) := by simp [loB]
/-- Is it a unit? -/
def unitB (x : Int) : Bool := decide (0 ≤ x ∧ x ≤ 65535)
theorem unitB_iff (x : Int) : unitB x = true ↔ 0 ≤ x ∧ x ≤ 65535 := by simp [unitB]
theorem unitB_not (x : Int) : unitB x = false ↔ ¬ (0 ≤ x ∧ x ≤ 65535) := by simp [unitB]
/-- A unit alone. -/
def one16 (x : Int) : Int := if unitB x && goodB x then x else 65533
theorem one16_yes {x : Int} (h1 : unitB x = true) (h2 : goodB x = true) : one16 x = x := by simp [one16, h1, h2]
theorem one16_no1 {x : Int} (h1 : unitB x = false) : one16 x = 65533 := by simp [one16, h1]
theorem one16_no2 {x : Int} (h1 : goodB x = false) : one16 x = 65533 := by simp [one16, h1]
theorem one16_bounds (x : Int) : goodB (one16 x) = true := by
  unfold one16
  split
  · rename_i h; simp at h; exact h.2
  · decide
/-- Two units. -/
def two16 (x y : Int) : Int := 65536 + (x - 55296) * 1024 + y - 56320
def dec16 : List Int → List Int
  | [] => []
  | [x] => [one16 x]
  | x :: y :: r => if hiB x && loB y then two16 x y :: dec16 r else one16 x :: dec16 (y :: r)
theorem dec16_pair {x y : Int} {r : List Int} (hx : hiB x = true) (hy : loB y = true) : dec16 (x :: y :: r) = two16 x y :: dec16 r := by rw [dec16]; simp [hx, hy]
theorem dec16_lone {x : Int} {r : List Int} (hx : hiB x = false) : dec16 (x :: r) = one16 x :: dec16 r := by
  cases r with
  | nil => rfl
  | cons y r => rw [dec16]; simp [hx]
theorem dec16_apart {x y : Int} {r : List Int} (hy : loB y = false) : dec16 (x :: y :: r) = one16 x :: dec16 (y :: r) := by rw [dec16]; simp [hy]
theorem dec16_one (x : Int) : dec16 [x] = [one16 x] := rfl
theorem two16_bounds {x y : Int} (hx : hiB x = true) (hy : loB y = true) : 65536 ≤ two16 x y ∧ two16 x y ≤ 1114111 := by
  rw [hiB_iff] at hx; rw [loB_iff] at hy; unfold two16; omega
theorem dec16_length : ∀ l : List Int, (dec16 l).length ≤ l.length
  | [] => by simp [dec16]
  | [x] => by simp [dec16]
  | x :: y :: r => by
    have h1 := dec16_length r
    have h2 := dec16_length (y :: r)
    rw [dec16]
    split
    · simp; omega
    · simp at h2 ⊢; omega
theorem dec16_good : ∀ l : List Int, ∀ v ∈ dec16 l, goodB v = true
  | [] => by simp [dec16]
  | [x] => by intro v hv; simp [dec16] at hv; rw [hv]; exact one16_bounds x
  | x :: y :: r => by
    intro v hv
    rw [dec16] at hv
    split at hv
    · rename_i h
      simp at h
      rcases List.mem_cons.1 hv with rfl | hv
      · have := two16_bounds h.1 h.2; rw [goodB_iff]; omega
      · exact dec16_good r v hv
    · rcases List.mem_cons.1 hv with rfl | hv
      · exact one16_bounds x
      · exact dec16_good (y :: r) v hv
theorem dec16_encU (r : Int) (l : List Int) : dec16 (encU r ++ l) = sc r :: dec16 l := by
  have hb := sc_bounds r
  have hg := sc_good r
  unfold encU
  generalize sc r = v at *
  split
  · have h1 : hiB v = false := by rw [hiB_not]; omega
    have h2 : unitB v = true := by rw [unitB_iff]; omega
    rw [List.singleton_append, dec16_lone h1, one16_yes h2 hg]
  · have h1 : hiB (55296 + (v - 65536) / 1024) = true := by rw [hiB_iff]; omega
    have h2 : loB (56320 + (v - 65536) % 1024) = true := by rw [loB_iff]; omega
    have h3 : two16 (55296 + (v - 65536) / 1024) (56320 + (v - 65536) % 1024) = v := by unfold two16; omega
    rw [List.cons_append, List.singleton_append, dec16_pair h1 h2, h3]
theorem dec16_enc16 (l : List Int) : dec16 (enc16 l) = l.map sc := by
  induction l with
  | nil => rfl
  | cons x l ih => rw [enc16_cons, dec16_encU, ih, List.map_cons]
theorem enc16_two {x y : Int} (hx : hiB x = true) (hy : loB y = true) : enc16 [two16 x y] = [x, y] := by
  have hb := two16_bounds hx hy
  have hs : sc (two16 x y) = two16 x y := sc_yes (by rw [goodB_iff]; omega)
  rw [hiB_iff] at hx; rw [loB_iff] at hy
  simp only [enc16, List.flatMap_cons, List.flatMap_nil, List.append_nil, encU, hs]
  rw [if_neg (by omega)]
  unfold two16
  rw [List.cons.injEq, List.cons.injEq]
  exact ⟨by omega, by omega, rfl⟩

/-! ### units as bytes -/
def unitOr (x : Int) : Int := if unitB x then x else 65533
theorem unitOr_bounds (x : Int) : 0 ≤ unitOr x ∧ unitOr x ≤ 65535 := by
  unfold unitOr
  split
  · rename_i h; rwa [unitB_iff] at h
  · decide
def by2 (x : Int) : List UInt8 := [UInt8.ofNat (unitOr x / 256).toNat, UInt8.ofNat (unitOr x % 256).toNat]
def bytes16 (l : List Int) : List UInt8 := l.flatMap by2
theorem bytes16_cons (x : Int) (l : List Int) : bytes16 (x :: l) = by2 x ++ bytes16 l := by simp [bytes16]
theorem bytes16_append (a b : List Int) : bytes16 (a ++ b) = bytes16 a ++ bytes16 b := by simp [bytes16]
theorem bytes16_length (l : List Int) : (bytes16 l).length = 2 * l.length := by
  induction l with
  | nil => rfl
  | cons x l ih => rw [bytes16_cons, List.length_append, ih]; simp [by2]; omega
def units : List UInt8 → List Int
  | a :: b :: r => ((a.toNat : Int) * 256 + b.toNat) :: units r
  | _ => []
theorem units_length : ∀ l : List UInt8, (units l).length = l.length / 2
  | [] => by simp [units]
  | [_] => by simp [units]
  | a :: b :: r => by
    have := units_length r
    rw [units]
    simp only [List.length_cons]
    omega
theorem units_short {l : List UInt8} (h : l.length < 2) : units l = [] := by
  match l, h with
  | [], _ => simp [units]
  | [_], _ => simp [units]
theorem units_bytes16 {l : List Int} (h : ∀ u ∈ l, 0 ≤ u ∧ u ≤ 65535) : units (bytes16 l) = l := by
  induction l with
  | nil => rfl
  | cons x l ih =>
    have hx := h x (List.mem_cons_self ..)
    have hu : unitOr x = x := by unfold unitOr; rw [if_pos ((unitB_iff x).2 hx)]
    rw [bytes16_cons, by2, hu, List.cons_append, List.singleton_append, units, ih fun u hu => h u (List.mem_cons_of_mem _ hu)]
    congr 1
    have h1 : (x / 256).toNat < 256 := by omega
    have h2 : (x % 256).toNat < 256 := by omega
    rw [UInt8.toNat_ofNat_of_lt' h1, UInt8.toNat_ofNat_of_lt' h2]
    omega
end Go.Proofs.YtjlecollphgmcaaDoor
