/-
  Parts of this proof, one behind the other: Info64, UtfPure, UtfOwn, UtfUn0, SynDef, SynMem, SynNest, Conv, SynQs, SynOc, SynDev1, SynDev2.
-/
import Derived.Test.YthcnjiigkmljnaaGreatDoorProg
import Derived.WalkKit
import Derived.Lib.DecodeN
import Derived.Test.YthcnjiigkmljnaaGreatDoorPart1
import Derived.Lib.BufferOwn
import Derived.BigQuiet
import Derived.Deep.QuietTactic
import Derived.Deep.RegionHeld
import Derived.Deep.DrawnRows
/-
  What an int is to the program.
-/
namespace Go.Proofs.YthcnjiigkmljnaaGreatDoor
open Go.RowKit

theorem info64 : (Tryz.prog.info? 3).map (fun i => (i.zero, i.size, i.bytes)) = some (some (.int .i64 0), 1, 8) := by kernel_rfl
end Go.Proofs.YthcnjiigkmljnaaGreatDoor
/-
  Layer 2 as plain lists and numbers: scalar values, units, bytes, and UTF-8. No memory in it.
-/
namespace Go.Proofs.YthcnjiigkmljnaaGreatDoor

/-- Is it a scalar value? -/
def goodB (r : Int) : Bool := decide (0 ≤ r ∧ r ≤ 1114111 ∧ (r < 55296 ∨ 57343 < r))
theorem goodB_iff (r : Int) : goodB r = true ↔ 0 ≤ r ∧ r ≤ 1114111 ∧ (r < 55296 ∨ 57343 < r) := by simp [goodB]
theorem goodB_not (r : Int) : goodB r = false ↔ ¬ (0 ≤ r ∧ r ≤ 1114111 ∧ (r < 55296 ∨ 57343 < r)) := by simp [goodB]
/-- It, or Repl. -/
def sc (r : Int) : Int := if goodB r then r else 65533
theorem sc_yes {r : Int} (h : goodB r = true) : sc r = r := by simp [sc, h]
theorem sc_no {r : Int} (h : goodB r = false) : sc r = 65533 := by simp [sc, h]
theorem sc_good (r : Int) : goodB (sc r) = true := by
  unfold sc
  split
  · assumption
  · decide
theorem sc_bounds (r : Int) : 0 ≤ sc r ∧ sc r ≤ 1114111 ∧ (sc r < 55296 ∨ 57343 < sc r) := (goodB_iff _).1 (sc_good r)
theorem sc_sc (r : Int) : sc (sc r) = sc r := sc_yes (sc_good r)

/-! ### units -/
def encU (r : Int) : List Int := if sc r < 65536 then [sc r] else [55296 + (sc r - 65536) / 1024, 56320 + (sc r - 65536) % 1024]
def enc16 (l : List Int) : List Int := l.flatMap encU
theorem encU_length (r : Int) : (encU r).length ≤ 2 := by unfold encU; split <;> simp
theorem enc16_append (a b : List Int) : enc16 (a ++ b) = enc16 a ++ enc16 b := by simp [enc16]
theorem enc16_cons (x : Int) (l : List Int) : enc16 (x :: l) = encU x ++ enc16 l := by simp [enc16]
theorem enc16_length (l : List Int) : (enc16 l).length ≤ 2 * l.length := by
  induction l with
  | nil => simp [enc16]
  | cons x l ih => rw [enc16_cons, List.length_append, List.length_cons]; have := encU_length x; omega
theorem encU_unit (r : Int) : ∀ u ∈ encU r, 0 ≤ u ∧ u ≤ 65535 := by
  intro u hu
  have hb := sc_bounds r
  unfold encU at hu
  split at hu <;> simp at hu <;> omega
theorem enc16_unit (l : List Int) : ∀ u ∈ enc16 l, 0 ≤ u ∧ u ≤ 65535 := by
  intro u hu
  simp only [enc16, List.mem_flatMap] at hu
  obtain ⟨r, _, h⟩ := hu
  exact encU_unit r u h

def hiB (x : Int) : Bool := decide (55296 ≤ x ∧ x < 56320)
def loB (x : Int) : Bool := decide (56320 ≤ x ∧ x < 57344)
theorem hiB_iff (x : Int) : hiB x = true ↔ 55296 ≤ x ∧ x < 56320 := by simp [hiB]
theorem loB_iff (x : Int) : loB x = true ↔ 56320 ≤ x ∧ x < 57344 := by simp [loB]
theorem hiB_not (x : Int) : hiB x = false ↔ ¬ (55296 ≤ x ∧ x < 56320) := by simp [hiB]
theorem loB_not (x : Int) : loB x = false ↔ ¬ (56320 ≤ x ∧ x < 57344) := by simp [loB]
/-- Is it a unit? -/
def unitB (x : Int) : Bool := decide (0 ≤ x ∧ x ≤ 65535)
theorem unitB_iff (x : Int) : unitB x = true ↔ 0 ≤ x ∧ x ≤ 65535 := by simp [unitB]
theorem unitB_not (x : Int) : unitB x = false ↔ ¬ (0 ≤ x ∧ x ≤ 65535) := by simp [unitB]
/-- A unit alone. -/
def one16 (x : Int) : Int := if unitB x && goodB x then x else 65533
theorem one16_yes {x : Int} (h1 : unitB x = true) (h2 : goodB x = true) : one16 x = x := by simp [one16, h1, h2]
theorem one16_no1 {x : Int} (h1 : unitB x = false) : one16 x = 65533 := by simp [one16, h1]
theorem one16_no2 {x : Int} (h1 : goodB x = false) : one16 x = 65533 := by simp [one16, h1]
theorem one16_bounds (x : Int) : goodB (one16 x) = true := by
  unfold one16
  split
  · rename_i h; simp at h; exact h.2
  · decide
/-- Two units. -/
def two16 (x y : Int) : Int := 65536 + (x - 55296) * 1024 + y - 56320
def dec16 : List Int → List Int
  | [] => []
  | [x] => [one16 x]
  | x :: y :: r => if hiB x && loB y then two16 x y :: dec16 r else one16 x :: dec16 (y :: r)
theorem dec16_pair {x y : Int} {r : List Int} (hx : hiB x = true) (hy : loB y = true) : dec16 (x :: y :: r) = two16 x y :: dec16 r := by rw [dec16]; simp [hx, hy]
theorem dec16_lone {x : Int} {r : List Int} (hx : hiB x = false) : dec16 (x :: r) = one16 x :: dec16 r := by
  cases r with
  | nil => rfl
  | cons y r => rw [dec16]; simp [hx]
theorem dec16_apart {x y : Int} {r : List Int} (hy : loB y = false) : dec16 (x :: y :: r) = one16 x :: dec16 (y :: r) := by rw [dec16]; simp [hy]
theorem dec16_one (x : Int) : dec16 [x] = [one16 x] := rfl
theorem two16_bounds {x y : Int} (hx : hiB x = true) (hy : loB y = true) : 65536 ≤ two16 x y ∧ two16 x y ≤ 1114111 := by
  rw [hiB_iff] at hx; rw [loB_iff] at hy; unfold two16; omega
theorem dec16_length : ∀ l : List Int, (dec16 l).length ≤ l.length
  | [] => by simp [dec16]
  | [x] => by simp [dec16]
  | x :: y :: r => by
    have h1 := dec16_length r
    have h2 := dec16_length (y :: r)
    rw [dec16]
    split
    · simp; omega
    · simp at h2 ⊢; omega
theorem dec16_good : ∀ l : List Int, ∀ v ∈ dec16 l, goodB v = true
  | [] => by simp [dec16]
  | [x] => by intro v hv; simp [dec16] at hv; rw [hv]; exact one16_bounds x
  | x :: y :: r => by
    intro v hv
    rw [dec16] at hv
    split at hv
    · rename_i h
      simp at h
      rcases List.mem_cons.1 hv with rfl | hv
      · have := two16_bounds h.1 h.2; rw [goodB_iff]; omega
      · exact dec16_good r v hv
    · rcases List.mem_cons.1 hv with rfl | hv
      · exact one16_bounds x
      · exact dec16_good (y :: r) v hv
theorem dec16_encU (r : Int) (l : List Int) : dec16 (encU r ++ l) = sc r :: dec16 l := by
  have hb := sc_bounds r
  have hg := sc_good r
  unfold encU
  generalize sc r = v at *
  split
  · have h1 : hiB v = false := by rw [hiB_not]; omega
    have h2 : unitB v = true := by rw [unitB_iff]; omega
    rw [List.singleton_append, dec16_lone h1, one16_yes h2 hg]
  · have h1 : hiB (55296 + (v - 65536) / 1024) = true := by rw [hiB_iff]; omega
    have h2 : loB (56320 + (v - 65536) % 1024) = true := by rw [loB_iff]; omega
    have h3 : two16 (55296 + (v - 65536) / 1024) (56320 + (v - 65536) % 1024) = v := by unfold two16; omega
    rw [List.cons_append, List.singleton_append, dec16_pair h1 h2, h3]
theorem dec16_enc16 (l : List Int) : dec16 (enc16 l) = l.map sc := by
  induction l with
  | nil => rfl
  | cons x l ih => rw [enc16_cons, dec16_encU, ih, List.map_cons]
theorem enc16_two {x y : Int} (hx : hiB x = true) (hy : loB y = true) : enc16 [two16 x y] = [x, y] := by
  have hb := two16_bounds hx hy
  have hs : sc (two16 x y) = two16 x y := sc_yes (by rw [goodB_iff]; omega)
  rw [hiB_iff] at hx; rw [loB_iff] at hy
  simp only [enc16, List.flatMap_cons, List.flatMap_nil, List.append_nil, encU, hs]
  rw [if_neg (by omega)]
  unfold two16
  rw [List.cons.injEq, List.cons.injEq]
  exact ⟨by omega, by omega, rfl⟩

/-! ### units as bytes -/
def unitOr (x : Int) : Int := if unitB x then x else 65533
theorem unitOr_bounds (x : Int) : 0 ≤ unitOr x ∧ unitOr x ≤ 65535 := by
  unfold unitOr
  split
  · rename_i h; rwa [unitB_iff] at h
  · decide
def by2 (x : Int) : List UInt8 := [UInt8.ofNat (unitOr x / 256).toNat, UInt8.ofNat (unitOr x % 256).toNat]
def bytes16 (l : List Int) : List UInt8 := l.flatMap by2
theorem bytes16_cons (x : Int) (l : List Int) : bytes16 (x :: l) = by2 x ++ bytes16 l := by simp [bytes16]
theorem bytes16_append (a b : List Int) : bytes16 (a ++ b) = bytes16 a ++ bytes16 b := by simp [bytes16]
theorem bytes16_length (l : List Int) : (bytes16 l).length = 2 * l.length := by
  induction l with
  | nil => rfl
  | cons x l ih => rw [bytes16_cons, List.length_append, ih]; simp [by2]; omega
def units : List UInt8 → List Int
  | a :: b :: r => ((a.toNat : Int) * 256 + b.toNat) :: units r
  | _ => []
theorem units_length : ∀ l : List UInt8, (units l).length = l.length / 2
  | [] => by simp [units]
  | [_] => by simp [units]
  | a :: b :: r => by
    have := units_length r
    rw [units]
    simp only [List.length_cons]
    omega
theorem units_short {l : List UInt8} (h : l.length < 2) : units l = [] := by
  match l, h with
  | [], _ => simp [units]
  | [_], _ => simp [units]
theorem units_bytes16 {l : List Int} (h : ∀ u ∈ l, 0 ≤ u ∧ u ≤ 65535) : units (bytes16 l) = l := by
  induction l with
  | nil => rfl
  | cons x l ih =>
    have hx := h x (List.mem_cons_self ..)
    have hu : unitOr x = x := by unfold unitOr; rw [if_pos ((unitB_iff x).2 hx)]
    rw [bytes16_cons, by2, hu, List.cons_append, List.singleton_append, units, ih fun u hu => h u (List.mem_cons_of_mem _ hu)]
    congr 1
    have h1 : (x / 256).toNat < 256 := by omega
    have h2 : (x % 256).toNat < 256 := by omega
    rw [UInt8.toNat_ofNat_of_lt' h1, UInt8.toNat_ofNat_of_lt' h2]
    omega
end Go.Proofs.YthcnjiigkmljnaaGreatDoor
/-
  Rows of ints that a call owns.
-/
namespace Go.Proofs.YthcnjiigkmljnaaGreatDoor
open Go.RowKit

theorem drop_here {α : Type} (l : List α) (k : Nat) (d : α) (h : k < l.length) : l.drop k = l[k]?.getD d :: l.drop (k + 1) := by
  rw [List.drop_eq_getElem_cons h, List.getElem?_eq_getElem h]; rfl
theorem own_ints {w : World} {B : Nat} {e : TypeId} {v : Value} {n : Nat} {a b : List Int} (h : w.ownsRow B e 1 v n (ivs a ++ ivs b)) (hn : n = (a ++ b).length) : w.ownsRow B e 1 v (a ++ b).length (ivs (a ++ b)) := by
  rw [ivs_append, ← hn]; exact h
end Go.Proofs.YthcnjiigkmljnaaGreatDoor
/-
  Units of bytes, as plain lists.
-/
namespace Go.Proofs.YthcnjiigkmljnaaGreatDoor
open Go.RowKit

theorem units_at {l : List UInt8} {out : List Int} {j : Nat} {x y : UInt8} (h : j + 1 < l.length) (hx : x = l[j]?.getD 0) (hy : y = l[j + 1]?.getD 0) (he : out ++ units (l.drop j) = units l) : (out ++ [(x.toNat : Int) * 256 + y.toNat]) ++ units (l.drop (j + 2)) = units l := by
  rw [drop_here l j 0 (by omega), drop_here l (j + 1) 0 h, ← hx, ← hy, units] at he
  rw [List.append_assoc]; exact he
/-- Is one left over? -/
def oddB (l : List UInt8) : Bool := decide (l.length % 2 = 1)
/-- As RetSiB, and the slice's block, if there is one, is new. -/
def RetSiN (w : World) (l : List Int) (b : Bool) (e : Ending) (w' : World) : Prop :=
  ∃ A c, e = .returned (.tuple #[.slice A l.length c, .bool b]) ∧ (l.length ≤ c ∧ (Value.slice A l.length c = .slice none l.length c → c = 0)) ∧ Si w' w'.heap.size A l ∧ (∀ g o, A = some ⟨g, o, none⟩ → w.heap.size ≤ g) ∧ Below w.heap.size w w'
end Go.Proofs.YthcnjiigkmljnaaGreatDoor
/-
  Layer 5 as plain functions of lists of tokens: codes, units, entries, sections, items.
-/
namespace Go.Proofs.YthcnjiigkmljnaaGreatDoor

/-- A code: how many bytes, and their number. -/
structure Cd where
  n : Int
  v : Int
/-- An entry. -/
structure En where
  lo : Cd
  hi : Cd
  to : Int
  u : List Int
  ll : List (List Int)
/-- An item. -/
structure Im where
  kind : Int
  at_ : Int
  name : List UInt8
  val : Tk
  ents : List En
/-- An answer, and which token is next; or an error, and its place. -/
inductive Rs (α : Type) where
  | no (a e : Int)
  | ok (x : α) (i : Nat)
def Rs.then {α β : Type} (r : Rs α) (f : α → Nat → Rs β) : Rs β := match r with | .no a e => .no a e | .ok x i => f x i
theorem then_no {α β : Type} (a e : Int) (f : α → Nat → Rs β) : (Rs.no a e : Rs α).then f = .no a e := rfl
theorem then_ok {α β : Type} (x : α) (i : Nat) (f : α → Nat → Rs β) : (Rs.ok x i).then f = f x i := rfl

section
variable (L : List Tk) (en : Int)
/-- The next token, that is to be of a kind. -/
def takeT (kind : Int) (i : Nat) : Rs Tk := if i < L.length then (if (tg L i).kind = kind then .ok (tg L i) (i + 1) else .no (tg L i).at_ 3) else .no en 2
/-- The next token as a code, and where it stands. -/
def codeT (i : Nat) : Rs (Cd × Int) := (takeT L en 4 i).then fun t j => if 1 ≤ t.s.length ∧ t.s.length ≤ 4 then .ok (⟨t.s.length, num t.s⟩, t.at_) j else .no t.at_ 12
/-- Is a byte of a code below that of another one? -/
def lowB (a b : Cd) : Bool := ((codeL a.n a.v).zip (codeL b.n b.v)).any fun x => decide (x.1.toNat < x.2.toNat)
def pairT (rect : Bool) (i : Nat) : Rs (Cd × Cd) := (codeT L en i).then fun x j => (codeT L en j).then fun y k =>
  if y.1.n = x.1.n then (if (rect && lowB y.1 x.1 || !rect && decide (y.1.v < x.1.v)) = true then .no y.2 7 else .ok (x.1, y.1) k) else .no y.2 12
def toT (more : Int) (i : Nat) : Rs Int := (takeT L en 1 i).then fun t j => if t.n < 0 ∨ 65535 - more < t.n then .no t.at_ 7 else .ok t.n j
/-- The units of a token: 1 to 64, none left over. -/
def unitsT (t : Tk) : Option (List Int) := if oddB t.s = false ∧ 1 ≤ (units t.s).length ∧ (units t.s).length ≤ 64 then some (units t.s) else none
def unitT (i : Nat) : Rs (List Int × Int) := (takeT L en 4 i).then fun t j => match unitsT t with | some u => .ok (u, t.at_) j | none => .no t.at_ 3
/-- A row of Hexes, behind what opens it. -/
def listT (n : Int) (acc : List (List Int)) (i : Nat) : Rs (List (List Int)) :=
  if _h : i < L.length then
    if (tg L i).kind = 7 then (if (acc.length : Int) = n then .ok acc (i + 1) else .no (tg L i).at_ 6)
    else (unitT L en i).then fun u _ => listT n (acc ++ [u.1]) (i + 1)
  else .no en 2
termination_by L.length - i
def bfT (i : Nat) : Rs En := (pairT L en false i).then fun p j =>
  if j < L.length ∧ (tg L j).kind = 6 then (listT L en (p.2.v - p.1.v + 1) [] (j + 1)).then fun l k => .ok ⟨p.1, p.2, 0, [], l⟩ k
  else (unitT L en j).then fun u k => if 65535 < u.1.getLast?.getD 0 + p.2.v - p.1.v then .no u.2 7 else .ok ⟨p.1, p.2, 0, u.1, []⟩ k
/-- An entry of a section of a kind. -/
def entT (kind : Int) (i : Nat) : Rs En :=
  if kind = 2 then (pairT L en true i).then fun p j => .ok ⟨p.1, p.2, 0, [], []⟩ j
  else if kind = 3 then (pairT L en false i).then fun p j => (toT L en (p.2.v - p.1.v) j).then fun t k => .ok ⟨p.1, p.2, t, [], []⟩ k
  else if kind = 5 then (pairT L en false i).then fun p j => (toT L en 0 j).then fun t k => .ok ⟨p.1, p.2, t, [], []⟩ k
  else if kind = 4 ∨ kind = 6 then (codeT L en i).then fun c j => (toT L en 0 j).then fun t k => .ok ⟨c.1, c.1, t, [], []⟩ k
  else if kind = 7 then bfT L en i
  else (codeT L en i).then fun c j => (unitT L en j).then fun u k => .ok ⟨c.1, c.1, 0, u.1, []⟩ k
/-- The words of sections. -/
def wordL (kind : Int) : List UInt8 :=
  if kind = 2 then [99, 111, 100, 101, 115, 112, 97, 99, 101, 114, 97, 110, 103, 101] else if kind = 3 then [99, 105, 100, 114, 97, 110, 103, 101] else if kind = 4 then [99, 105, 100, 99, 104, 97, 114]
  else if kind = 5 then [110, 111, 116, 100, 101, 102, 114, 97, 110, 103, 101] else if kind = 6 then [110, 111, 116, 100, 101, 102, 99, 104, 97, 114] else if kind = 7 then [98, 102, 114, 97, 110, 103, 101] else if kind = 8 then [98, 102, 99, 104, 97, 114] else []
def beginL (kind : Int) : List UInt8 := if kind < 2 ∨ 8 < kind then [] else [98, 101, 103, 105, 110] ++ wordL kind
def endL (kind : Int) : List UInt8 := [101, 110, 100] ++ wordL kind
/-- The kind of the section that a word begins, 0 if none. -/
def begunT (s : List UInt8) : Int := if s = beginL 2 then 2 else if s = beginL 3 then 3 else if s = beginL 4 then 4 else if s = beginL 5 then 5 else if s = beginL 6 then 6 else if s = beginL 7 then 7 else if s = beginL 8 then 8 else 0
/-- A section's entries, behind the word that begins it. -/
def secT (kind n : Int) (acc : List En) (i : Nat) : Rs (List En) :=
  if i < L.length ∧ (tg L i).kind = 3 ∧ (tg L i).s = endL kind then (if (acc.length : Int) = n then .ok acc (i + 1) else .no (tg L i).at_ 6)
  else match entT L en kind i with
    | .no a e => .no a e
    | .ok x j => if _h : i < j ∧ i < L.length then secT kind n (acc ++ [x]) j else .no 0 0
termination_by L.length - i
/-- The token so many ahead. -/
def backT (i n : Nat) : Tk := if n ≤ i ∧ i - n < L.length then tg L (i - n) else noT
/-- What a word that is not deep does. -/
def wordT (i : Nat) : Rs (List Im) :=
  if (tg L i).s = [100, 101, 102] ∧ (backT L i 2).kind = 2 ∧ ((backT L i 1).kind = 1 ∨ (backT L i 1).kind = 2 ∨ (backT L i 1).kind = 5) then .ok [⟨0, (tg L i).at_, (backT L i 2).s, backT L i 1, []⟩] (i + 1)
  else if (tg L i).s = [117, 115, 101, 99, 109, 97, 112] then (if (backT L i 1).kind = 2 then .ok [⟨1, (tg L i).at_, (backT L i 1).s, noT, []⟩] (i + 1) else .no (tg L i).at_ 3)
  else if begunT (tg L i).s = 0 then .ok [] (i + 1)
  else if (backT L i 1).kind = 1 then
    (if (backT L i 1).n < 0 ∨ 100 < (backT L i 1).n then .no (backT L i 1).at_ 6
     else (secT L en (begunT (tg L i).s) (backT L i 1).n [] (i + 1)).then fun x j => .ok [⟨begunT (tg L i).s, (tg L i).at_, [], noT, x⟩] j)
  else .no (tg L i).at_ 3
/-- All items, from a token on, with what is open (what was opened last is first). -/
def itemsT (op : List Int) (acc : List Im) (i : Nat) : Rs (List Im) :=
  if _h : i < L.length then
    if (tg L i).kind = 3 ∧ op = [] then
      match wordT L en i with
      | .no a e => .no a e
      | .ok x j => if _h2 : i < j then itemsT op (acc ++ x) j else .no 0 0
    else if (tg L i).kind = 6 ∨ (tg L i).kind = 8 ∨ (tg L i).kind = 10 then (if op.length = 32 then .no (tg L i).at_ 5 else itemsT (((tg L i).kind + 1) :: op) acc (i + 1))
    else if (tg L i).kind = 7 ∨ (tg L i).kind = 9 ∨ (tg L i).kind = 11 then (if op.head? = some (tg L i).kind then itemsT op.tail acc (i + 1) else .no (tg L i).at_ 3)
    else itemsT op acc (i + 1)
  else if op = [] then .ok acc i else .no en 2
termination_by L.length - i
/-- What Parse tells. -/
def parseT : Rs (List Im) := itemsT L en [] [] 0
end
end Go.Proofs.YthcnjiigkmljnaaGreatDoor
/-
  The document's own parser in memory: a block of five cells, and the tokens that it reads; what its methods leave alone.
-/
namespace Go.Proofs.YthcnjiigkmljnaaGreatDoor
open Go.RowKit

/-- All blocks but P stay as they were. -/
def Fr (w w' : World) (P : Nat) : Prop := w.grownBy w' (some P)
theorem Fr.refl (w : World) (P : Nat) : Fr w w P := World.grownBy.refl w _
theorem Fr.trans {a b c : World} {P : Nat} (h : Fr a b P) (k : Fr b c P) : Fr a c P := Lib.grownBy_trans h k
theorem Fr.set {a w : World} {P : Nat} (h : Fr a w P) (i : Nat) (v : Value) : Fr a (w.setCell ⟨P, i, none⟩ v) P := Lib.grownBy_setB h i v
theorem Fr.alloc {a w : World} {P : Nat} (h : Fr a w P) (o : Obj) : Fr a (w.alloc o) P := Lib.grownBy_allocR h o
theorem Fr.over {a w w' : World} {P : Nat} (h : Fr a w P) (hb : Below w.heap.size w w') : Fr a w' P := Lib.grownBy_below h hb
theorem Fr.size {w w' : World} {P : Nat} (h : Fr w w' P) : w.heap.size ≤ w'.heap.size := World.grownBy.size h
theorem Fr.cell {w w' : World} {P : Nat} (h : Fr w w' P) (a : Addr) (hlt : a.block < w.heap.size) (hne : a.block ≠ P) : w'.cell? a = w.cell? a := World.grownBy.cell_far h a hlt (by simpa using hne)
theorem Fr.below {w w' : World} {P B : Nat} (h : Fr w w' P) (hB : B ≤ w.heap.size) (hP : B ≤ P) : Below B w w' :=
  (Below.refl B w).grown h hB (fun k hk => by cases hk; exact hP)

/-- The parser's block: the tokens, which one is next, where the text ends, where an error is, and which. -/
structure Ps (w : World) (P : Nat) (A : Option Addr) (c : Nat) (L : List Tk) (i : Nat) (en a e : Int) : Prop where
  c0 : w.cell? ⟨P, 0, none⟩ = some (.slice A L.length c)
  c1 : w.cell? ⟨P, 1, none⟩ = some (.int .i64 (i : Int))
  c2 : w.cell? ⟨P, 2, none⟩ = some (.int .i64 en)
  c3 : w.cell? ⟨P, 3, none⟩ = some (.int .i64 a)
  c4 : w.cell? ⟨P, 4, none⟩ = some (.int .i64 e)
  z1 : w.frozen? ⟨P, 1, none⟩ = false
  z3 : w.frozen? ⟨P, 3, none⟩ = false
  z4 : w.frozen? ⟨P, 4, none⟩ = false
  lt : P < w.heap.size
  tl : St w P A L
section
variable {w w' : World} {P : Nat} {A : Option Addr} {c : Nat} {L : List Tk} {i : Nat} {en a e : Int}
theorem Ps.over (h : Ps w P A c L i en a e) (hb : Below w.heap.size w w') : Ps w' P A c L i en a e := by
  have hl := h.lt
  exact ⟨(hb.cell (p := ⟨P, 0, none⟩) hl).trans h.c0, (hb.cell (p := ⟨P, 1, none⟩) hl).trans h.c1, (hb.cell (p := ⟨P, 2, none⟩) hl).trans h.c2, (hb.cell (p := ⟨P, 3, none⟩) hl).trans h.c3, (hb.cell (p := ⟨P, 4, none⟩) hl).trans h.c4, (hb.frozen (p := ⟨P, 1, none⟩) hl).trans h.z1, (hb.frozen (p := ⟨P, 3, none⟩) hl).trans h.z3, (hb.frozen (p := ⟨P, 4, none⟩) hl).trans h.z4, Nat.lt_of_lt_of_le hl hb.size, h.tl.below (((Fr.refl w P).over hb).below (Nat.le_of_lt h.lt) (Nat.le_refl _))⟩
theorem Ps.alloc (h : Ps w P A c L i en a e) (o : Obj) : Ps (w.alloc o) P A c L i en a e := h.over ((Below.refl _ _).alloc (Nat.le_refl _) _)
theorem ne_off {P i j : Nat} (h : i ≠ j) : (⟨P, i, none⟩ : Addr) ≠ ⟨P, j, none⟩ := by intro e; injection e with _ h2 _; exact h h2
theorem set_other {w : World} {P i j : Nat} {v : Value} (h : i ≠ j) : (w.setCell ⟨P, i, none⟩ v).cell? ⟨P, j, none⟩ = w.cell? ⟨P, j, none⟩ := World.cell?_setCell_other _ _ _ _ (ne_off h)
theorem set_same {w : World} {P i : Nat} {u v : Value} (h : w.cell? ⟨P, i, none⟩ = some u) : (w.setCell ⟨P, i, none⟩ v).cell? ⟨P, i, none⟩ = some v := World.cell?_setCell_same _ _ _ h
theorem Ps.fail (h : Ps w P A c L i en a e) (a' e' : Int) : Ps ((w.setCell ⟨P, 3, none⟩ (.int .i64 a')).setCell ⟨P, 4, none⟩ (.int .i64 e')) P A c L i en a' e' := by
  have hf : Fr w ((w.setCell ⟨P, 3, none⟩ (.int .i64 a')).setCell ⟨P, 4, none⟩ (.int .i64 e')) P := ((Fr.refl w P).set 3 _).set 4 _
  refine ⟨?_, ?_, ?_, ?_, ?_, by simp [h.z1], by simp [h.z3], by simp [h.z4], Nat.lt_of_lt_of_le h.lt hf.size, h.tl.below (hf.below (Nat.le_of_lt h.lt) (Nat.le_refl _))⟩
  · rw [set_other (by decide), set_other (by decide)]; exact h.c0
  · rw [set_other (by decide), set_other (by decide)]; exact h.c1
  · rw [set_other (by decide), set_other (by decide)]; exact h.c2
  · rw [set_other (by decide)]; exact set_same h.c3
  · exact set_same (by rw [set_other (by decide)]; exact h.c4)
theorem Ps.next (h : Ps w P A c L i en a e) (i' : Nat) : Ps (w.setCell ⟨P, 1, none⟩ (.int .i64 (i' : Int))) P A c L i' en a e := by
  have hf : Fr w (w.setCell ⟨P, 1, none⟩ (.int .i64 (i' : Int))) P := (Fr.refl w P).set 1 _
  refine ⟨?_, set_same h.c1, ?_, ?_, ?_, by simp [h.z1], by simp [h.z3], by simp [h.z4], Nat.lt_of_lt_of_le h.lt hf.size, h.tl.below (hf.below (Nat.le_of_lt h.lt) (Nat.le_refl _))⟩
  · rw [set_other (by decide)]; exact h.c0
  · rw [set_other (by decide)]; exact h.c2
  · rw [set_other (by decide)]; exact h.c3
  · rw [set_other (by decide)]; exact h.c4
theorem Ps.drewN (h : Ps w P A c L i en a e) (n : Nat) : Ps (w.drewN n) P A c L i en a e := h.over (below_drewN (Below.refl _ _) n)
theorem Ps.drew (h : Ps w P A c L i en a e) : Ps w.drew P A c L i en a e := h.over (Below.refl _ _).drew
/-- A store into a later block. -/
theorem Ps.far (h : Ps w P A c L i en a e) {S : Nat} (hS : P < S) (k : Nat) (v : Value) : Ps (w.setCell ⟨S, k, none⟩ v) P A c L i en a e := by
  have hb : Below (P + 1) w (w.setCell ⟨S, k, none⟩ v) := (Below.refl _ w).setCell (p := ⟨S, k, none⟩) hS v
  have g : ∀ j, (w.setCell ⟨S, k, none⟩ v).cell? ⟨P, j, none⟩ = w.cell? ⟨P, j, none⟩ := fun j => hb.cell (p := ⟨P, j, none⟩) (Nat.lt_succ_self P)
  exact ⟨(g 0).trans h.c0, (g 1).trans h.c1, (g 2).trans h.c2, (g 3).trans h.c3, (g 4).trans h.c4, by simp [h.z1], by simp [h.z3], by simp [h.z4], Nat.lt_of_lt_of_le h.lt hb.size, h.tl.below (hb.mono (Nat.le_succ P))⟩
theorem Ps.far4 (h : Ps w P A c L i en a e) {S : Nat} (hS : P < S) (x y z v : Value) : Ps ((((w.setCell ⟨S, 0, none⟩ x).setCell ⟨S, 1, none⟩ y).setCell ⟨S, 2, none⟩ z).setCell ⟨S, 3, none⟩ v) P A c L i en a e := (((h.far hS 0 x).far hS 1 y).far hS 2 z).far hS 3 v
end
/-- Stores into a block that is newer than all that stays. -/
theorem Fr.far {a w : World} {P : Nat} (h : Fr a w P) {S : Nat} (hS : a.heap.size ≤ S) (k : Nat) (v : Value) : Fr a (w.setCell ⟨S, k, none⟩ v) P :=
  ⟨h.os, h.tape, h.output, by have := h.size; simpa using this, fun j hj hr => by
    have hb : Below S w (w.setCell ⟨S, k, none⟩ v) := (Below.refl _ w).setCell (p := ⟨S, k, none⟩) (Nat.le_refl _) v
    exact (hb.block j (by omega)).trans (h.block j hj hr)⟩
theorem Fr.far4 {a w : World} {P : Nat} (h : Fr a w P) {S : Nat} (hS : a.heap.size ≤ S) (x y z v : Value) : Fr a ((((w.setCell ⟨S, 0, none⟩ x).setCell ⟨S, 1, none⟩ y).setCell ⟨S, 2, none⟩ z).setCell ⟨S, 3, none⟩ v) P := (((h.far hS 0 x).far hS 1 y).far hS 2 z).far hS 3 v
theorem Fr.drewN {a w : World} {P : Nat} (h : Fr a w P) (n : Nat) : Fr a (w.drewN n) P := h.over (below_drewN (Below.refl _ _) n)
theorem Fr.drew {a w : World} {P : Nat} (h : Fr a w P) : Fr a w.drew P := h.over (Below.refl _ _).drew
/-- The result's block, over a method of the parser. -/
theorem res_fr {w w2 : World} {P : Nat} (h : Fr (w.alloc (.cells #[.int .i64 0, .int .i64 0, .int .i64 0, .string ⟨#[]⟩] 42)) w2 P) (hP : P < w.heap.size) :
    (w2.cell? ⟨w.heap.size, 0, none⟩ = some (.int .i64 0) ∧ w2.cell? ⟨w.heap.size, 1, none⟩ = some (.int .i64 0) ∧ w2.cell? ⟨w.heap.size, 2, none⟩ = some (.int .i64 0) ∧ w2.cell? ⟨w.heap.size, 3, none⟩ = some (.string ⟨#[]⟩)) ∧
    (w2.frozen? ⟨w.heap.size, 0, none⟩ = false ∧ w2.frozen? ⟨w.heap.size, 1, none⟩ = false ∧ w2.frozen? ⟨w.heap.size, 2, none⟩ = false ∧ w2.frozen? ⟨w.heap.size, 3, none⟩ = false) ∧ w.heap.size < w2.heap.size ∧ Fr w w2 P := by
  have hs := h.size
  simp at hs
  have hne : w.heap.size ≠ P := by omega
  have hl : w.heap.size < (w.alloc (.cells #[.int .i64 0, .int .i64 0, .int .i64 0, .string ⟨#[]⟩] 42)).heap.size := by simp
  have g : ∀ j, w2.cell? ⟨w.heap.size, j, none⟩ = (w.alloc (.cells #[.int .i64 0, .int .i64 0, .int .i64 0, .string ⟨#[]⟩] 42)).cell? ⟨w.heap.size, j, none⟩ := fun j => h.cell ⟨w.heap.size, j, none⟩ hl hne
  have f : ∀ j, w2.frozen? ⟨w.heap.size, j, none⟩ = (w.alloc (.cells #[.int .i64 0, .int .i64 0, .int .i64 0, .string ⟨#[]⟩] 42)).frozen? ⟨w.heap.size, j, none⟩ := fun j => World.grownBy.frozen_far h ⟨w.heap.size, j, none⟩ hl (by simpa using hne)
  exact ⟨⟨(g 0).trans (by simp), (g 1).trans (by simp), (g 2).trans (by simp), (g 3).trans (by simp)⟩, ⟨(f 0).trans (by simp), (f 1).trans (by simp), (f 2).trans (by simp), (f 3).trans (by simp)⟩, by omega, ((Fr.refl w P).alloc _).trans h⟩
end Go.Proofs.YthcnjiigkmljnaaGreatDoor
/-
  Rows in memory whose cells lead to other rows: units, lists of units, entries, items; and which blocks they avoid.
-/
namespace Go.Proofs.YthcnjiigkmljnaaGreatDoor
open Go.RowKit

/-- Blocks that are none of X stay. -/
structure Kp (w w' : World) (X : Nat → Prop) : Prop where
  size : w.heap.size ≤ w'.heap.size
  block : ∀ b, b < w.heap.size → ¬ X b → w'.heap[b]? = w.heap[b]?
section
variable {w w' w'' : World} {X X' Y : Nat → Prop}
theorem Kp.cell (h : Kp w w' X) {b o : Nat} (hb : b < w.heap.size) (hx : ¬ X b) : w'.cell? ⟨b, o, none⟩ = w.cell? ⟨b, o, none⟩ := World.cell?_of_block (a := ⟨b, o, none⟩) (h.block b hb hx)
theorem Kp.of_fr {P : Nat} (h : Fr w w' P) (hX : P < w.heap.size → X P) : Kp w w' X := ⟨h.size, fun b hb hx => World.grownBy.block h b hb (by intro e; cases e; exact hx (hX hb))⟩
theorem Kp.of_below (h : Below w.heap.size w w') : Kp w w' X := ⟨h.size, fun b hb _ => h.block b hb⟩
theorem Kp.of_grown {row : Option Nat} (h : w.grownBy w' row) (hX : ∀ b, row = some b → X b) : Kp w w' X := ⟨h.size, fun b hb hx => h.block b hb (fun e => hx (hX b e.symm))⟩
theorem Kp.mono (h : Kp w w' X) (hx : ∀ b, b < w.heap.size → X b → Y b) : Kp w w' Y := ⟨h.size, fun b hb hn => h.block b hb (fun hX => hn (hx b hb hX))⟩
theorem Kp.trans (h : Kp w w' X) (k : Kp w' w'' X) : Kp w w'' X := ⟨Nat.le_trans h.size k.size, fun b hb hn => (k.block b (Nat.lt_of_lt_of_le hb h.size) hn).trans (h.block b hb hn)⟩
theorem Kp.refl (w : World) (X : Nat → Prop) : Kp w w X := ⟨Nat.le_refl _, fun _ _ _ => rfl⟩
end

/-- A slice holds rows of k cells each: those that q tells; its block is none of X. -/
def Rw {α : Type} (w : World) (X : Nat → Prop) (k : Nat) (q : α → List Value) (v : Value) (l : List α) : Prop :=
  ∃ A c, v = .slice A l.length c ∧ (l.length ≤ c ∧ (A = none → c = 0)) ∧ (0 < l.length → ∃ b o, A = some ⟨b, o, none⟩ ∧ b < w.heap.size ∧ ¬ X b ∧ ∀ j x, l[j]? = some x → ∀ i u, (q x)[i]? = some u → w.cell? ⟨b, o + j * k + i, none⟩ = some u)
section
variable {α : Type} {w w' : World} {X X' : Nat → Prop} {k : Nat} {q : α → List Value} {v : Value} {l : List α}
theorem Rw.to (h : Rw w X k q v l) (hk : Kp w w' X) (hx : ∀ b, b < w.heap.size → X' b → X b) : Rw w' X' k q v l := by
  obtain ⟨A, c, e, hc, hh⟩ := h
  refine ⟨A, c, e, hc, fun hn => ?_⟩
  obtain ⟨b, o, e2, hb, hne, hcl⟩ := hh hn
  exact ⟨b, o, e2, Nat.lt_of_lt_of_le hb hk.size, fun h => hne (hx b hb h), fun j x hj i u hu => (hk.cell hb hne).trans (hcl j x hj i u hu)⟩
theorem Rw.nil : Rw w X k q (.slice none 0 0) ([] : List α) := ⟨none, 0, rfl, ⟨Nat.le_refl _, fun _ => rfl⟩, fun h => absurd h (by simp)⟩
theorem flat_get (hq : ∀ x, (q x).length = k) : ∀ (l : List α) (j i : Nat) (x : α), l[j]? = some x → i < k → (l.flatMap q)[j * k + i]? = (q x)[i]?
  | [], j, i, x, h, _ => by simp at h
  | y :: l, 0, i, x, h, hi => by
    simp at h
    subst h
    rw [List.flatMap_cons, Nat.zero_mul, Nat.zero_add, List.getElem?_append_left (by rw [hq]; exact hi)]
  | y :: l, j + 1, i, x, h, hi => by
    have e : (j + 1) * k = j * k + k := Nat.succ_mul j k
    rw [List.flatMap_cons, List.getElem?_append_right (by rw [hq]; omega), hq, ← flat_get hq l j i x (by simpa using h) hi]
    congr 1
    omega
theorem flat_len (hq : ∀ x, (q x).length = k) : ∀ l : List α, (l.flatMap q).length = l.length * k
  | [] => by simp
  | y :: l => by
    have e : (l.length + 1) * k = l.length * k + k := Nat.succ_mul _ k
    rw [List.flatMap_cons, List.length_append, hq, flat_len hq l, List.length_cons]
    omega
theorem Rw.of_own {base n : Nat} {e : TypeId} (hq : ∀ x, (q x).length = k) (hk : 0 < k) (h : w.ownsRow base e k v n (l.flatMap q)) (hX : ∀ b, v.ownBlock = some b → b < w.heap.size → ¬ X b) : n = l.length ∧ Rw w X k q v l := by
  have hl : n = l.length := by have := h.1; rw [flat_len hq] at this; exact (Nat.eq_of_mul_eq_mul_right hk this).symm
  refine ⟨hl, ?_⟩
  subst hl
  rcases h.2 with ⟨rfl, h0⟩ | ⟨g, cap, cur, rfl, hb, hg, hc, hm, hs, ht⟩
  · exact ⟨none, 0, by rw [h0], ⟨by omega, fun _ => rfl⟩, fun hn => absurd hn (by omega)⟩
  · have hlt := (Array.getElem?_eq_some_iff.1 hg).1
    refine ⟨some ⟨g, 0, none⟩, cap, rfl, ⟨hc, fun e => by cases e⟩, fun _ => ⟨g, 0, rfl, hlt, hX g rfl hlt, fun j x hj i u hu => ?_⟩⟩
    have hi : i < k := by
      rcases Nat.lt_or_ge i k with h | h
      · exact h
      · rw [List.getElem?_eq_none (by rw [hq]; exact h)] at hu; cases hu
    have := h.cells (g := g) rfl (j * k + i) u ((flat_get hq l j i x hj hi).trans hu)
    rwa [addr_add, ← Nat.add_assoc] at this
theorem flat_snoc (l : List α) (x : α) : (l ++ [x]).flatMap q = l.flatMap q ++ q x := by simp
end

/-- Units: ints, one cell each. -/
def uq (n : Int) : List Value := [.int .i64 n]
def Ux (w : World) (X : Nat → Prop) (v : Value) (u : List Int) : Prop := Rw w X 1 uq v u
/-- A list of units: slices, one cell each. -/
def lq (p : List Int × Value) : List Value := [p.2]
def Lx (w : World) (X : Nat → Prop) (v : Value) (ll : List (List Int)) : Prop := ∃ d : List (List Int × Value), ll = d.map (·.1) ∧ Rw w X 1 lq v d ∧ ∀ p ∈ d, Ux w X p.2 p.1
/-- Entries, seven cells each. -/
def dq (p : En × Value × Value) : List Value := [.int .i64 p.1.lo.n, .int .i64 p.1.lo.v, .int .i64 p.1.hi.n, .int .i64 p.1.hi.v, .int .i64 p.1.to, p.2.1, p.2.2]
def Eo (w : World) (X : Nat → Prop) (p : En × Value × Value) : Prop := Ux w X p.2.1 p.1.u ∧ Lx w X p.2.2 p.1.ll
def Ex (w : World) (X : Nat → Prop) (v : Value) (es : List En) : Prop := ∃ d : List (En × Value × Value), es = d.map (·.1) ∧ Rw w X 7 dq v d ∧ ∀ p ∈ d, Eo w X p
/-- Items, eight cells each. -/
def iq (p : Im × Value) : List Value := [.int .i64 p.1.kind, .int .i64 p.1.at_, .string (str p.1.name), .int .i64 p.1.val.kind, .int .i64 p.1.val.at_, .int .i64 p.1.val.n, .string (str p.1.val.s), p.2]
def Ix (w : World) (X : Nat → Prop) (v : Value) (is : List Im) : Prop := ∃ d : List (Im × Value), is = d.map (·.1) ∧ Rw w X 8 iq v d ∧ ∀ p ∈ d, Ex w X p.2 p.1.ents
theorem uq_len (n : Int) : (uq n).length = 1 := rfl
theorem lq_len (p : List Int × Value) : (lq p).length = 1 := rfl
theorem dq_len (p : En × Value × Value) : (dq p).length = 7 := rfl
theorem iq_len (p : Im × Value) : (iq p).length = 8 := rfl
section
variable {w w' : World} {X X' : Nat → Prop} {v : Value}
theorem Ux.to {u : List Int} (h : Ux w X v u) (hk : Kp w w' X) (hx : ∀ b, b < w.heap.size → X' b → X b) : Ux w' X' v u := Rw.to h hk hx
theorem Lx.to {ll : List (List Int)} (h : Lx w X v ll) (hk : Kp w w' X) (hx : ∀ b, b < w.heap.size → X' b → X b) : Lx w' X' v ll := by
  obtain ⟨d, e, hr, hd⟩ := h
  exact ⟨d, e, hr.to hk hx, fun p hp => (hd p hp).to hk hx⟩
theorem Eo.to {p : En × Value × Value} (h : Eo w X p) (hk : Kp w w' X) (hx : ∀ b, b < w.heap.size → X' b → X b) : Eo w' X' p := ⟨h.1.to hk hx, h.2.to hk hx⟩
theorem Ex.to {es : List En} (h : Ex w X v es) (hk : Kp w w' X) (hx : ∀ b, b < w.heap.size → X' b → X b) : Ex w' X' v es := by
  obtain ⟨d, e, hr, hd⟩ := h
  exact ⟨d, e, hr.to hk hx, fun p hp => (hd p hp).to hk hx⟩
theorem Ix.to {is : List Im} (h : Ix w X v is) (hk : Kp w w' X) (hx : ∀ b, b < w.heap.size → X' b → X b) : Ix w' X' v is := by
  obtain ⟨d, e, hr, hd⟩ := h
  exact ⟨d, e, hr.to hk hx, fun p hp => (hd p hp).to hk hx⟩
theorem Ux.nil : Ux w X (.slice none 0 0) [] := Rw.nil
theorem Lx.nil : Lx w X (.slice none 0 0) [] := ⟨[], rfl, Rw.nil, fun _ h => by cases h⟩
theorem Ex.nil : Ex w X (.slice none 0 0) [] := ⟨[], rfl, Rw.nil, fun _ h => by cases h⟩
theorem Ix.nil : Ix w X (.slice none 0 0) [] := ⟨[], rfl, Rw.nil, fun _ h => by cases h⟩
/-- Units as a slice of ints. -/
theorem Ux.si {u : List Int} (h : Ux w X v u) : ∃ A c, v = .slice A u.length c ∧ (u.length ≤ c ∧ (A = none → c = 0)) ∧ Si w w.heap.size A u := by
  obtain ⟨A, c, e, hc, hh⟩ := h
  refine ⟨A, c, e, hc, fun hn => ?_⟩
  obtain ⟨b, o, e2, hb, _, hcl⟩ := hh hn
  refine ⟨b, o, e2, hb, fun j hj => ?_⟩
  have := hcl j (u[j]?.getD 0) (by rw [List.getElem?_eq_getElem hj]; rfl) 0 (.int .i64 (u[j]?.getD 0)) rfl
  simpa using this
theorem Ux.of_si {u : List Int} {A : Option Addr} {c : Nat} (h : Si w w.heap.size A u) (hc : u.length ≤ c ∧ (A = none → c = 0)) (hX : ∀ b o, A = some ⟨b, o, none⟩ → b < w.heap.size → ¬ X b) : Ux w X (.slice A u.length c) u := by
  refine ⟨A, c, rfl, hc, fun hn => ?_⟩
  obtain ⟨b, o, e, hb, hcl⟩ := h hn
  refine ⟨b, o, e, hb, hX b o e hb, fun j x hj i y hy => ?_⟩
  have hj2 : j < u.length := (List.getElem?_eq_some_iff.1 hj).1
  cases i with
  | zero =>
    have := hcl j hj2
    rw [hj] at this
    simp only [uq, List.getElem?_cons_zero, Option.some.injEq] at hy
    subst hy
    simpa using this
  | succ i => simp [uq] at hy
end
theorem ivs_flat (u : List Int) : ivs u = u.flatMap uq := by
  induction u with
  | nil => rfl
  | cons a u ih => rw [List.flatMap_cons, ← ih]; rfl
end Go.Proofs.YthcnjiigkmljnaaGreatDoor
/-
  A string as a slice of its bytes: new memory, which may be written.
-/
namespace Go.Proofs.YthcnjiigkmljnaaGreatDoor
open Go.RowKit

theorem run_bytes {P : Program} (w : World) (src dst e : TypeId) (l : List UInt8) (hs : P.underlying src = some .string) (hd : P.underlying dst = some (.slice e)) (he : P.underlying e = some (.int .u8)) :
    ∃ cap w', (convert src dst (.string (str l))).run P w = .ok (.slice (some ⟨w.heap.size, 0, none⟩) l.length cap) w' ∧
      (∀ j, j < l.length → w'.cell? ⟨w.heap.size, j, none⟩ = some (.int .u8 ((l[j]?.getD 0).toNat : Int))) ∧ (∀ j, j < l.length → w'.frozen? ⟨w.heap.size, j, none⟩ = false) ∧ Below w.heap.size w w' ∧ w.heap.size < w'.heap.size ∧ l.length ≤ cap := by
  have h := run_bytes_of_string (P := P) w src dst e (str l) hs hd he
  rw [str_size] at h
  have hge := grownCap_ge w l.length 0 e
  generalize grownCap w l.length 0 e = cap at h hge
  obtain ⟨C, hC⟩ : ∃ C, C = bytesRow (str l) cap := ⟨_, rfl⟩
  have hsz : C.size = cap := by rw [hC]; simp [bytesRow, str, ByteArray.size]; omega
  rw [← hC] at h
  have hb : (w.drew.alloc (.cells C e (C.size, C.size + 1))).heap[w.heap.size]? = some (.cells C e (C.size, C.size + 1)) := heap_alloc_new w.drew _
  refine ⟨cap, _, h, fun j hj => ?_, fun j hj => ?_, (Below.refl _ _).drew.alloc (Nat.le_refl _) _, by simp, hge⟩
  · rw [cell_of_row _ _ j C e _ hb, hC]
    have hj' : j < ((str l).data.map fun b => Value.int .u8 (b.toNat : Int)).size := by simpa [str] using hj
    unfold bytesRow
    rw [Array.getElem?_append_left hj']
    simp [str, hj]
  · simp only [World.frozen?, hb]
    simp
    omega
/-- The same, with the block itself: its mark parts it from every row that a call owns. -/
theorem run_bytes_row {P : Program} (w : World) (src dst e : TypeId) (l : List UInt8) (hs : P.underlying src = some .string) (hd : P.underlying dst = some (.slice e)) (he : P.underlying e = some (.int .u8)) :
    ∃ cap C w', (convert src dst (.string (str l))).run P w = .ok (.slice (some ⟨w.heap.size, 0, none⟩) l.length cap) w' ∧ w'.heap[w.heap.size]? = some (.cells C e (C.size, C.size + 1)) ∧
      (∀ j, j < l.length → C[j]? = some (.int .u8 ((l[j]?.getD 0).toNat : Int))) ∧ Below w.heap.size w w' ∧ w.heap.size < w'.heap.size ∧ l.length ≤ cap := by
  have h := run_bytes_of_string (P := P) w src dst e (str l) hs hd he
  rw [str_size] at h
  have hge := grownCap_ge w l.length 0 e
  generalize grownCap w l.length 0 e = cap at h hge
  obtain ⟨C, hC⟩ : ∃ C, C = bytesRow (str l) cap := ⟨_, rfl⟩
  rw [← hC] at h
  have hb : (w.drew.alloc (.cells C e (C.size, C.size + 1))).heap[w.heap.size]? = some (.cells C e (C.size, C.size + 1)) := heap_alloc_new w.drew _
  refine ⟨cap, C, _, h, hb, fun j hj => ?_, (Below.refl _ _).drew.alloc (Nat.le_refl _) _, by simp, hge⟩
  rw [hC]
  have hj' : j < ((str l).data.map fun b => Value.int .u8 (b.toNat : Int)).size := by simpa [str] using hj
  unfold bytesRow
  rw [Array.getElem?_append_left hj']
  simp [str, hj]
theorem own_ne_row {w : World} {B e size n S m : Nat} {e' : TypeId} {v : Value} {xs : List Value} {C : Array Value} (h : w.ownsRow B e size v n xs) (hk : w.heap[S]? = some (.cells C e' (m, m + 1))) : some S ≠ v.ownBlock := by
  rcases h.2 with ⟨rfl, _⟩ | ⟨g, cap, cur, rfl, _, hg, _⟩
  · simp [Value.ownBlock]
  · intro e
    simp [Value.ownBlock] at e
    subst e
    rw [hk] at hg
    injection hg with hg
    injection hg with _ _ hf
    injection hf with h1 h2
    omega
/-- A byte in a block of its own. -/
theorem Sl.one (w : World) (x : UInt8) (t : TypeId) : Sl (w.alloc (.cells #[.int .u8 (x.toNat : Int)] t)) (w.alloc (.cells #[.int .u8 (x.toNat : Int)] t)).heap.size (some ⟨w.heap.size, 0, none⟩) [x] := fun _ => by
  refine ⟨w.heap.size, 0, rfl, by simp, fun j hj => ?_⟩
  have hj0 : j = 0 := by simpa using hj
  subst hj0
  rw [cell_of_row _ _ (0 + 0) _ t _ (heap_alloc_new w _)]
  rfl
end Go.Proofs.YthcnjiigkmljnaaGreatDoor
/-
  The program's parser in memory: a block of seven cells, and the tokens that it reads; what its methods leave alone.
-/
namespace Go.Proofs.YthcnjiigkmljnaaGreatDoor
open Go.RowKit

/-- The parser's block: the tokens, where they end, which one is next, what closes, the items, where an error is, and which. -/
structure Qs (w : World) (P : Nat) (A : Option Addr) (c : Nat) (L : List Tk) (i : Nat) (en : Int) (vc vi : Value) (a e : Int) : Prop where
  c0 : w.cell? ⟨P, 0, none⟩ = some (.slice A L.length c)
  c1 : w.cell? ⟨P, 1, none⟩ = some (.int .i64 en)
  c2 : w.cell? ⟨P, 2, none⟩ = some (.int .i64 (i : Int))
  c3 : w.cell? ⟨P, 3, none⟩ = some vc
  c4 : w.cell? ⟨P, 4, none⟩ = some vi
  c5 : w.cell? ⟨P, 5, none⟩ = some (.int .i64 a)
  c6 : w.cell? ⟨P, 6, none⟩ = some (.int .i64 e)
  z2 : w.frozen? ⟨P, 2, none⟩ = false
  z3 : w.frozen? ⟨P, 3, none⟩ = false
  z4 : w.frozen? ⟨P, 4, none⟩ = false
  z5 : w.frozen? ⟨P, 5, none⟩ = false
  z6 : w.frozen? ⟨P, 6, none⟩ = false
  lt : P < w.heap.size
  tl : St w P A L
section
variable {w w' : World} {P : Nat} {A : Option Addr} {c : Nat} {L : List Tk} {i : Nat} {en a e : Int} {vc vi : Value}
/-- Over what leaves all blocks up to the parser's. -/
theorem Qs.bel (h : Qs w P A c L i en vc vi a e) {S : Nat} (hS : P < S) (hb : Below S w w') : Qs w' P A c L i en vc vi a e :=
  ⟨(hb.cell (p := ⟨P, 0, none⟩) hS).trans h.c0, (hb.cell (p := ⟨P, 1, none⟩) hS).trans h.c1, (hb.cell (p := ⟨P, 2, none⟩) hS).trans h.c2, (hb.cell (p := ⟨P, 3, none⟩) hS).trans h.c3, (hb.cell (p := ⟨P, 4, none⟩) hS).trans h.c4, (hb.cell (p := ⟨P, 5, none⟩) hS).trans h.c5, (hb.cell (p := ⟨P, 6, none⟩) hS).trans h.c6,
    (hb.frozen (p := ⟨P, 2, none⟩) hS).trans h.z2, (hb.frozen (p := ⟨P, 3, none⟩) hS).trans h.z3, (hb.frozen (p := ⟨P, 4, none⟩) hS).trans h.z4, (hb.frozen (p := ⟨P, 5, none⟩) hS).trans h.z5, (hb.frozen (p := ⟨P, 6, none⟩) hS).trans h.z6, Nat.lt_of_lt_of_le h.lt hb.size, h.tl.below (hb.mono (Nat.le_of_lt hS))⟩
theorem Qs.over (h : Qs w P A c L i en vc vi a e) (hb : Below w.heap.size w w') : Qs w' P A c L i en vc vi a e := h.bel h.lt hb
theorem Qs.alloc (h : Qs w P A c L i en vc vi a e) (o : Obj) : Qs (w.alloc o) P A c L i en vc vi a e := h.over ((Below.refl _ _).alloc (Nat.le_refl _) _)
theorem Qs.drewN (h : Qs w P A c L i en vc vi a e) (n : Nat) : Qs (w.drewN n) P A c L i en vc vi a e := h.over (below_drewN (Below.refl _ _) n)
theorem Qs.drew (h : Qs w P A c L i en vc vi a e) : Qs w.drew P A c L i en vc vi a e := h.over (Below.refl _ _).drew
theorem Qs.far (h : Qs w P A c L i en vc vi a e) {S : Nat} (hS : P < S) (k : Nat) (v : Value) : Qs (w.setCell ⟨S, k, none⟩ v) P A c L i en vc vi a e := h.bel hS ((Below.refl _ w).setCell (p := ⟨S, k, none⟩) (Nat.le_refl _) v)
theorem Qs.fail (h : Qs w P A c L i en vc vi a e) (a' e' : Int) : Qs ((w.setCell ⟨P, 5, none⟩ (.int .i64 a')).setCell ⟨P, 6, none⟩ (.int .i64 e')) P A c L i en vc vi a' e' := by
  have hf : Fr w ((w.setCell ⟨P, 5, none⟩ (.int .i64 a')).setCell ⟨P, 6, none⟩ (.int .i64 e')) P := ((Fr.refl w P).set 5 _).set 6 _
  refine ⟨?_, ?_, ?_, ?_, ?_, ?_, ?_, by simp [h.z2], by simp [h.z3], by simp [h.z4], by simp [h.z5], by simp [h.z6], Nat.lt_of_lt_of_le h.lt hf.size, h.tl.below (hf.below (Nat.le_of_lt h.lt) (Nat.le_refl _))⟩
  · rw [set_other (by decide), set_other (by decide)]; exact h.c0
  · rw [set_other (by decide), set_other (by decide)]; exact h.c1
  · rw [set_other (by decide), set_other (by decide)]; exact h.c2
  · rw [set_other (by decide), set_other (by decide)]; exact h.c3
  · rw [set_other (by decide), set_other (by decide)]; exact h.c4
  · rw [set_other (by decide)]; exact set_same h.c5
  · exact set_same (by rw [set_other (by decide)]; exact h.c6)
theorem Qs.next (h : Qs w P A c L i en vc vi a e) (i' : Nat) : Qs (w.setCell ⟨P, 2, none⟩ (.int .i64 (i' : Int))) P A c L i' en vc vi a e := by
  have hf : Fr w (w.setCell ⟨P, 2, none⟩ (.int .i64 (i' : Int))) P := (Fr.refl w P).set 2 _
  refine ⟨?_, ?_, set_same h.c2, ?_, ?_, ?_, ?_, by simp [h.z2], by simp [h.z3], by simp [h.z4], by simp [h.z5], by simp [h.z6], Nat.lt_of_lt_of_le h.lt hf.size, h.tl.below (hf.below (Nat.le_of_lt h.lt) (Nat.le_refl _))⟩
  · rw [set_other (by decide)]; exact h.c0
  · rw [set_other (by decide)]; exact h.c1
  · rw [set_other (by decide)]; exact h.c3
  · rw [set_other (by decide)]; exact h.c4
  · rw [set_other (by decide)]; exact h.c5
  · rw [set_other (by decide)]; exact h.c6
theorem Qs.setC (h : Qs w P A c L i en vc vi a e) (v : Value) : Qs (w.setCell ⟨P, 3, none⟩ v) P A c L i en v vi a e := by
  have hf : Fr w (w.setCell ⟨P, 3, none⟩ v) P := (Fr.refl w P).set 3 _
  refine ⟨?_, ?_, ?_, set_same h.c3, ?_, ?_, ?_, by simp [h.z2], by simp [h.z3], by simp [h.z4], by simp [h.z5], by simp [h.z6], Nat.lt_of_lt_of_le h.lt hf.size, h.tl.below (hf.below (Nat.le_of_lt h.lt) (Nat.le_refl _))⟩
  · rw [set_other (by decide)]; exact h.c0
  · rw [set_other (by decide)]; exact h.c1
  · rw [set_other (by decide)]; exact h.c2
  · rw [set_other (by decide)]; exact h.c4
  · rw [set_other (by decide)]; exact h.c5
  · rw [set_other (by decide)]; exact h.c6
theorem Qs.setI (h : Qs w P A c L i en vc vi a e) (v : Value) : Qs (w.setCell ⟨P, 4, none⟩ v) P A c L i en vc v a e := by
  have hf : Fr w (w.setCell ⟨P, 4, none⟩ v) P := (Fr.refl w P).set 4 _
  refine ⟨?_, ?_, ?_, ?_, set_same h.c4, ?_, ?_, by simp [h.z2], by simp [h.z3], by simp [h.z4], by simp [h.z5], by simp [h.z6], Nat.lt_of_lt_of_le h.lt hf.size, h.tl.below (hf.below (Nat.le_of_lt h.lt) (Nat.le_refl _))⟩
  · rw [set_other (by decide)]; exact h.c0
  · rw [set_other (by decide)]; exact h.c1
  · rw [set_other (by decide)]; exact h.c2
  · rw [set_other (by decide)]; exact h.c3
  · rw [set_other (by decide)]; exact h.c5
  · rw [set_other (by decide)]; exact h.c6
/-- Over another block's growth: the parser's block stays, and so do all below it. -/
theorem Qs.grown {row : Option Nat} (h : Qs w P A c L i en vc vi a e) (hg : w.grownBy w' row) (hr : ∀ b, row = some b → P < b) : Qs w' P A c L i en vc vi a e :=
  h.bel (Nat.lt_succ_self P) ((Below.refl (P + 1) w).grown hg h.lt (fun k hk => hr k hk))
end
/-- What stays below a later block stays. -/
theorem Fr.bel {a w w' : World} {P S : Nat} (h : Fr a w P) (hS : a.heap.size ≤ S) (hb : Below S w w') : Fr a w' P :=
  ⟨hb.os.trans h.os, hb.tape.trans h.tape, hb.output.trans h.output, Nat.le_trans h.size hb.size, fun j hj hr => (hb.block j (by omega)).trans (h.block j hj hr)⟩
end Go.Proofs.YthcnjiigkmljnaaGreatDoor
/-
  What a method of a parser leaves, by what the model tells; small facts on blocks, codes and units for both parsers.
-/
namespace Go.Proofs.YthcnjiigkmljnaaGreatDoor
open Go.RowKit

/-- What a method leaves, by what the model tells: with an error nothing turns; else the model's error, or its answer. -/
def Oc {α : Type} (r : Rs α) (dflt : α → Prop) (i : Nat) (a e : Int) (x : α) (i' : Nat) (a' e' : Int) : Prop :=
  (e ≠ 0 ∧ i' = i ∧ a' = a ∧ e' = e ∧ dflt x) ∨ (e = 0 ∧ r = .no a' e' ∧ e' ≠ 0 ∧ dflt x) ∨ (e = 0 ∧ r = .ok x i' ∧ a' = a ∧ e' = 0)
theorem Oc.err {α : Type} {r : Rs α} {d : α → Prop} {i : Nat} {a e : Int} {x : α} {i' : Nat} {a' e' : Int} (h : Oc r d i a e x i' a' e') (he : e' ≠ 0) : d x := by
  rcases h with ⟨_, _, _, _, h⟩ | ⟨_, _, _, h⟩ | ⟨_, _, _, h⟩
  · exact h
  · exact h
  · exact absurd h he
/-- Tokens that are few, and short. -/
def Sm (L : List Tk) : Prop := L.length ≤ 1048576 ∧ ∀ t ∈ L, t.s.length ≤ 1048576
theorem takeT_s {L : List Tk} {en kind : Int} {i j : Nat} {t : Tk} (h : takeT L en kind i = .ok t j) : i < L.length ∧ t = tg L i ∧ j = i + 1 ∧ t.kind = kind := by
  unfold takeT at h
  by_cases h1 : i < L.length
  · rw [if_pos h1] at h
    by_cases h2 : (tg L i).kind = kind
    · rw [if_pos h2] at h
      injection h with e1 e2
      exact ⟨h1, e1.symm, e2.symm, e1 ▸ h2⟩
    · rw [if_neg h2] at h; cases h
  · rw [if_neg h1] at h; cases h

/-- A block that is there stays, over methods of the parser. -/
theorem Fr.kept {w w2 : World} {P : Nat} {o : Obj} (h : Fr (w.alloc o) w2 P) (hP : P < w.heap.size) (j : Nat) : w2.cell? ⟨w.heap.size, j, none⟩ = (w.alloc o).cell? ⟨w.heap.size, j, none⟩ ∧ w2.frozen? ⟨w.heap.size, j, none⟩ = (w.alloc o).frozen? ⟨w.heap.size, j, none⟩ := by
  have hl : w.heap.size < (w.alloc o).heap.size := by simp
  have hne : w.heap.size ≠ P := by omega
  exact ⟨h.cell ⟨w.heap.size, j, none⟩ hl hne, World.grownBy.frozen_far h ⟨w.heap.size, j, none⟩ hl (by simpa using hne)⟩

theorem two_set {w : World} {S : Nat} {u v : Value} (h0 : w.cell? ⟨S, 0, none⟩ = some u) (h1 : w.cell? ⟨S, 1, none⟩ = some v) (x y : Value) : ((w.setCell ⟨S, 0, none⟩ x).setCell ⟨S, 1, none⟩ y).cell? ⟨S, 0, none⟩ = some x ∧ ((w.setCell ⟨S, 0, none⟩ x).setCell ⟨S, 1, none⟩ y).cell? ⟨S, 1, none⟩ = some y :=
  ⟨(set_other (by decide)).trans (set_same h0), set_same ((set_other (by decide)).trans h1)⟩
theorem cell_new {w : World} {S k : Nat} {v : Value} (h : w.cell? ⟨S, k, none⟩ = some v) (o : Obj) : (w.alloc o).drew.cell? ⟨S, k, none⟩ = some v := by
  have hl : S < w.heap.size := World.block_lt_of_cell? w _ h
  show (w.alloc o).cell? ⟨S, k, none⟩ = some v
  rw [World.cell?_alloc_lt w o ⟨S, k, none⟩ hl]; exact h

theorem units_cs (kind at_ n : Int) (s : List UInt8) : (unitsT ⟨kind, at_, n, s⟩ = none ∧ (oddB s = true ∨ (oddB s = false ∧ (decide (((units s).length : Int) < 1) = true ∨ (decide (((units s).length : Int) < 1) = false ∧ decide ((64 : Int) < ((units s).length : Int)) = true))))) ∨ (unitsT ⟨kind, at_, n, s⟩ ≠ none ∧ oddB s = false ∧ decide (((units s).length : Int) < 1) = false ∧ decide ((64 : Int) < ((units s).length : Int)) = false) := by
  unfold unitsT
  simp only
  by_cases hu : oddB s = false ∧ 1 ≤ (units s).length ∧ (units s).length ≤ 64
  · right
    rw [if_pos hu]
    exact ⟨by simp, hu.1, by simp; omega, by simp; omega⟩
  · left
    rw [if_neg hu]
    refine ⟨rfl, ?_⟩
    cases ho : oddB s with
    | true => exact .inl rfl
    | false =>
      right
      refine ⟨rfl, ?_⟩
      by_cases h1 : (units s).length < 1
      · left; simp; omega
      · right
        refine ⟨by simp; omega, ?_⟩
        have : ¬ (units s).length ≤ 64 := fun h => hu ⟨ho, by omega, h⟩
        simp; omega
/-- Is one of the bytes of a list, from a place on, below that of another one? -/
def lowL (x y : List UInt8) : Bool := (x.zip y).any fun p => decide (p.1.toNat < p.2.toNat)
theorem lowL_at {x y : List UInt8} {k : Nat} {p q : UInt8} (hx : k < x.length) (hy : k < y.length) (hp : p = x[k]?.getD 0) (hq : q = y[k]?.getD 0) : lowL (x.drop k) (y.drop k) = (decide (p.toNat < q.toNat) || lowL (x.drop (k + 1)) (y.drop (k + 1))) := by
  rw [drop_at hx hp, drop_at hy hq]
  simp [lowL]
theorem lowL_end {x y : List UInt8} {k : Nat} (h : x.length ≤ k ∨ y.length ≤ k) : lowL (x.drop k) (y.drop k) = false := by
  rcases h with h | h
  · rw [List.drop_eq_nil_of_le h]; simp [lowL]
  · rw [List.drop_eq_nil_of_le h]; simp [lowL]

theorem codeL_le (n v : Int) : (codeL n v).length ≤ 4 := by
  unfold codeL
  by_cases hs : saneB n v = true
  · rw [if_pos hs, beL_length]
    have := (saneB_iff n v).1 hs
    omega
  · rw [if_neg hs]; simp

/-- A code that may be, or none. -/
def Bc (c : Cd) : Prop := 0 ≤ c.n ∧ c.n ≤ 4 ∧ 0 ≤ c.v ∧ c.v < 4294967296
theorem codeT_bc {L : List Tk} {en : Int} {i j : Nat} {x : Cd × Int} (h : codeT L en i = .ok x j) : Bc x.1 := by
  unfold codeT at h
  cases ht : takeT L en 4 i with
  | no a e => rw [ht, then_no] at h; cases h
  | ok t k =>
    rw [ht, then_ok] at h
    by_cases hv : 1 ≤ t.s.length ∧ t.s.length ≤ 4
    · rw [if_pos hv] at h
      injection h with h1 h2
      subst h1
      have := num_bounds 4 t.s hv.2
      exact ⟨by show (0 : Int) ≤ (t.s.length : Int); omega, by show (t.s.length : Int) ≤ 4; omega, this.1, by simpa using this.2⟩
    · rw [if_neg hv] at h; cases h
theorem oc_bc {L : List Tk} {en : Int} {i i' : Nat} {a e a' e' : Int} {x : Cd × Int} (h : Oc (codeT L en i) (fun x => x.1 = ⟨0, 0⟩) i a e x i' a' e') : Bc x.1 := by
  have hz : Bc (⟨0, 0⟩ : Cd) := ⟨by decide, by decide, by decide, by decide⟩
  rcases h with ⟨_, _, _, _, h⟩ | ⟨_, _, _, h⟩ | ⟨_, h, _, _⟩
  · rw [h]; exact hz
  · rw [h]; exact hz
  · exact codeT_bc h
/-- What a fail leaves. -/
def fA (b : Bool) (p a e : Int) : Int := if b = true ∧ e = 0 then p else a
def fE (b : Bool) (g e : Int) : Int := if b = true ∧ e = 0 then g else e
theorem fA_no (p a e : Int) : fA false p a e = a := by simp [fA]
theorem fE_no (g e : Int) : fE false g e = e := by simp [fE]
theorem fA_err {b : Bool} {p a e : Int} (h : e ≠ 0) : fA b p a e = a := by simp [fA, h]
theorem fE_err {b : Bool} {g e : Int} (h : e ≠ 0) : fE b g e = e := by simp [fE, h]
theorem fA_yes (p a : Int) : fA true p a 0 = p := by simp [fA]
theorem fE_yes (g : Int) : fE true g 0 = g := by simp [fE]
theorem fA_t (p a e : Int) : (if e = 0 then p else a) = fA true p a e := by simp [fA]
theorem fE_eq (b : Bool) (g e : Int) : fE b g e = fA b g e e := rfl
def badP (rect : Bool) (lo hi : Cd) : Bool := rect && lowB hi lo || !rect && decide (hi.v < lo.v)
theorem pair_oc {L : List Tk} {en : Int} {rect : Bool} {i i1 i2 : Nat} {a e a1 e1 a2 e2 : Int} {x y : Cd × Int} (h1 : Oc (codeT L en i) (fun x => x.1 = ⟨0, 0⟩) i a e x i1 a1 e1) (h2 : Oc (codeT L en i1) (fun x => x.1 = ⟨0, 0⟩) i1 a1 e1 y i2 a2 e2) :
    Oc (pairT L en rect i) (fun _ => True) i a e (x.1, y.1) i2 (fA (badP rect x.1 y.1) y.2 (fA (y.1.n != x.1.n) y.2 a2 e2) (fE (y.1.n != x.1.n) 12 e2)) (fE (badP rect x.1 y.1) 7 (fE (y.1.n != x.1.n) 12 e2)) := by
  rcases h1 with ⟨g1, g2, g3, g4, _⟩ | ⟨g1, g2, g3, _⟩ | ⟨g1, g2, g3, g4⟩
  · subst g2 g3 g4
    rcases h2 with ⟨k1, k2, k3, k4, _⟩ | ⟨k1, _⟩ | ⟨k1, _⟩
    · subst k2 k3 k4
      rw [fA_err (by rw [fE_err g1]; exact g1), fA_err g1, fE_err (by rw [fE_err g1]; exact g1), fE_err g1]
      exact .inl ⟨g1, rfl, rfl, rfl, trivial⟩
    · exact absurd k1 g1
    · exact absurd k1 g1
  · rcases h2 with ⟨k1, k2, k3, k4, _⟩ | ⟨k1, _⟩ | ⟨k1, _⟩
    · subst k2 k3 k4
      rw [fA_err (by rw [fE_err g3]; exact g3), fA_err g3, fE_err (by rw [fE_err g3]; exact g3), fE_err g3]
      exact .inr (.inl ⟨g1, by unfold pairT; rw [g2, then_no], g3, trivial⟩)
    · exact absurd k1 g3
    · exact absurd k1 g3
  · subst g4
    rcases h2 with ⟨k1, _⟩ | ⟨_, k2, k3, _⟩ | ⟨_, k2, k3, k4⟩
    · exact absurd rfl k1
    · rw [fA_err (by rw [fE_err k3]; exact k3), fA_err k3, fE_err (by rw [fE_err k3]; exact k3), fE_err k3]
      exact .inr (.inl ⟨g1, by unfold pairT; rw [g2, then_ok, k2, then_no], k3, trivial⟩)
    · subst k4
      cases hn : (y.1.n != x.1.n) with
      | true =>
        have hne : ¬ y.1.n = x.1.n := by simpa using hn
        rw [fA_yes, fE_yes, fA_err (by decide), fE_err (by decide)]
        exact .inr (.inl ⟨g1, by unfold pairT; rw [g2, then_ok, k2, then_ok, if_neg hne], by decide, trivial⟩)
      | false =>
        have heq : y.1.n = x.1.n := by simpa using hn
        rw [fA_no, fE_no]
        cases hb : badP rect x.1 y.1 with
        | true =>
          rw [fA_yes, fE_yes]
          exact .inr (.inl ⟨g1, by unfold pairT; rw [g2, then_ok, k2, then_ok, if_pos heq]; exact if_pos hb, by decide, trivial⟩)
        | false =>
          rw [fA_no, fE_no]
          refine .inr (.inr ⟨g1, ?_, k3.trans g3, rfl⟩)
          unfold pairT
          rw [g2, then_ok, k2, then_ok, if_pos heq]
          have hb' : ¬ (rect && lowB y.1 x.1 || !rect && decide (y.1.v < x.1.v)) = true := by
            have : badP rect x.1 y.1 = (rect && lowB y.1 x.1 || !rect && decide (y.1.v < x.1.v)) := rfl
            rw [← this, hb]; decide
          rw [if_neg hb']

/-- A block of two cells. -/
def Bk (w : World) (b : Nat) (x y : Value) : Prop := w.cell? ⟨b, 0, none⟩ = some x ∧ w.cell? ⟨b, 1, none⟩ = some y ∧ w.frozen? ⟨b, 0, none⟩ = false ∧ w.frozen? ⟨b, 1, none⟩ = false ∧ b < w.heap.size
theorem Bk.new (w : World) (x y : Value) (t : TypeId) : Bk (w.alloc (.cells #[x, y] t)) w.heap.size x y := ⟨by simp, by simp, by simp, by simp, by simp⟩
theorem Bk.over {w w' : World} {b : Nat} {x y : Value} (h : Bk w b x y) (hb : Below w.heap.size w w') : Bk w' b x y := by
  obtain ⟨h0, h1, h2, h3, hl⟩ := h
  exact ⟨(hb.cell (p := ⟨b, 0, none⟩) hl).trans h0, (hb.cell (p := ⟨b, 1, none⟩) hl).trans h1, (hb.frozen (p := ⟨b, 0, none⟩) hl).trans h2, (hb.frozen (p := ⟨b, 1, none⟩) hl).trans h3, Nat.lt_of_lt_of_le hl hb.size⟩
theorem Bk.more {w : World} {b : Nat} {x y : Value} (h : Bk w b x y) (o : Obj) : Bk (w.alloc o) b x y := h.over ((Below.refl _ _).alloc (Nat.le_refl _) _)
theorem Bk.fr {w w' : World} {b P : Nat} {x y : Value} (h : Bk w b x y) (hne : b ≠ P) (hf : Fr w w' P) : Bk w' b x y := by
  obtain ⟨h0, h1, h2, h3, hl⟩ := h
  exact ⟨(hf.cell ⟨b, 0, none⟩ hl hne).trans h0, (hf.cell ⟨b, 1, none⟩ hl hne).trans h1, (World.grownBy.frozen_far hf ⟨b, 0, none⟩ hl (by simpa using hne)).trans h2, (World.grownBy.frozen_far hf ⟨b, 1, none⟩ hl (by simpa using hne)).trans h3, Nat.lt_of_lt_of_le hl hf.size⟩

theorem four_set {w : World} {S T : Nat} {u v u' v' : Value} (hS : Bk w S u v) (hT : Bk w T u' v') (hne : S ≠ T) (a b c d : Value) :
    ((((w.setCell ⟨S, 0, none⟩ a).setCell ⟨S, 1, none⟩ b).setCell ⟨T, 0, none⟩ c).setCell ⟨T, 1, none⟩ d).cell? ⟨S, 0, none⟩ = some a ∧ ((((w.setCell ⟨S, 0, none⟩ a).setCell ⟨S, 1, none⟩ b).setCell ⟨T, 0, none⟩ c).setCell ⟨T, 1, none⟩ d).cell? ⟨S, 1, none⟩ = some b ∧
    ((((w.setCell ⟨S, 0, none⟩ a).setCell ⟨S, 1, none⟩ b).setCell ⟨T, 0, none⟩ c).setCell ⟨T, 1, none⟩ d).cell? ⟨T, 0, none⟩ = some c ∧ ((((w.setCell ⟨S, 0, none⟩ a).setCell ⟨S, 1, none⟩ b).setCell ⟨T, 0, none⟩ c).setCell ⟨T, 1, none⟩ d).cell? ⟨T, 1, none⟩ = some d := by
  have far : ∀ (w : World) (X Y j k : Nat) (v : Value), X ≠ Y → (w.setCell ⟨X, j, none⟩ v).cell? ⟨Y, k, none⟩ = w.cell? ⟨Y, k, none⟩ := fun w X Y j k v h => World.cell?_setCell_far w ⟨X, j, none⟩ ⟨Y, k, none⟩ v h
  obtain ⟨s0, s1⟩ := two_set hS.1 hS.2.1 a b
  have t0 : ((w.setCell ⟨S, 0, none⟩ a).setCell ⟨S, 1, none⟩ b).cell? ⟨T, 0, none⟩ = some u' := by rw [far _ _ _ _ _ _ hne, far _ _ _ _ _ _ hne]; exact hT.1
  have t1 : ((w.setCell ⟨S, 0, none⟩ a).setCell ⟨S, 1, none⟩ b).cell? ⟨T, 1, none⟩ = some v' := by rw [far _ _ _ _ _ _ hne, far _ _ _ _ _ _ hne]; exact hT.2.1
  obtain ⟨r0, r1⟩ := two_set t0 t1 c d
  exact ⟨by rw [far _ _ _ _ _ _ hne.symm, far _ _ _ _ _ _ hne.symm]; exact s0, by rw [far _ _ _ _ _ _ hne.symm, far _ _ _ _ _ _ hne.symm]; exact s1, r0, r1⟩
theorem cell_drew {w : World} {p : Addr} {v : Value} (h : w.cell? p = some v) : w.drew.cell? p = some v := h
end Go.Proofs.YthcnjiigkmljnaaGreatDoor
/-
  The program's parser: fail, at, take.
-/
namespace Go.Proofs.YthcnjiigkmljnaaGreatDoor
open Go.RowKit

/-- Is the next token of a kind? -/
def atB (L : List Tk) (i : Nat) (kind : Int) : Bool := decide (i < L.length) && ((tg L i).kind == kind)
section
variable {w : World} {P : Nat} {A : Option Addr} {c : Nat} {L : List Tk} {i : Nat} {en a e : Int} {vc vi : Value}
set_option maxRecDepth 100000 in
set_option maxHeartbeats 2000000 in
theorem qfail_any (h : Qs w P A c L i en vc vi a e) (a' e' : Int) :
    Calls Tryz.prog 17 #[.pointer (some ⟨P, 0, none⟩), .int .i64 a', .int .i64 e'] w fun r w' => r = .returned (.tuple #[]) ∧ Qs w' P A c L i en vc vi (if e = 0 then a' else a) (if e = 0 then e' else e) ∧ Fr w w' P := by
  have c6 := h.c6
  have c5 := h.c5
  have z5 := h.z5
  have z6 := h.z6
  have HP := Lib.hid h
  clear h
  by_cases he : e = 0
  · subst he
    rw [if_pos rfl, if_pos rfl]
    go_enter Tryz.func17, Tryz.ntmps17
    go_wp2
    refine bodyPost_end (v := _) (by simp [results, Tryz.results17, go_sem]; try rfl) rfl ⟨rfl, HP.out.fail a' e', ((Fr.refl w P).set 5 _).set 6 _⟩
  · rw [if_neg he, if_neg he]
    have t0 : (e == 0) = false := by rw [beq_eq_false_iff_ne]; exact he
    go_enter Tryz.func17, Tryz.ntmps17
    go_wp2
    refine bodyPost_end (v := _) (by simp [results, Tryz.results17, go_sem]; try rfl) rfl ⟨rfl, HP.out, Fr.refl w P⟩
theorem qfail_ok (h : Qs w P A c L i en vc vi a 0) (a' e' : Int) :
    Calls Tryz.prog 17 #[.pointer (some ⟨P, 0, none⟩), .int .i64 a', .int .i64 e'] w fun r w' => r = .returned (.tuple #[]) ∧ Qs w' P A c L i en vc vi a' e' ∧ Fr w w' P := by
  have := qfail_any h a' e'
  rwa [if_pos rfl, if_pos rfl] at this

set_option maxRecDepth 100000 in
set_option maxHeartbeats 2000000 in
theorem qat_any (h : Qs w P A c L i en vc vi a e) (kind : Int) :
    Calls Tryz.prog 99 #[.pointer (some ⟨P, 0, none⟩), .int .i64 kind] w fun r w' => r = .returned (.bool (atB L i kind)) ∧ Below w.heap.size w w' := by
  have c0 := h.c0
  have c2 := h.c2
  have hlt := h.lt
  by_cases hi : i < L.length
  · obtain ⟨b, o, hAe, hbP, hcl⟩ := h.tl (by omega)
    obtain ⟨g0, _, _, _⟩ := hcl i hi
    subst hAe
    have hB : atB L i kind = ((tg L i).kind == kind) := by simp [atB, hi]
    rw [hB]
    clear h hcl hB
    generalize (tg L i).kind = q1 at *
    have t0 : decide (i < L.length) = true := by simp; omega
    have t0' : decide ((i : Int) < (L.length : Int)) = true := by simp; omega
    have hbw : b < w.heap.size := by omega
    go_enter Tryz.func99, Tryz.ntmps99
    go_wp2
    go_quiet (fail)
    go_wp2
    go_ret
    exact ⟨rfl, below_drewN (Below.refl _ _) _⟩
  · have hB : atB L i kind = false := by simp [atB, hi]
    rw [hB]
    clear h hB
    have t0 : decide (i < L.length) = false := by simp; omega
    have t0' : decide ((i : Int) < (L.length : Int)) = false := by simp; omega
    go_enter Tryz.func99, Tryz.ntmps99
    go_wp2
    go_quiet (fail)
    go_wp2
    go_ret
    exact ⟨rfl, below_drewN (Below.refl _ _) _⟩
end
end Go.Proofs.YthcnjiigkmljnaaGreatDoor
/-
  The program's parser: take.
-/
namespace Go.Proofs.YthcnjiigkmljnaaGreatDoor
open Go.RowKit

section
variable {w : World} {P : Nat} {A : Option Addr} {c : Nat} {L : List Tk} {i : Nat} {en a e : Int} {vc vi : Value}
set_option maxRecDepth 100000 in
set_option maxHeartbeats 2000000 in
/-- take, where there is an error: nothing turns. -/
theorem qtake_err (h : Qs w P A c L i en vc vi a e) (he : e ≠ 0) (kind : Int) :
    Calls Tryz.prog 73 #[.pointer (some ⟨P, 0, none⟩), .int .i64 kind] w fun r w' => r = .returned (.agg #[.int .i64 0, .int .i64 0, .int .i64 0, .string ⟨#[]⟩]) ∧ Qs w' P A c L i en vc vi a e ∧ Fr w w' P := by
  have c6 := h.c6
  have hlt := h.lt
  have HP := Lib.hid h
  clear h
  have t0 : (e != 0) = true := by rw [bne_iff_ne]; exact he
  go_enter Tryz.func73, Tryz.ntmps73
  go_wp2
  refine bodyPost_ret (v := _) (by simp [results, Tryz.results73, go_sem]; try rfl) rfl ⟨rfl, HP.out.alloc _, (Fr.refl w P).alloc _⟩

set_option maxRecDepth 100000 in
set_option maxHeartbeats 2000000 in
/-- take behind the last token. -/
theorem qtake_end (h : Qs w P A c L i en vc vi a 0) (hi : i = L.length) (kind : Int) :
    Calls Tryz.prog 73 #[.pointer (some ⟨P, 0, none⟩), .int .i64 kind] w fun r w' => r = .returned (.agg #[.int .i64 0, .int .i64 0, .int .i64 0, .string ⟨#[]⟩]) ∧ Qs w' P A c L i en vc vi en 2 ∧ Fr w w' P := by
  have hF : ∀ w', Qs w' P A c L i en vc vi a 0 → Calls Tryz.prog 17 #[.pointer (some ⟨P, 0, none⟩), .int .i64 en, .int .i64 2] w' fun r w'' => r = .returned (.tuple #[]) ∧ Qs w'' P A c L i en vc vi en 2 ∧ Fr w' w'' P := fun w' hq => qfail_ok hq en 2
  have HF := Lib.hid hF
  have c0 := h.c0
  have c1 := h.c1
  have c2 := h.c2
  have c6 := h.c6
  have hlt := h.lt
  have HP := Lib.hid h
  clear h hF
  have t0 : ((i : Int) == (L.length : Int)) = true := by rw [beq_iff_eq]; omega
  have t0' : (i == L.length) = true := by rw [beq_iff_eq]; omega
  clear hi
  go_enter Tryz.func73, Tryz.ntmps73
  go_wp2
  go_quiet (fail)
  go_wp2_with (go_at_call 17; refine (HF.out _ ((HP.out.alloc _).drewN _)).mono ?_; rintro r w2 ⟨rfl, hps, hfr⟩; obtain ⟨⟨g0, g1, g2, g3⟩, ⟨y0, y1, y2, y3⟩, hl2, hB⟩ := res_fr (((Fr.refl _ P).drewN _).trans hfr) hlt)
  refine bodyPost_ret (v := _) (by simp [results, Tryz.results73, go_sem, g0, g1, g2, g3]; try rfl) rfl ⟨rfl, (((hps.far hlt 0 _).far hlt 1 _).far hlt 2 _).far hlt 3 _, hB.far4 (Nat.le_refl _) _ _ _ _⟩

set_option maxRecDepth 100000 in
set_option maxHeartbeats 4000000 in
/-- take at a token of another kind. -/
theorem qtake_bad (h : Qs w P A c L i en vc vi a 0) (hi : i < L.length) (hi2 : i ≤ 1048576) (kind : Int) (hk : (tg L i).kind ≠ kind) :
    Calls Tryz.prog 73 #[.pointer (some ⟨P, 0, none⟩), .int .i64 kind] w fun r w' => r = .returned (.agg #[.int .i64 0, .int .i64 0, .int .i64 0, .string ⟨#[]⟩]) ∧ Qs w' P A c L i en vc vi (tg L i).at_ 3 ∧ Fr w w' P := by
  have hF : ∀ w', Qs w' P A c L i en vc vi a 0 → Calls Tryz.prog 17 #[.pointer (some ⟨P, 0, none⟩), .int .i64 (tg L i).at_, .int .i64 3] w' fun r w'' => r = .returned (.tuple #[]) ∧ Qs w'' P A c L i en vc vi (tg L i).at_ 3 ∧ Fr w' w'' P := fun w' hq => qfail_ok hq _ 3
  have hA : ∀ w', Qs w' P A c L i en vc vi a 0 → Calls Tryz.prog 99 #[.pointer (some ⟨P, 0, none⟩), .int .i64 kind] w' fun r w'' => r = .returned (.bool false) ∧ Below w'.heap.size w' w'' := fun w' hq => by
    have := qat_any hq kind
    have e : atB L i kind = false := by simp [atB, hk]
    rwa [e] at this
  have HF := Lib.hid hF
  have HA := Lib.hid hA
  have c0 := h.c0
  have c2 := h.c2
  have c6 := h.c6
  have hlt := h.lt
  obtain ⟨b, o, hAe, hbP, hcl⟩ := h.tl (by omega)
  obtain ⟨g0, g1, g2, g3⟩ := hcl i hi
  have HP := Lib.hid h
  clear h hF hA hcl
  subst hAe
  generalize (tg L i).at_ = q2 at *
  have t0 : ((i : Int) == (L.length : Int)) = false := by rw [beq_eq_false_iff_ne]; omega
  have t0' : (i == L.length) = false := by rw [beq_eq_false_iff_ne]; omega
  have hbw : b < w.heap.size := by omega
  have hPw : P ≠ w.heap.size := by omega
  go_enter Tryz.func73, Tryz.ntmps73
  go_wp2
  go_quiet (fail)
  go_wp2_with (go_at_call 99; refine (HA.out _ ((HP.out.alloc _).drewN _)).mono ?_; rintro r w1 ⟨rfl, hb1⟩; have hq1 := ((HP.out.alloc _).drewN _).over hb1; have hf1 := (((Fr.refl (w.alloc (.cells #[.int .i64 0, .int .i64 0, .int .i64 0, .string ⟨#[]⟩] 42)) P).drewN _).over hb1); have d0 := hq1.c0; have d2 := hq1.c2; have k1 := (hb1.cell (p := ⟨b, o + i * 4 + 1, none⟩) (by simp; omega)).trans ((World.cell?_alloc_lt w _ ⟨b, o + i * 4 + 1, none⟩ hbw).trans g1))
  go_region_held (fun w' => w'.cell? ⟨P, 0, none⟩ = some (.slice (some ⟨b, o, none⟩) L.length c) ∧ w'.cell? ⟨P, 2, none⟩ = some (.int .i64 (i : Int)) ∧ w'.cell? ⟨b, o + i * 4 + 1, none⟩ = some (.int .i64 q2))
    (first | exact ⟨d0, d2, k1⟩ | exact hcells)
    ((go_at_call 17; refine (HF.out _ hq1.drew).mono ?_; rintro r w2 ⟨rfl, hps, hfr⟩; obtain ⟨⟨f0, f1, f2, f3⟩, ⟨y0, y1, y2, y3⟩, hl2, hB⟩ := res_fr (hf1.drew.trans hfr) hlt; have hcells : w2.cell? ⟨P, 0, none⟩ = some (.slice (some ⟨b, o, none⟩) L.length c) ∧ w2.cell? ⟨P, 2, none⟩ = some (.int .i64 (i : Int)) ∧ w2.cell? ⟨b, o + i * 4 + 1, none⟩ = some (.int .i64 q2) := ⟨hps.c0, hps.c2, (hfr.cell ⟨b, o + i * 4 + 1, none⟩ (by have := hq1.lt; show b < w1.heap.size; omega) (by show b ≠ P; omega)).trans k1⟩))
  go_wp2
  refine bodyPost_ret (v := _) (by simp [results, Tryz.results73, go_sem, f0, f1, f2, f3]; try rfl) rfl ⟨rfl, (((hps.far hlt 0 _).far hlt 1 _).far hlt 2 _).far hlt 3 _, hB.far4 (Nat.le_refl _) _ _ _ _⟩
set_option maxRecDepth 100000 in
set_option maxHeartbeats 4000000 in
/-- take at a token of that kind. -/
theorem qtake_ok (h : Qs w P A c L i en vc vi a 0) (hi : i < L.length) (hi2 : i ≤ 1048576) (kind : Int) (hk : (tg L i).kind = kind) :
    Calls Tryz.prog 73 #[.pointer (some ⟨P, 0, none⟩), .int .i64 kind] w fun r w' => r = .returned (tv (tg L i)) ∧ Qs w' P A c L (i + 1) en vc vi a 0 ∧ Fr w w' P := by
  have hA : ∀ w', Qs w' P A c L i en vc vi a 0 → Calls Tryz.prog 99 #[.pointer (some ⟨P, 0, none⟩), .int .i64 kind] w' fun r w'' => r = .returned (.bool true) ∧ Below w'.heap.size w' w'' := fun w' hq => by
    have := qat_any hq kind
    have e : atB L i kind = true := by simp [atB, hk, hi]
    rwa [e] at this
  have HA := Lib.hid hA
  have c0 := h.c0
  have c2 := h.c2
  have c6 := h.c6
  have z2 := h.z2
  have hlt := h.lt
  obtain ⟨b, o, hAe, hbP, hcl⟩ := h.tl (by omega)
  obtain ⟨g0, g1, g2, g3⟩ := hcl i hi
  have HP := Lib.hid h
  clear h hA hcl
  subst hAe
  unfold tv
  rw [hk] at g0 ⊢
  clear hk
  generalize (tg L i).at_ = q2 at *
  generalize (tg L i).n = q3 at *
  generalize (tg L i).s = q4 at *
  have t0 : ((i : Int) == (L.length : Int)) = false := by rw [beq_eq_false_iff_ne]; omega
  have t0' : (i == L.length) = false := by rw [beq_eq_false_iff_ne]; omega
  have hbw : b < w.heap.size := by omega
  have hPw : P ≠ w.heap.size := by omega
  have hbP' : b ≠ P := by omega
  have hPb' : P ≠ b := by omega
  go_enter Tryz.func73, Tryz.ntmps73
  go_wp2
  go_quiet (fail)
  go_wp2_with (go_at_call 99; refine (HA.out _ ((HP.out.alloc _).drewN _)).mono ?_; rintro r w1 ⟨rfl, hb1⟩; have hq1 := ((HP.out.alloc _).drewN _).over hb1; have hf1 := (((Fr.refl (w.alloc (.cells #[.int .i64 0, .int .i64 0, .int .i64 0, .string ⟨#[]⟩] 42)) P).drewN _).over hb1); have d0 := hq1.c0; have d2 := hq1.c2; have x2 := hq1.z2; have m0 := (hb1.cell (p := ⟨b, o + i * 4, none⟩) (by simp; omega)).trans ((World.cell?_alloc_lt w _ ⟨b, o + i * 4, none⟩ hbw).trans g0); have m1 := (hb1.cell (p := ⟨b, o + i * 4 + 1, none⟩) (by simp; omega)).trans ((World.cell?_alloc_lt w _ ⟨b, o + i * 4 + 1, none⟩ hbw).trans g1); have m2 := (hb1.cell (p := ⟨b, o + i * 4 + 2, none⟩) (by simp; omega)).trans ((World.cell?_alloc_lt w _ ⟨b, o + i * 4 + 2, none⟩ hbw).trans g2); have m3 := (hb1.cell (p := ⟨b, o + i * 4 + 3, none⟩) (by simp; omega)).trans ((World.cell?_alloc_lt w _ ⟨b, o + i * 4 + 3, none⟩ hbw).trans g3); obtain ⟨⟨f0, f1, f2, f3⟩, ⟨y0, y1, y2, y3⟩, hl2, hB⟩ := res_fr hf1 hlt)
  go_region
  go_wp2
  obtain ⟨⟨e0, e1, e2, e3⟩, _, _, _⟩ := res_fr (hf1.set 2 (.int .i64 ((i : Int) + 1))) hlt
  refine bodyPost_ret (v := _) (by simp [results, Tryz.results73, go_sem, e0, e1, e2, e3]; try rfl) rfl ⟨rfl, (((((hq1.next (i + 1)).far hlt 0 _).far hlt 1 _).far hlt 2 _).far hlt 3 _).drew, ((hB.set 2 _).far4 (Nat.le_refl _) _ _ _ _).drew⟩

theorem qtake_any (h : Qs w P A c L i en vc vi a e) (hi : i ≤ L.length) (hL : Sm L) (kind : Int) :
    Calls Tryz.prog 73 #[.pointer (some ⟨P, 0, none⟩), .int .i64 kind] w fun r w' => ∃ (t : Tk) (i' : Nat) (a' e' : Int), r = .returned (tv t) ∧ Qs w' P A c L i' en vc vi a' e' ∧ i' ≤ L.length ∧ t.s.length ≤ 1048576 ∧ Fr w w' P ∧ Oc (takeT L en kind i) (fun x => x = noT) i a e t i' a' e' := by
  by_cases he : e = 0
  · subst he
    by_cases h1 : i < L.length
    · by_cases h2 : (tg L i).kind = kind
      · refine (qtake_ok h h1 (by have := hL.1; omega) kind h2).mono ?_
        rintro r w' ⟨rfl, hp, hf⟩
        exact ⟨tg L i, i + 1, a, 0, rfl, hp, h1, hL.2 _ (tg_mem h1), hf, .inr (.inr ⟨rfl, by unfold takeT; rw [if_pos h1, if_pos h2], rfl, rfl⟩)⟩
      · refine (qtake_bad h h1 (by have := hL.1; omega) kind h2).mono ?_
        rintro r w' ⟨rfl, hp, hf⟩
        exact ⟨noT, i, _, 3, rfl, hp, hi, by simp [noT], hf, .inr (.inl ⟨rfl, by unfold takeT; rw [if_pos h1, if_neg h2], by decide, rfl⟩)⟩
    · refine (qtake_end h (by omega) kind).mono ?_
      rintro r w' ⟨rfl, hp, hf⟩
      exact ⟨noT, i, _, 2, rfl, hp, hi, by simp [noT], hf, .inr (.inl ⟨rfl, by unfold takeT; rw [if_neg h1], by decide, rfl⟩)⟩
  · refine (qtake_err h he kind).mono ?_
    rintro r w' ⟨rfl, hp, hf⟩
    exact ⟨noT, i, a, e, rfl, hp, hi, by simp [noT], hf, .inl ⟨he, rfl, rfl, rfl, rfl⟩⟩
end
end Go.Proofs.YthcnjiigkmljnaaGreatDoor
