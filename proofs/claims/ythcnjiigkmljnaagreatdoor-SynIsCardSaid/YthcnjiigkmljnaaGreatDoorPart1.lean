/-
  Parts of this proof, one behind the other: HexKind, HexPack, Mem, HexDig, LexPure, TokDef, TokVal, TokMem, Bits, HexVal, HexSane, HexBytes, View, Ints.
-/
import Derived.Test.YthcnjiigkmljnaaGreatDoorProg
import Derived.WalkKit
import Derived.WalkSpells
import Derived.WalkLawsBesides
import Derived.Lib.Hide
import Derived.Laws.IdiomStrings
import Derived.Deep.AppendLies
import Derived.Deep.RegionLaw
import Derived.Lib.ItoaNum
import Derived.Handy
import Derived.BigQuiet
import Derived.Deep.QuietTactic
import Derived.ProofKit
import Derived.OpenShut
import Derived.Lib.SmallJoins
import Derived.Carry
/-
  hex.kind, Digit and White: what they answer, for every number, in a world that holds the table of blanks and digits.
-/
namespace Go.Proofs.YthcnjiigkmljnaaGreatDoor
open Go.RowKit

/-- What the table tells of a number: 0 nothing, 1 a blank, 2 and more a digit and its value. -/
def tabAt (n : Nat) : Int :=
  if n = 0 ∨ n = 9 ∨ n = 10 ∨ n = 12 ∨ n = 13 ∨ n = 32 then 1
  else if 48 ≤ n ∧ n ≤ 57 then (n : Int) - 46
  else if 65 ≤ n ∧ n ≤ 70 then (n : Int) - 53
  else if 97 ≤ n ∧ n ≤ 102 then (n : Int) - 85
  else 0
def kz (c : Int) : Int := if 0 ≤ c ∧ c < 103 then tabAt c.toNat else 0

theorem tabAt_bounds (n : Nat) : 0 ≤ tabAt n ∧ tabAt n ≤ 17 := by
  unfold tabAt; repeat' split
  all_goals omega
theorem kz_bounds (c : Int) : 0 ≤ kz c ∧ kz c ≤ 17 := by
  unfold kz; split
  · exact tabAt_bounds _
  · omega

/-- The world holds the table. -/
def Tab (w : World) : Prop := ∀ i, i < 103 → w.cell? ⟨2, i, none⟩ = some (.int .u8 (tabAt i))

theorem Tab.pos {w : World} (h : Tab w) : 2 < w.heap.size := by
  have := h 0 (by omega)
  exact World.block_lt_of_cell? w _ this
theorem Tab.below {w w' : World} (h : Tab w) {B : Nat} (hb : Below B w w') (hB : 2 < B) : Tab w' := fun i hi => (hb.cell (p := ⟨2, i, none⟩) hB).trans (h i hi)
theorem Tab.below' {w w' : World} (h : Tab w) (hb : Below w.heap.size w w') : Tab w' := h.below hb h.pos

set_option maxHeartbeats 400000 in
theorem kind_in (c : Int) (w : World) (h0 : 0 ≤ c) (h1 : c < 103) (hc : w.cell? ⟨2, c.toNat, none⟩ = some (.int .u8 (kz c))) :
    Calls Tryz.prog 84 #[.int .i64 c] w fun e w' => e = .returned (.int .i64 (kz c)) ∧ w = w' := by
  have hb := kz_bounds c
  go_enter Tryz.func84, Tryz.ntmps84
  go_wp2
  go_ret
  exact ⟨rfl, rfl⟩

set_option maxHeartbeats 400000 in
theorem kind_out (c : Int) (w : World) (h : c < 0 ∨ 103 ≤ c) :
    Calls Tryz.prog 84 #[.int .i64 c] w fun e w' => e = .returned (.int .i64 0) ∧ w = w' := by
  rcases h with h | h
  · go_enter Tryz.func84, Tryz.ntmps84
    go_wp2
    go_ret
    exact ⟨rfl, rfl⟩
  · have h' : ¬ c < 0 := by omega
    go_enter Tryz.func84, Tryz.ntmps84
    go_wp2
    go_ret
    exact ⟨rfl, rfl⟩

theorem kind_any (c : Int) (w : World) (ht : Tab w) :
    Calls Tryz.prog 84 #[.int .i64 c] w fun e w' => e = .returned (.int .i64 (kz c)) ∧ w = w' := by
  by_cases h : 0 ≤ c ∧ c < 103
  · refine kind_in c w h.1 h.2 ?_
    have := ht c.toNat (by omega)
    unfold kz
    rw [if_pos h]
    exact this
  · have e : kz c = 0 := by unfold kz; rw [if_neg h]
    rw [e]
    exact kind_out c w (by omega)

set_option maxHeartbeats 400000 in
theorem Digit_yes (c : Int) (w : World) (ht : Tab w) (h : 2 ≤ kz c) :
    Calls Tryz.prog 86 #[.int .i64 c] w fun e w' => e = .returned (.tuple #[.int .i64 (kz c - 2), .bool true]) ∧ w = w' := by
  have hb := kz_bounds c
  go_enter Tryz.func86, Tryz.ntmps86
  go_wp2_with (go_at_call 84; refine (kind_any _ _ ht).mono ?_; rintro e w' ⟨rfl, rfl⟩)
  go_ret2
  exact ⟨rfl, rfl⟩

set_option maxHeartbeats 400000 in
theorem Digit_no (c : Int) (w : World) (ht : Tab w) (h : kz c < 2) :
    Calls Tryz.prog 86 #[.int .i64 c] w fun e w' => e = .returned (.tuple #[.int .i64 0, .bool false]) ∧ w = w' := by
  have hb := kz_bounds c
  go_enter Tryz.func86, Tryz.ntmps86
  go_wp2_with (go_at_call 84; refine (kind_any _ _ ht).mono ?_; rintro e w' ⟨rfl, rfl⟩)
  go_ret2
  exact ⟨rfl, rfl⟩

set_option maxHeartbeats 400000 in
theorem White_any (c : Int) (w : World) (ht : Tab w) :
    Calls Tryz.prog 55 #[.int .i64 c] w fun e w' => e = .returned (.bool (kz c == 1)) ∧ w = w' := by
  have hb := kz_bounds c
  go_enter Tryz.func55, Tryz.ntmps55
  go_wp2_with (go_at_call 84; refine (kind_any _ _ ht).mono ?_; rintro e w' ⟨rfl, rfl⟩)
  go_ret
  exact ⟨rfl, rfl⟩
end Go.Proofs.YthcnjiigkmljnaaGreatDoor
/-
  What UnHex answers, as a plain function of lists: blanks do not count, two digits are a byte, a last one alone is followed by 0; the first byte that is neither.
-/
namespace Go.Proofs.YthcnjiigkmljnaaGreatDoor

def kb (b : UInt8) : Int := kz (b.toNat : Int)
def nib (b : UInt8) : Option Nat := if 2 ≤ kb b then some (kb b - 2).toNat else none
def nibs (l : List UInt8) : List Nat := l.filterMap nib
def pack : List Nat → List UInt8
  | [] => []
  | [a] => [UInt8.ofNat (16 * a)]
  | a :: b :: r => UInt8.ofNat (16 * a + b) :: pack r
/-- Is each of them a blank or a digit? -/
def Good (l : List UInt8) : Prop := ∀ b ∈ l, 1 ≤ kb b

theorem kb_bounds (b : UInt8) : 0 ≤ kb b ∧ kb b ≤ 17 := kz_bounds _
theorem nib_lt {b : UInt8} {d : Nat} (h : nib b = some d) : d < 16 := by
  unfold nib at h
  have := kb_bounds b
  split at h
  · cases h; omega
  · cases h
theorem nibs_lt {l : List UInt8} {d : Nat} (h : d ∈ nibs l) : d < 16 := by
  simp only [nibs, List.mem_filterMap] at h
  obtain ⟨b, _, hb⟩ := h
  exact nib_lt hb
theorem nibs_length (l : List UInt8) : (nibs l).length ≤ l.length := List.length_filterMap_le _ _
theorem nibs_append (a b : List UInt8) : nibs (a ++ b) = nibs a ++ nibs b := List.filterMap_append
theorem pack_length : ∀ ds : List Nat, (pack ds).length = (ds.length + 1) / 2
  | [] => rfl
  | [a] => by simp [pack]
  | a :: b :: r => by have := pack_length r; simp only [pack, List.length_cons, this]; omega
theorem pack_even : ∀ (ds : List Nat), ds.length % 2 = 0 → ∀ es, pack (ds ++ es) = pack ds ++ pack es
  | [], _, es => rfl
  | [a], h, es => by simp at h
  | a :: b :: r, h, es => by
    have := pack_even r (by simp only [List.length_cons] at h; omega) es
    simp only [List.cons_append, pack, this]
theorem pack_odd : ∀ (ds : List Nat), ds.length % 2 = 1 → ∃ p a, a ∈ ds ∧ pack ds = p ++ [UInt8.ofNat (16 * a)] ∧ p.length = ds.length / 2 ∧ ∀ d, pack (ds ++ [d]) = p ++ [UInt8.ofNat (16 * a + d)]
  | [], h => by simp at h
  | [a], _ => ⟨[], a, by simp, rfl, by simp, fun d => rfl⟩
  | a :: b :: r, h => by
    obtain ⟨p, x, hx, h1, h2, h3⟩ := pack_odd r (by simp only [List.length_cons] at h; omega)
    refine ⟨UInt8.ofNat (16 * a + b) :: p, x, by simp [hx], by simp [pack, h1], by simp only [List.length_cons, h2]; omega, fun d => ?_⟩
    simp only [List.cons_append, pack, h3]
theorem take_snoc (l : List UInt8) (k : Nat) (h : k < l.length) : l.take (k + 1) = l.take k ++ [l[k]?.getD 0] := by
  rw [List.take_succ_eq_append_getElem h, List.getElem?_eq_getElem h]; rfl
theorem nibs_one (b : UInt8) : nibs [b] = if 2 ≤ kb b then [(kb b - 2).toNat] else [] := by
  unfold nibs nib
  by_cases h : 2 ≤ kb b <;> simp [h]
/-- The first byte that is neither a digit nor a blank; or the end. -/
def bad (l : List UInt8) : Nat := l.findIdx fun b => kb b == 0
theorem bad_le (l : List UInt8) : bad l ≤ l.length := List.findIdx_le_length
theorem bad_of_good {l : List UInt8} (h : Good l) : bad l = l.length := by
  unfold bad
  rw [List.findIdx_eq_length]
  intro b hb
  have := h b hb
  have : kb b ≠ 0 := by omega
  simpa using this
theorem good_of_bad {l : List UInt8} (h : bad l = l.length) : Good l := by
  unfold bad at h
  rw [List.findIdx_eq_length] at h
  intro b hb
  have h1 := h b hb
  have h2 := kb_bounds b
  have h3 : kb b ≠ 0 := by simpa using h1
  omega
theorem bad_at {l : List UInt8} {k : Nat} (hk : k < l.length) (hg : Good (l.take k)) (h : kb (l[k]?.getD 0) = 0) : bad l = k := by
  unfold bad
  rw [List.findIdx_eq hk]
  rw [List.getElem?_eq_getElem hk] at h
  refine ⟨by simpa using h, fun j hj => ?_⟩
  have hm : l[j] ∈ l.take k := by
    rw [List.mem_iff_getElem]
    exact ⟨j, by simp; omega, by simp⟩
  have := hg _ hm
  have : kb l[j] ≠ 0 := by omega
  simpa using this
theorem bad_lt {l : List UInt8} (h : bad l < l.length) : Good (l.take (bad l)) ∧ kb (l[bad l]?.getD 0) = 0 := by
  refine ⟨fun b hb => ?_, ?_⟩
  · rw [List.mem_iff_getElem] at hb
    obtain ⟨j, hj, rfl⟩ := hb
    have hj' : j < bad l := by simp at hj; omega
    have h1 := List.not_of_lt_findIdx (p := fun b => kb b == 0) (xs := l) hj'
    have h2 := kb_bounds l[j]
    have h3 : kb l[j] ≠ 0 := by simpa using h1
    simp only [List.getElem_take]
    omega
  · have := List.findIdx_getElem (p := fun b => kb b == 0) (xs := l) (w := h)
    rw [List.getElem?_eq_getElem h]
    exact (by simpa using this : kb l[List.findIdx (fun b => kb b == 0) l] = 0)
theorem good_snoc {l : List UInt8} {k : Nat} (hk : k < l.length) (hg : Good (l.take k)) (h : 1 ≤ kb (l[k]?.getD 0)) : Good (l.take (k + 1)) := by
  rw [take_snoc l k hk]
  intro b hb
  rcases List.mem_append.1 hb with hb | hb
  · exact hg b hb
  · simp only [List.mem_singleton] at hb
    subst hb
    exact h
theorem good_append {a b : List UInt8} (ha : Good a) (hb : Good b) : Good (a ++ b) := fun x hx => by
  rcases List.mem_append.1 hx with h | h
  · exact ha x h
  · exact hb x h

/-- What UnHex hands back: bytes, a place, an error. -/
def unB (l : List UInt8) : List UInt8 := if bad l < l.length then [] else pack (nibs l)
def unN (l : List UInt8) : Int := (bad l : Int)
def unE (l : List UInt8) : Int := if bad l < l.length then 1 else 0
theorem un_bad {l : List UInt8} (h : bad l < l.length) : unB l = [] ∧ unN l = bad l ∧ unE l = 1 := by simp [unB, unN, unE, h]
theorem un_good {l : List UInt8} (h : Good l) : unB l = pack (nibs l) ∧ unN l = l.length ∧ unE l = 0 := by
  have := bad_of_good h
  simp [unB, unN, unE, this]
end Go.Proofs.YthcnjiigkmljnaaGreatDoor
/-
  Words of this proof's own for bytes in memory: strings as lists of bytes; a slice that holds a list of bytes; what such a slice is as a string.
-/
namespace Go.Proofs.YthcnjiigkmljnaaGreatDoor
open Go.RowKit

/-- The string of these bytes. -/
def str (l : List UInt8) : ByteArray := ⟨l.toArray⟩
@[go_sem] theorem str_size (l : List UInt8) : (str l).size = l.length := by show l.toArray.size = _; simp
@[go_sem] theorem str_toList (l : List UInt8) : (str l).toList = l := ByteArray.toList_mk l
@[go_sem] theorem str_append (a b : List UInt8) : str a ++ str b = str (a ++ b) := by unfold str; rw [ByteArray.mk_append_mk]
@[go_sem] theorem str_extract (l : List UInt8) (a b : Nat) : (str l).extract a b = str ((l.drop a).take (b - a)) := ByteArray.extract_mk l a b
theorem str_data (l : List UInt8) : (str l).data.toList = l := rfl
theorem str_inj {a b : List UInt8} (h : a = b) : str a = str b := by rw [h]
/-- Each string is the string of its bytes. -/
theorem str_of (s : ByteArray) : ∃ l, s = str l := ⟨s.data.toList, by cases s; simp [str]⟩

/-- Bytes as Go's values. -/
def bvs (l : List UInt8) : List Value := l.map fun b => Value.int .u8 (b.toNat : Int)
theorem bvs_length (l : List UInt8) : (bvs l).length = l.length := by simp [bvs]
theorem bvs_get (l : List UInt8) (j : Nat) (h : j < l.length) : (bvs l)[j]? = some (.int .u8 ((l[j]?.getD 0).toNat : Int)) := by simp [bvs, h]
theorem bvs_append (a b : List UInt8) : bvs (a ++ b) = bvs a ++ bvs b := by simp [bvs]
theorem bvs_one (l : List UInt8) : ∀ u ∈ bvs l, u.oneCell' = true := by
  intro u hu
  simp only [bvs, List.mem_map] at hu
  obtain ⟨b, _, rfl⟩ := hu
  rfl

/-- A slice at A holds the bytes l, below block B. -/
def Sl (w : World) (B : Nat) (A : Option Addr) (l : List UInt8) : Prop :=
  0 < l.length → ∃ b o, A = some ⟨b, o, none⟩ ∧ b < B ∧ ∀ j, j < l.length → w.cell? ⟨b, o + j, none⟩ = some (.int .u8 ((l[j]?.getD 0).toNat : Int))

section
variable {w w' : World} {B B' : Nat} {A : Option Addr} {l : List UInt8}
theorem Sl.keep (h : Sl w B A l) (hk : ∀ p : Addr, p.block < B → w'.cell? p = w.cell? p) : Sl w' B A l := fun hn => by
  obtain ⟨b, o, e, hb, hc⟩ := h hn
  exact ⟨b, o, e, hb, fun j hj => (hk ⟨b, o + j, none⟩ hb).trans (hc j hj)⟩
theorem Sl.below (h : Sl w B A l) (hb : Below B w w') : Sl w' B A l := h.keep fun _ hp => hb.cell hp
theorem Sl.more (h : Sl w B A l) (hB : B ≤ B') : Sl w B' A l := fun hn => by
  obtain ⟨b, o, e, hb, hc⟩ := h hn
  exact ⟨b, o, e, by omega, hc⟩
/-- Over a call that leaves all that was there. -/
theorem Sl.over (h : Sl w w.heap.size A l) (hb : Below w.heap.size w w') : Sl w' w'.heap.size A l := (h.below hb).more hb.size
theorem Sl.nil : Sl w B A [] := fun h => absurd h (by simp)
theorem Sl.drew (h : Sl w B A l) : Sl w.drew B A l := h
theorem Sl.alloc (h : Sl w B A l) (hB : B ≤ w.heap.size) (o : Obj) : Sl (w.alloc o) B A l := h.keep fun p hp => World.cell?_alloc_lt w o p (by omega)
theorem addr_add (b o j : Nat) : (⟨b, o, none⟩ : Addr).add j = ⟨b, o + j, none⟩ := by
  unfold Addr.add; split
  · simp_all
  · rfl
theorem Sl.cells (h : Sl w B A l) (hn : 0 < l.length) : ∃ a, A = some a ∧ ∀ j u, (bvs l)[j]? = some u → w.cell? (a.add j) = some u := by
  obtain ⟨b, o, e, _, hc⟩ := h hn
  refine ⟨_, e, fun j u hu => ?_⟩
  have hj : j < l.length := by
    rcases Nat.lt_or_ge j l.length with h | h
    · exact h
    · rw [List.getElem?_eq_none (by rw [bvs_length]; exact h)] at hu; cases hu
  rw [bvs_get l j hj] at hu
  rw [addr_add, hc j hj, hu]
theorem Sl.of_own {base : Nat} {e : TypeId} {v : Value} {n : Nat} (h : w.ownsRow base e 1 v n (bvs l)) : ∃ c, n = l.length ∧ n ≤ c ∧ ∃ A, v = .slice A l.length c ∧ Sl w w.heap.size A l := by
  have hl : n = l.length := by have := h.1; rw [bvs_length] at this; omega
  subst hl
  rcases h.2 with ⟨rfl, h0⟩ | ⟨g, cap, cur, rfl, hb, hg, hc, hm, hs, ht⟩
  · exact ⟨0, rfl, by omega, none, by rw [h0], fun hn => absurd hn (by omega)⟩
  · refine ⟨cap, rfl, hc, _, rfl, fun hn => ⟨g, 0, rfl, (Array.getElem?_eq_some_iff.1 hg).1, fun j hj => ?_⟩⟩
    have := h.cells (g := g) rfl j _ (bvs_get l j hj)
    rwa [addr_add] at this
end

/-- string(b). -/
theorem run_str {P : Program} {w : World} {B : Nat} {A : Option Addr} {l : List UInt8} (h : Sl w B A l) (c : Nat) (src dst e : TypeId)
    (hs : P.underlying src = some (.slice e)) (he : P.underlying e = some (.int .u8)) (hd : P.underlying dst = some .string) :
    (convert src dst (.slice A l.length c)).run P w = .ok (.string (str l)) w := by
  rw [run_convert_bytes_string w src dst e A l.length c hs he hd]
  have hf : ∀ l : List UInt8, (l.map (fun b => (b.toNat : Int))).foldl (fun r n => r.push (UInt8.ofNat n.toNat)) ByteArray.empty = str l := fun l => by
    rw [foldl_push_byteCells]
    show (⟨#[] ++ l.toArray⟩ : ByteArray) = ⟨l.toArray⟩
    simp
  rcases Nat.eq_zero_or_pos l.length with h0 | h0
  · have hl : l = [] := List.eq_nil_of_length_eq_zero h0
    subst hl
    cases A with
    | none => simp [Conv.bytesToString]; rfl
    | some a =>
      have := run_bytesToString (P := P) w a 0 c [] (by simp [loadCells, loadCellsFrom])
      exact this
  · obtain ⟨a, rfl, hc⟩ := h.cells h0
    have hld := run_loadCells_list (P := P) (w := w) a (bvs l) hc
    rw [bvs_length] at hld
    have := run_bytesToString (P := P) w a l.length c (l.map fun b => (b.toNat : Int)) (by rw [hld]; simp [bvs])
    rw [this, hf]

/-- Three results of a call: a slice of bytes, and two numbers. -/
def RetBytes (w : World) (l : List UInt8) (n m : Int) (e : Ending) (w' : World) : Prop :=
  ∃ A c, e = .returned (.tuple #[.slice A l.length c, .int .i64 n, .int .i64 m]) ∧ l.length ≤ c ∧ Sl w' w'.heap.size A l ∧ Below w.heap.size w w'
/-- One result: a slice of bytes. -/
def RetSl (w : World) (l : List UInt8) (e : Ending) (w' : World) : Prop :=
  ∃ A c, e = .returned (.slice A l.length c) ∧ l.length ≤ c ∧ Sl w' w'.heap.size A l ∧ Below w.heap.size w w'
end Go.Proofs.YthcnjiigkmljnaaGreatDoor
/-
  Two digits of each byte, the high one first, in capitals, as plain lists; what a byte is to the program.
-/
namespace Go.Proofs.YthcnjiigkmljnaaGreatDoor
open Go.RowKit

/-- A digit, in capitals. -/
def hd (n : Nat) : UInt8 := if n < 10 then UInt8.ofNat (48 + n) else UInt8.ofNat (55 + n)
def hx (b : UInt8) : List UInt8 := [hd (b.toNat / 16), hd (b.toNat % 16)]
def hexL (l : List UInt8) : List UInt8 := l.flatMap hx
theorem hexL_length (l : List UInt8) : (hexL l).length = 2 * l.length := by
  induction l with
  | nil => rfl
  | cons b l ih => simp [hexL, hx] at ih ⊢; omega
theorem hexL_snoc (l : List UInt8) (k : Nat) (h : k < l.length) : hexL (l.take (k + 1)) = hexL (l.take k) ++ hx (l[k]?.getD 0) := by
  rw [List.take_succ_eq_append_getElem h]
  rw [hexL, List.flatMap_append, List.getElem?_eq_getElem h]
  simp [hexL]
theorem hexL_append (a b : List UInt8) : hexL (a ++ b) = hexL a ++ hexL b := by simp [hexL]
theorem caps_fin : ∀ n : Fin 16, (ByteArray.mk #[48, 49, 50, 51, 52, 53, 54, 55, 56, 57, 65, 66, 67, 68, 69, 70])[n.val]'n.isLt = hd n.val := by decide
/-- The constant's letters are the digits. -/
theorem caps (n : Nat) (h : n < (ByteArray.mk #[48, 49, 50, 51, 52, 53, 54, 55, 56, 57, 65, 66, 67, 68, 69, 70]).size) :
    (ByteArray.mk #[48, 49, 50, 51, 52, 53, 54, 55, 56, 57, 65, 66, 67, 68, 69, 70])[n]'h = hd n := caps_fin ⟨n, h⟩
theorem info8 : (Tryz.prog.info? 5).map (fun i => (i.zero, i.size, i.bytes)) = some (some (.int .u8 0), 1, 1) := by kernel_rfl
end Go.Proofs.YthcnjiigkmljnaaGreatDoor
/-
  Layer 3 as plain functions of lists of bytes: classes, what is skipped, words, numbers, names read and written; and what follows of these.
-/
namespace Go.Proofs.YthcnjiigkmljnaaGreatDoor

/-! ### Classes -/
def dl (c : Int) : Prop := c = 40 ∨ c = 60 ∨ c = 91 ∨ c = 123 ∨ c = 41 ∨ c = 62 ∨ c = 93 ∨ c = 125 ∨ c = 47 ∨ c = 37
instance (c : Int) : Decidable (dl c) := by unfold dl; infer_instance
def cls (c : Int) : Int := if dl c then 2 else if kz c = 1 then 1 else 0
def cb (b : UInt8) : Int := cls (b.toNat : Int)
theorem cls_cases (c : Int) : cls c = 0 ∨ cls c = 1 ∨ cls c = 2 := by
  unfold cls; repeat' split
  all_goals simp
theorem drop_at {l : List UInt8} {k : Nat} {x : UInt8} (h : k < l.length) (hx : x = l[k]?.getD 0) : l.drop k = x :: l.drop (k + 1) := by
  rw [List.drop_eq_getElem_cons h, hx, List.getElem?_eq_getElem h]; rfl
theorem take_at {l : List UInt8} {k : Nat} {x : UInt8} (h : k < l.length) (hx : x = l[k]?.getD 0) : l.take (k + 1) = l.take k ++ [x] := by
  rw [List.take_succ_eq_append_getElem h, hx, List.getElem?_eq_getElem h]; rfl
theorem eq_of_toNat {x y : UInt8} (h : x.toNat = y.toNat) : x = y := UInt8.toNat_inj.1 h

/-! ### Places -/
def pl (n : Nat) (a : Int) : Nat := min a.toNat n
theorem pl_le (n : Nat) (a : Int) : pl n a ≤ n := Nat.min_le_right _ _
theorem pl_of (n k : Nat) (h : k ≤ n) : pl n (k : Int) = k := by unfold pl; omega

/-! ### What is skipped -/
def nl (b : UInt8) : Bool := b == 10 || b == 13
def wh (b : UInt8) : Bool := kb b == 1
def sk : Bool → List UInt8 → Nat
  | _, [] => 0
  | true, b :: t => sk (!nl b) t + 1
  | false, b :: t => if b = 37 then sk true t + 1 else if wh b then sk false t + 1 else 0
theorem sk_nil (r : Bool) : sk r [] = 0 := by cases r <;> rfl
theorem sk_t (b : UInt8) (t : List UInt8) : sk true (b :: t) = sk (!nl b) t + 1 := rfl
theorem sk_rem (t : List UInt8) : sk false (37 :: t) = sk true t + 1 := rfl
theorem sk_wh {b : UInt8} (t : List UInt8) (h : b ≠ 37) (hw : wh b = true) : sk false (b :: t) = sk false t + 1 := by show (if b = 37 then _ else _) = _; rw [if_neg h, if_pos hw]
theorem sk_no {b : UInt8} (t : List UInt8) (h : b ≠ 37) (hw : wh b = false) : sk false (b :: t) = 0 := by show (if b = 37 then _ else _) = _; rw [if_neg h, hw]; rfl
def eol : List UInt8 → Nat
  | [] => 0
  | b :: t => if nl b then 0 else eol t + 1
theorem eol_le : ∀ l : List UInt8, eol l ≤ l.length
  | [] => Nat.le_refl _
  | b :: t => by have := eol_le t; unfold eol; split <;> simp <;> omega
theorem sk_le : ∀ (l : List UInt8) (r : Bool), sk r l ≤ l.length
  | [], r => by cases r <;> simp [sk]
  | b :: t, true => by have := sk_le t (!nl b); simp only [sk, List.length_cons]; omega
  | b :: t, false => by
    have h1 := sk_le t true
    have h2 := sk_le t false
    simp only [sk, List.length_cons]
    split
    · omega
    · split <;> omega
theorem eol_y {b : UInt8} (t : List UInt8) (h : nl b = true) : eol (b :: t) = 0 := by show (if nl b then _ else _) = _; rw [h]; rfl
theorem eol_n {b : UInt8} (t : List UInt8) (h : nl b = false) : eol (b :: t) = eol t + 1 := by show (if nl b then _ else _) = _; rw [h]; rfl
theorem sk_eol : ∀ l : List UInt8, sk true l = if eol l < l.length then eol l + 1 + sk false (l.drop (eol l + 1)) else l.length
  | [] => by simp [sk, eol]
  | b :: t => by
    have ih := sk_eol t
    rw [sk_t]
    cases hb : nl b with
    | true => rw [eol_y t hb]; simp; omega
    | false =>
      rw [eol_n t hb, Bool.not_false, ih, List.length_cons, List.drop_succ_cons]
      by_cases h : eol t < t.length
      · rw [if_pos h, if_pos (by omega)]; omega
      · rw [if_neg h, if_neg (by omega)]
theorem sk_end : ∀ (l : List UInt8) (r : Bool), sk false (l.drop (sk r l)) = 0
  | [], r => by cases r <;> simp [sk]
  | b :: t, true => by rw [sk_t, List.drop_succ_cons]; exact sk_end t _
  | b :: t, false => by
    by_cases h : b = 37
    · subst h; rw [sk_rem, List.drop_succ_cons]; exact sk_end t _
    · cases hw : wh b with
      | true => rw [sk_wh t h hw, List.drop_succ_cons]; exact sk_end t _
      | false => rw [sk_no t h hw, List.drop_zero, sk_no t h hw]
theorem sk_zero {x : UInt8} {t : List UInt8} (h : sk false (x :: t) = 0) : x ≠ 37 ∧ wh x = false := by
  by_cases hx : x = 37
  · subst hx; rw [sk_rem] at h; omega
  · cases hw : wh x with
    | true => rw [sk_wh t hx hw] at h; omega
    | false => exact ⟨hx, rfl⟩
theorem sk_remark (t : List UInt8) : sk false (37 :: t) = sk true (37 :: t) := by simp [sk, nl]
theorem sk_note : ∀ (f s : List UInt8), (∀ b ∈ f, nl b = false) → sk true (f ++ 10 :: s) = f.length + 1 + sk false s
  | [], s, _ => by simp [sk, nl]; omega
  | b :: f, s, h => by
    have ih := sk_note f s fun x hx => h x (by simp [hx])
    have hb := h b (by simp)
    simp only [List.cons_append, sk, hb, Bool.not_false, ih, List.length_cons]
    omega
theorem sk_text (f s : List UInt8) (h : ∀ b ∈ f, nl b = false) : sk false (([32, 37] ++ f ++ [10]) ++ s) = ([32, 37] ++ f ++ [10]).length + sk false s := by
  have e : ([32, 37] ++ f ++ [10]) ++ s = 32 :: 37 :: (f ++ 10 :: s) := by simp
  have hw : wh 32 = true := by decide
  rw [e, sk_wh _ (by decide) hw, sk_rem, sk_note f s h]
  simp; omega

/-! ### Words -/
def rg (b : UInt8) : Bool := cb b == 0
def wn : List UInt8 → Nat
  | [] => 0
  | b :: t => if rg b then wn t + 1 else 0
theorem wn_y {b : UInt8} (t : List UInt8) (h : rg b = true) : wn (b :: t) = wn t + 1 := by show (if rg b then _ else _) = _; rw [h]; rfl
theorem wn_n {b : UInt8} (t : List UInt8) (h : rg b = false) : wn (b :: t) = 0 := by show (if rg b then _ else _) = _; rw [h]; rfl
theorem wn_le : ∀ l : List UInt8, wn l ≤ l.length
  | [] => Nat.le_refl _
  | b :: t => by have := wn_le t; unfold wn; split <;> simp <;> omega
theorem wn_stop : ∀ (l : List UInt8), wn l < l.length → rg (l[wn l]?.getD 0) = false
  | [], h => by simp [wn] at h
  | b :: t, h => by
    unfold wn at h ⊢
    cases hb : rg b with
    | true => rw [hb] at h; simp at h ⊢; exact wn_stop t h
    | false => simp [hb]
theorem wn_in : ∀ (l : List UInt8) (j : Nat), j < wn l → rg (l[j]?.getD 0) = true
  | [], j, h => by simp [wn] at h
  | b :: t, j, h => by
    unfold wn at h
    cases hb : rg b with
    | false => rw [hb] at h; simp at h
    | true =>
      rw [hb] at h; simp at h
      cases j with
      | zero => simpa using hb
      | succ j => simpa using wn_in t j (by omega)
theorem wn_drop : ∀ (l : List UInt8) (j : Nat), j ≤ wn l → wn (l.drop j) + j = wn l
  | [], j, h => by simp [wn] at h; simp [wn, h]
  | b :: t, j, h => by
    cases j with
    | zero => rfl
    | succ j =>
      cases hb : rg b with
      | false => rw [wn_n t hb] at h; omega
      | true =>
        rw [wn_y t hb] at h ⊢
        have := wn_drop t j (by omega)
        rw [List.drop_succ_cons]
        omega
theorem wn_all : ∀ (t r : List UInt8) (x : UInt8), (∀ b ∈ t, rg b = true) → rg x = false → wn (t ++ x :: r) = t.length
  | [], r, x, _, hx => by simp [wn, hx]
  | b :: t, r, x, h, hx => by
    have ih := wn_all t r x (fun y hy => h y (by simp [hy])) hx
    simp [wn, h b (by simp), ih]

/-! ### Numbers -/
def dg (b : UInt8) : Bool := decide (48 ≤ b.toNat) && decide (b.toNat ≤ 57)
def valF (a : Nat) (l : List UInt8) : Nat := l.foldl (fun v b => v * 10 + (b.toNat - 48)) a
def val (l : List UInt8) : Nat := valF 0 l
theorem val_snoc (l : List UInt8) (b : UInt8) : val (l ++ [b]) = val l * 10 + (b.toNat - 48) := by simp [val, valF]
theorem valF_cons (a : Nat) (b : UInt8) (l : List UInt8) : valF a (b :: l) = valF (a * 10 + (b.toNat - 48)) l := by simp only [valF, List.foldl_cons]
theorem val_zero (l : List UInt8) : val (48 :: l) = val l := by
  have e : 0 * 10 + ((48 : UInt8).toNat - 48) = 0 := by decide
  unfold val; rw [valF_cons, e]
theorem val_zeros (m : Nat) (l : List UInt8) : val (List.replicate m 48 ++ l) = val l := by
  induction m with
  | zero => rfl
  | succ m ih => rw [List.replicate_succ, List.cons_append, val_zero]; exact ih
def ng : List UInt8 → Bool
  | [] => false
  | b :: _ => b == 45
def bd : List UInt8 → List UInt8
  | [] => []
  | b :: t => if b == 45 || b == 43 then t else b :: t
def sgn (l : List UInt8) : Int := if ng l then -1 else 1
def okD (d : List UInt8) : Bool := !d.isEmpty && d.all dg
def iv (l : List UInt8) : Int := sgn l * (val (bd l) : Int)
def inR (v : Int) : Bool := decide (-2147483648 ≤ v) && decide (v ≤ 2147483647)
def inN (l : List UInt8) : Int := if okD (bd l) && inR (iv l) then iv l else 0
def inE (l : List UInt8) : Int := if okD (bd l) then (if inR (iv l) then 0 else 4) else 3
theorem bd_le (l : List UInt8) : (bd l).length ≤ l.length := by
  cases l with
  | nil => exact Nat.le_refl _
  | cons b t =>
    show (if b == 45 || b == 43 then t else b :: t).length ≤ _
    split <;> simp
theorem sgn_cases (l : List UInt8) : sgn l = 1 ∨ sgn l = -1 := by unfold sgn; split <;> simp
theorem in_form {l : List UInt8} (h : okD (bd l) = false) : inN l = 0 ∧ inE l = 3 := by simp [inN, inE, h]
theorem in_big {l : List UInt8} (h : okD (bd l) = true) (hr : inR (iv l) = false) : inN l = 0 ∧ inE l = 4 := by simp [inN, inE, h, hr]
theorem in_ok {l : List UInt8} (h : okD (bd l) = true) (hr : inR (iv l) = true) : inN l = iv l ∧ inE l = 0 := by simp [inN, inE, h, hr]
theorem in_cases (l : List UInt8) : (inN l = 0 ∧ inE l = 3) ∨ (inN l = 0 ∧ inE l = 4) ∨ (okD (bd l) = true ∧ inR (iv l) = true ∧ inN l = iv l ∧ inE l = 0) := by
  cases h : okD (bd l) with
  | false => exact .inl (in_form h)
  | true =>
    cases hr : inR (iv l) with
    | false => exact .inr (.inl (in_big h hr))
    | true => exact .inr (.inr ⟨rfl, rfl, in_ok h hr⟩)
theorem okD_iff {d : List UInt8} : okD d = true ↔ d ≠ [] ∧ ∀ b ∈ d, dg b = true := by
  unfold okD
  simp only [Bool.and_eq_true, Bool.not_eq_true', List.isEmpty_eq_false_iff, List.all_eq_true]
theorem dg_iff {b : UInt8} : dg b = true ↔ 48 ≤ b.toNat ∧ b.toNat ≤ 57 := by simp [dg]
/-- A text that begins with a digit has no sign. -/
theorem bd_digit {b : UInt8} {t : List UInt8} (h : dg b = true) : bd (b :: t) = b :: t ∧ ng (b :: t) = false := by
  rw [dg_iff] at h
  have h1 : (b == 45) = false := by rw [beq_eq_false_iff_ne]; rintro rfl; simp at h
  have h2 : (b == 43) = false := by rw [beq_eq_false_iff_ne]; rintro rfl; simp at h
  simp [bd, ng, h1, h2]
theorem bd_okD {d : List UInt8} (h : okD d = true) : bd d = d ∧ ng d = false := by
  rw [okD_iff] at h
  cases d with
  | nil => exact absurd rfl h.1
  | cons b t => exact bd_digit (h.2 b (by simp))
/-- Of digits alone. -/
theorem in_digits {d : List UInt8} (h : okD d = true) : (val d ≤ 2147483647 → inN d = (val d : Int) ∧ inE d = 0) ∧ (2147483647 < val d → inN d = 0 ∧ inE d = 4) := by
  obtain ⟨h1, h2⟩ := bd_okD h
  have hi : iv d = (val d : Int) := by simp [iv, sgn, h1, h2]
  constructor
  · intro hv
    rw [← hi]
    exact in_ok (by rw [h1]; exact h) (by simp only [inR, hi, Bool.and_eq_true, decide_eq_true_eq]; omega)
  · intro hv
    exact in_big (by rw [h1]; exact h) (by simp only [inR, hi, Bool.and_eq_false_iff, decide_eq_false_iff_not]; omega)
/-- Of digits behind "-". -/
theorem in_minus {d : List UInt8} (h : okD d = true) (hv : val d ≤ 2147483648) : inN (45 :: d) = -(val d : Int) ∧ inE (45 :: d) = 0 := by
  have h1 : bd (45 :: d) = d := by simp [bd]
  have hi : iv (45 :: d) = -(val d : Int) := by simp [iv, sgn, h1, ng]
  rw [← hi]
  exact in_ok (by rw [h1]; exact h) (by simp only [inR, hi, Bool.and_eq_true, decide_eq_true_eq]; omega)
/-- Of digits behind "+". -/
theorem in_plus {d : List UInt8} (h : okD d = true) (hv : val d ≤ 2147483647) : inN (43 :: d) = (val d : Int) ∧ inE (43 :: d) = 0 := by
  have h1 : bd (43 :: d) = d := by simp [bd]
  have hi : iv (43 :: d) = (val d : Int) := by simp [iv, sgn, h1, ng]
  rw [← hi]
  exact in_ok (by rw [h1]; exact h) (by simp only [inR, hi, Bool.and_eq_true, decide_eq_true_eq]; omega)
theorem in_twice {b : UInt8} {t : List UInt8} (h : b = 45 ∨ b = 43) : inE (43 :: b :: t) = 3 := by
  have h1 : bd (43 :: b :: t) = b :: t := by simp [bd]
  refine (in_form ?_).2
  rw [h1]
  rcases h with rfl | rfl <;> simp [okD, dg]
theorem okD_zeros {d : List UInt8} (h : okD d = true) (m : Nat) : okD (List.replicate m 48 ++ d) = true := by
  rw [okD_iff] at h ⊢
  refine ⟨by simp [h.1], fun b hb => ?_⟩
  rcases List.mem_append.1 hb with hb | hb
  · rw [List.eq_of_mem_replicate hb]; decide
  · exact h.2 b hb
theorem okD_snoc {d : List UInt8} (h : okD d = true) {b : UInt8} (hb : dg b = true) : okD (d ++ [b]) = true := by
  rw [okD_iff] at h ⊢
  refine ⟨by simp, fun y hy => ?_⟩
  rcases List.mem_append.1 hy with hy | hy
  · exact h.2 y hy
  · simp at hy; rw [hy]; exact hb

/-! ### Names -/
def esc : List UInt8 → Option UInt8
  | c :: a :: b :: _ => if c = 35 ∧ 2 ≤ kb a ∧ 2 ≤ kb b then some (UInt8.ofNat (16 * (kb a - 2).toNat + (kb b - 2).toNat)) else none
  | _ => none
def nameL : List UInt8 → List UInt8
  | [] => []
  | c :: t => match esc (c :: t) with
    | some v => v :: nameL (t.drop 2)
    | none => c :: nameL t
termination_by l => l.length
decreasing_by all_goals (simp; try omega)
theorem esc_3 (c a b : UInt8) (r : List UInt8) : esc (c :: a :: b :: r) = if c = 35 ∧ 2 ≤ kb a ∧ 2 ≤ kb b then some (UInt8.ofNat (16 * (kb a - 2).toNat + (kb b - 2).toNat)) else none := rfl
theorem nameL_nil : nameL [] = [] := by rw [nameL]
theorem nameL_some {c v : UInt8} {t : List UInt8} (h : esc (c :: t) = some v) : nameL (c :: t) = v :: nameL (t.drop 2) := by rw [nameL, h]
theorem nameL_none {c : UInt8} {t : List UInt8} (h : esc (c :: t) = none) : nameL (c :: t) = c :: nameL t := by rw [nameL, h]
theorem esc_len {c v : UInt8} {t : List UInt8} (h : esc (c :: t) = some v) : 2 ≤ t.length ∧ c = 35 := by
  match t, h with
  | [], h => simp [esc] at h
  | [a], h => simp [esc] at h
  | a :: b :: r, h =>
    rw [esc_3] at h
    by_cases hc : c = 35 ∧ 2 ≤ kb a ∧ 2 ≤ kb b
    · exact ⟨by simp, hc.1⟩
    · rw [if_neg hc] at h; cases h
theorem nameL_le (n : Nat) : ∀ l : List UInt8, l.length ≤ n → (nameL l).length ≤ l.length := by
  induction n with
  | zero => intro l h; cases l with
    | nil => simp [nameL_nil]
    | cons c t => simp at h
  | succ n ih =>
    intro l h
    cases l with
    | nil => simp [nameL_nil]
    | cons c t =>
      simp only [List.length_cons] at h
      cases he : esc (c :: t) with
      | none => rw [nameL_none he]; have := ih t (by omega); simp; omega
      | some v => rw [nameL_some he]; have := ih (t.drop 2) (by rw [List.length_drop]; omega); rw [List.length_drop] at this; simp; omega
theorem nameL_length (l : List UInt8) : (nameL l).length ≤ l.length := nameL_le _ l (Nat.le_refl _)
/-- Must a byte be written by digits? -/
def need (b : UInt8) : Bool := b == 35 || decide (b.toNat < 33) || decide (126 < b.toNat) || !rg b
def wb (b : UInt8) : List UInt8 := if need b then 35 :: hx b else [b]
def wrL (l : List UInt8) : List UInt8 := l.flatMap wb
theorem wrL_cons (b : UInt8) (l : List UInt8) : wrL (b :: l) = wb b ++ wrL l := by simp [wrL]
theorem wb_length (b : UInt8) : 1 ≤ (wb b).length ∧ (wb b).length ≤ 3 := by unfold wb; split <;> simp [hx]
theorem wrL_length (l : List UInt8) : l.length ≤ (wrL l).length ∧ (wrL l).length ≤ 3 * l.length := by
  induction l with
  | nil => simp [wrL]
  | cons b l ih => have := wb_length b; rw [wrL_cons, List.length_append, List.length_cons]; omega
theorem wrL_plain {l : List UInt8} (h : ∀ b ∈ l, need b = false) : wrL l = l := by
  induction l with
  | nil => rfl
  | cons b l ih => rw [wrL_cons, ih fun x hx => h x (by simp [hx])]; simp [wb, h b (by simp)]
theorem wrL_not {l : List UInt8} {b : UInt8} (hb : b ∈ l) (hn : need b = true) : l.length < (wrL l).length := by
  induction l with
  | nil => simp at hb
  | cons c l ih =>
    rw [wrL_cons, List.length_append, List.length_cons]
    have h1 := wrL_length l
    have h2 := wb_length c
    rcases List.mem_cons.1 hb with rfl | hb
    · have : (wb b).length = 3 := by simp [wb, hn, hx]
      omega
    · have := ih hb; omega
theorem name_plain {l : List UInt8} (h : ∀ b ∈ l, need b = false) : nameL l = l := by
  induction l with
  | nil => exact nameL_nil
  | cons c t ih =>
    have hc : c ≠ 35 := by rintro rfl; have := h 35 (by simp); simp [need] at this
    cases he : esc (c :: t) with
    | none => rw [nameL_none he, ih fun x hx => h x (by simp [hx])]
    | some v => exact absurd (esc_len he).2 hc
theorem kb_hdF : ∀ n : Fin 16, kb (hd n.val) = (n.val : Int) + 2 := by decide
theorem esc_hx (b : UInt8) (r : List UInt8) : esc (35 :: (hx b ++ r)) = some b := by
  have hb := b.toNat_lt
  have h1 := kb_hdF ⟨b.toNat / 16, by omega⟩
  have h2 := kb_hdF ⟨b.toNat % 16, by omega⟩
  simp only at h1 h2
  show esc (35 :: hd (b.toNat / 16) :: hd (b.toNat % 16) :: r) = some b
  rw [esc_3, h1, h2, if_pos ⟨rfl, by omega, by omega⟩]
  congr 1
  apply eq_of_toNat
  have e : 16 * ((((b.toNat / 16 : Nat) : Int) + 2 - 2).toNat) + (((b.toNat % 16 : Nat) : Int) + 2 - 2).toNat = b.toNat := by omega
  rw [e]
  simp
/-- What is written is read again. -/
theorem name_wrL (l : List UInt8) : nameL (wrL l) = l := by
  induction l with
  | nil => exact nameL_nil
  | cons b l ih =>
    rw [wrL_cons]
    unfold wb
    cases hn : need b with
    | true =>
      simp only [if_true, List.cons_append]
      rw [nameL_some (esc_hx b (wrL l))]
      simp only [hx, List.cons_append, List.nil_append, List.drop_succ_cons, List.drop_zero, ih]
    | false =>
      simp only [Bool.false_eq_true, if_false, List.cons_append, List.nil_append]
      have hc : b ≠ 35 := by rintro rfl; simp [need] at hn
      cases he : esc (b :: wrL l) with
      | none => rw [nameL_none he, ih]
      | some v => exact absurd (esc_len he).2 hc
/-- Each byte that is written may be seen, and is regular. -/
def sn (b : UInt8) : Bool := decide (33 ≤ b.toNat) && decide (b.toNat ≤ 126) && rg b
theorem sn_hd : ∀ n : Fin 16, sn (hd n.val) = true := by decide
theorem sn_wrL (l : List UInt8) : ∀ b ∈ wrL l, sn b = true := by
  intro b hb
  simp only [wrL, List.mem_flatMap] at hb
  obtain ⟨c, _, hc⟩ := hb
  unfold wb at hc
  cases hn : need c with
  | true =>
    rw [hn] at hc
    have hlt := c.toNat_lt
    simp only [if_true, hx, List.mem_cons, List.not_mem_nil, or_false] at hc
    rcases hc with rfl | rfl | rfl
    · decide
    · exact sn_hd ⟨c.toNat / 16, by omega⟩
    · exact sn_hd ⟨c.toNat % 16, by omega⟩
  | false =>
    rw [hn] at hc
    simp at hc
    subst hc
    simp only [need, Bool.or_eq_false_iff, decide_eq_false_iff_not, Bool.not_eq_false'] at hn
    simp only [sn, Bool.and_eq_true, decide_eq_true_eq]
    exact ⟨⟨by omega, by omega⟩, hn.2⟩
end Go.Proofs.YthcnjiigkmljnaaGreatDoor
/-
  Layer 4 as plain functions of lists of bytes: a token at the head of a text, all tokens of a text, tokens written.
-/
namespace Go.Proofs.YthcnjiigkmljnaaGreatDoor

/-- A token at the head of a text: its kind, number and text, how many bytes it takes; or (e not 0) an error, and its place. -/
structure Rd where
  kind : Int
  n : Int
  s : List UInt8
  k : Nat
  e : Int
def okR (kind n : Int) (s : List UInt8) (k : Nat) : Rd := ⟨kind, n, s, k, 0⟩
def noR (k : Nat) (e : Int) : Rd := ⟨0, 0, [], k, e⟩

/-! ### Strings -/
/-- A digit of 0 to 7. -/
def od (b : UInt8) : Bool := decide (48 ≤ b.toNat) && decide (b.toNat ≤ 55)
def on : Nat → List UInt8 → Nat
  | 0, _ => 0
  | _ + 1, [] => 0
  | m + 1, b :: t => if od b then on m t + 1 else 0
/-- How many of them, three at most. -/
def octN (d : List UInt8) : Nat := on 3 d
def octF (v : Nat) (l : List UInt8) : Nat := l.foldl (fun v b => v * 8 + (b.toNat - 48)) v
def octB (d : List UInt8) : UInt8 := UInt8.ofNat (octF 0 (d.take (octN d)))
/-- How many bytes the end of a line has. -/
def len : List UInt8 → Nat
  | [] => 0
  | b :: t => if b = 13 then (if t.head? = some 10 then 2 else 1) else if b = 10 then 1 else 0
def esc1 (b : UInt8) : UInt8 := if b = 110 then 10 else if b = 114 then 13 else if b = 116 then 9 else if b = 98 then 8 else if b = 102 then 12 else b
/-- What a backslash tells that a text stands behind, and how many bytes of it it takes. -/
def esB (d : List UInt8) : List UInt8 := if len d = 0 then (if octN d = 0 then (match d with | [] => [] | b :: _ => [esc1 b]) else [octB d]) else []
def esN (d : List UInt8) : Nat := if len d = 0 then (if octN d = 0 then (match d with | [] => 0 | _ :: _ => 1) else octN d) else len d

inductive Stp where
  | stop (k : Nat) (e : Int)
  | go (o : List UInt8) (n : Nat) (deep : Nat)
/-- A step in a string. -/
def stp (deep : Nat) : List UInt8 → Stp
  | [] => .stop 0 2
  | b :: t => if b = 40 then (if deep = 32 then .stop 0 5 else .go [40] 1 (deep + 1)) else if b = 41 then (if deep = 1 then .stop 1 0 else .go [41] 1 (deep - 1)) else if b = 92 then .go (esB t) (1 + esN t) deep else if b = 13 then .go [10] (len (b :: t)) deep else .go [b] 1 deep
structure Sr where
  s : List UInt8
  k : Nat
  e : Int
def Sr.add (o : List UInt8) (n : Nat) (r : Sr) : Sr := ⟨o ++ r.s, n + r.k, r.e⟩
theorem stp_pos {deep : Nat} {d o : List UInt8} {n deep' : Nat} (h : stp deep d = .go o n deep') : 0 < n ∧ d ≠ [] := by
  cases d with
  | nil => simp [stp] at h
  | cons b t =>
    refine ⟨?_, by simp⟩
    simp only [stp] at h
    repeat' split at h
    all_goals first | cases h | skip
    all_goals first | omega | (simp only [len]; split <;> first | (split <;> omega) | contradiction)
/-- All of a string's bytes behind its first bracket. -/
def strT (deep : Nat) (d : List UInt8) : Sr :=
  match _h : stp deep d with
  | .stop k e => ⟨[], k, e⟩
  | .go o n deep' => Sr.add o n (strT deep' (d.drop n))
termination_by d.length
decreasing_by
  obtain ⟨h1, h2⟩ := stp_pos _h
  have := List.length_pos_iff.2 h2
  rw [List.length_drop]
  omega

/-! ### Tokens -/
/-- How many bytes stand ahead of the first ">". -/
def gt : List UInt8 → Nat
  | [] => 0
  | b :: t => if b = 62 then 0 else gt t + 1
def tkHex (t : List UInt8) : Rd :=
  if gt t < t.length then (if unE (t.take (gt t)) = 0 then okR 4 0 (unB (t.take (gt t))) (gt t + 2) else noR (1 + bad (t.take (gt t))) (unE (t.take (gt t)))) else noR (1 + t.length) 2
def tkStr (t : List UInt8) : Rd := if (strT 1 t).e = 0 then okR 5 0 (strT 1 t).s (1 + (strT 1 t).k) else noR (1 + (strT 1 t).k) (strT 1 t).e
def tkWord (d : List UInt8) : Rd :=
  if inE (d.take (wn d)) = 0 then okR 1 (inN (d.take (wn d))) [] (wn d) else if inE (d.take (wn d)) = 3 then okR 3 0 (d.take (wn d)) (wn d) else noR 0 (inE (d.take (wn d)))
/-- The kind of the mark at the head, 0 if there is none. -/
def mk : List UInt8 → Nat
  | [] => 0
  | b :: t => if b = 91 then 6 else if b = 93 then 7 else if b = 60 then (if t.head? = some 60 then 8 else 0) else if b = 62 then (if t.head? = some 62 then 9 else 0) else if b = 123 then 10 else if b = 125 then 11 else 0
def mkL (n : Nat) : List UInt8 := if n = 6 then [91] else if n = 7 then [93] else if n = 8 then [60, 60] else if n = 9 then [62, 62] else if n = 10 then [123] else if n = 11 then [125] else []
/-- The token at the head of a text that begins with no blank and no remark. -/
def tk (d : List UInt8) : Rd :=
  if mk d = 0 then
    match d with
    | [] => noR 0 0
    | b :: t => if b = 41 ∨ b = 62 then noR 0 3 else if b = 47 then okR 2 0 (nameL (t.take (wn t))) (1 + wn t) else if b = 60 then tkHex t else if b = 40 then tkStr t else tkWord (b :: t)
  else okR (mk d) 0 [] (mkL (mk d)).length

/-- A token, with its place. -/
structure Tk where
  kind : Int
  at_ : Int
  n : Int
  s : List UInt8
def Rd.tok (r : Rd) (p : Nat) : Tk := ⟨r.kind, p, r.n, r.s⟩
/-- All tokens of a text that begins at a place; how many bytes it has, or an error and its place. -/
structure Al where
  l : List Tk
  k : Nat
  e : Int
def Al.add (t : Tk) (a : Al) : Al := if a.e = 0 then ⟨t :: a.l, a.k, 0⟩ else a
def all (p : Nat) (d : List UInt8) : Al :=
  if d.length ≤ sk false d then ⟨[], p + d.length, 0⟩
  else
    let r := tk (d.drop (sk false d))
    if r.e = 0 then Al.add (r.tok (p + sk false d)) (all (p + sk false d + r.k) (d.drop (sk false d + max 1 r.k)))
    else ⟨[], p + sk false d + r.k, r.e⟩
termination_by d.length
decreasing_by rw [List.length_drop]; omega

/-! ### Written -/
def sneed (b : UInt8) : Bool := b == 40 || b == 41 || b == 92 || decide (b.toNat < 32) || decide (126 < b.toNat)
def sb (b : UInt8) : List UInt8 := if sneed b then [92, UInt8.ofNat (48 + b.toNat / 64), UInt8.ofNat (48 + b.toNat / 8 % 8), UInt8.ofNat (48 + b.toNat % 8)] else [b]
def qL (l : List UInt8) : List UInt8 := l.flatMap sb
def sh (t : Tk) : List UInt8 :=
  if t.kind = 1 then Lib.itoa t.n else if t.kind = 2 then 47 :: wrL t.s else if t.kind = 3 then t.s else if t.kind = 4 then 60 :: (hexL t.s ++ [62]) else if t.kind = 5 then 40 :: (qL t.s ++ [41]) else mkL t.kind.toNat
/-- Several, a blank between each two. -/
def jn : List (List UInt8) → List UInt8
  | [] => []
  | [a] => a
  | a :: b :: r => a ++ 32 :: jn (b :: r)
def txL (l : List Tk) : List UInt8 := jn (l.map sh)
end Go.Proofs.YthcnjiigkmljnaaGreatDoor
/-
  A token as a value; a token that a call hands back lies in a block of its own.
-/
namespace Go.Proofs.YthcnjiigkmljnaaGreatDoor
open Go.RowKit

/-- A token as a value. -/
def tv (t : Tk) : Value := .agg #[.int .i64 t.kind, .int .i64 t.at_, .int .i64 t.n, .string (str t.s)]
/-- The token that is none. -/
def noT : Tk := ⟨0, 0, 0, []⟩
/-- What a call that reads at p hands back: a token, a place, an error. -/
def rT (p : Nat) (r : Rd) : Tk := if r.e = 0 then r.tok p else noT
def rv (p : Nat) (r : Rd) : Value := .tuple #[tv (rT p r), .int .i64 ((p + r.k : Nat) : Int), .int .i64 r.e]
theorem rv_ok (p : Nat) (kind n : Int) (s : List UInt8) (k : Nat) : rv p (okR kind n s k) = .tuple #[.agg #[.int .i64 kind, .int .i64 (p : Int), .int .i64 n, .string (str s)], .int .i64 ((p : Int) + (k : Int)), .int .i64 0] := by
  simp [rv, rT, okR, Rd.tok, tv]
theorem rv_no (p k : Nat) (e : Int) (h : e ≠ 0) : rv p (noR k e) = .tuple #[.agg #[.int .i64 0, .int .i64 0, .int .i64 0, .string ⟨#[]⟩], .int .i64 ((p : Int) + (k : Int)), .int .i64 e] := by
  simp [rv, rT, noR, h, noT, tv, str]

/-- The block of such a result, as it is made. -/
def tok0 : Obj := .cells #[.int .i64 0, .int .i64 0, .int .i64 0, .string ⟨#[]⟩] 42
theorem res_of {w w2 : World} (h : Below (w.alloc (.cells #[.int .i64 0, .int .i64 0, .int .i64 0, .string ⟨#[]⟩] 42)).heap.size (w.alloc (.cells #[.int .i64 0, .int .i64 0, .int .i64 0, .string ⟨#[]⟩] 42)) w2) :
    (w2.cell? ⟨w.heap.size, 0, none⟩ = some (.int .i64 0) ∧ w2.cell? ⟨w.heap.size, 1, none⟩ = some (.int .i64 0) ∧ w2.cell? ⟨w.heap.size, 2, none⟩ = some (.int .i64 0) ∧ w2.cell? ⟨w.heap.size, 3, none⟩ = some (.string ⟨#[]⟩)) ∧
    (w2.frozen? ⟨w.heap.size, 0, none⟩ = false ∧ w2.frozen? ⟨w.heap.size, 1, none⟩ = false ∧ w2.frozen? ⟨w.heap.size, 2, none⟩ = false ∧ w2.frozen? ⟨w.heap.size, 3, none⟩ = false) ∧ w.heap.size < w2.heap.size ∧ Below w.heap.size w w2 := by
  have hs := h.size
  simp at hs
  refine ⟨⟨?_, ?_, ?_, ?_⟩, ⟨?_, ?_, ?_, ?_⟩, by omega, ((Below.refl _ w).alloc (Nat.le_refl _) _).trans (h.mono (by simp))⟩
  · exact (h.cell (p := ⟨w.heap.size, 0, none⟩) (by simp)).trans (by simp)
  · exact (h.cell (p := ⟨w.heap.size, 1, none⟩) (by simp)).trans (by simp)
  · exact (h.cell (p := ⟨w.heap.size, 2, none⟩) (by simp)).trans (by simp)
  · exact (h.cell (p := ⟨w.heap.size, 3, none⟩) (by simp)).trans (by simp)
  · exact (h.frozen (p := ⟨w.heap.size, 0, none⟩) (by simp)).trans (by simp)
  · exact (h.frozen (p := ⟨w.heap.size, 1, none⟩) (by simp)).trans (by simp)
  · exact (h.frozen (p := ⟨w.heap.size, 2, none⟩) (by simp)).trans (by simp)
  · exact (h.frozen (p := ⟨w.heap.size, 3, none⟩) (by simp)).trans (by simp)
theorem below_4 {w w2 : World} {S : Nat} (h : Below w.heap.size w w2) (hS : w.heap.size ≤ S) (a b c d : Value) : Below w.heap.size w ((((w2.setCell ⟨S, 0, none⟩ a).setCell ⟨S, 1, none⟩ b).setCell ⟨S, 2, none⟩ c).setCell ⟨S, 3, none⟩ d) :=
  (((h.setCell hS _).setCell hS _).setCell hS _).setCell hS _
end Go.Proofs.YthcnjiigkmljnaaGreatDoor
/-
  Tokens in memory: a slice that holds a list of tokens, four cells each; what a call hands back.
-/
namespace Go.Proofs.YthcnjiigkmljnaaGreatDoor
open Go.RowKit

/-- Tokens as cells. -/
def tq (t : Tk) : List Value := [.int .i64 t.kind, .int .i64 t.at_, .int .i64 t.n, .string (str t.s)]
def tvs (l : List Tk) : List Value := l.flatMap tq
theorem tvs_cons (t : Tk) (l : List Tk) : tvs (t :: l) = tq t ++ tvs l := by simp [tvs]
theorem tvs_append (a b : List Tk) : tvs (a ++ b) = tvs a ++ tvs b := by simp [tvs]
theorem tvs_length : ∀ l : List Tk, (tvs l).length = l.length * 4
  | [] => rfl
  | t :: l => by rw [tvs_cons, List.length_append, tvs_length l, List.length_cons]; simp [tq]; omega
theorem tvs_one (l : List Tk) : ∀ u ∈ tvs l, u.oneCell' = true := by
  intro u hu
  simp only [tvs, List.mem_flatMap, tq, List.mem_cons, List.not_mem_nil, or_false] at hu
  obtain ⟨t, _, rfl | rfl | rfl | rfl⟩ := hu <;> rfl
/-- The token at a place of a list. -/
def tg (l : List Tk) (j : Nat) : Tk := l[j]?.getD noT
theorem tg_zero (t : Tk) (l : List Tk) : tg (t :: l) 0 = t := rfl
theorem tg_succ (t : Tk) (l : List Tk) (j : Nat) : tg (t :: l) (j + 1) = tg l j := by simp [tg]
theorem tvs_get : ∀ (l : List Tk) (j i : Nat), j < l.length → i < 4 → (tvs l)[j * 4 + i]? = (tq (tg l j))[i]?
  | [], j, i, h, _ => by simp at h
  | t :: l, 0, i, _, hi => by
    rw [tvs_cons, Nat.zero_mul, Nat.zero_add, List.getElem?_append_left (by simpa [tq] using hi)]
    rfl
  | t :: l, j + 1, i, h, hi => by
    rw [tvs_cons, List.getElem?_append_right (by simp [tq]; omega), tg_succ, ← tvs_get l j i (by simpa using h) hi]
    congr 1
    simp [tq]
    omega
theorem tg_mem {l : List Tk} {j : Nat} (h : j < l.length) : tg l j ∈ l := by
  unfold tg
  rw [List.getElem?_eq_getElem h]
  exact List.getElem_mem h
theorem drop_tg {l : List Tk} {j : Nat} (h : j < l.length) : l.drop j = tg l j :: l.drop (j + 1) := by
  unfold tg
  rw [List.getElem?_eq_getElem h, List.drop_eq_getElem_cons h]
  rfl

/-- A slice at A holds the tokens l, below block B. -/
def St (w : World) (B : Nat) (A : Option Addr) (l : List Tk) : Prop :=
  0 < l.length → ∃ b o, A = some ⟨b, o, none⟩ ∧ b < B ∧ ∀ j, j < l.length →
    w.cell? ⟨b, o + j * 4, none⟩ = some (.int .i64 (tg l j).kind) ∧ w.cell? ⟨b, o + j * 4 + 1, none⟩ = some (.int .i64 (tg l j).at_) ∧ w.cell? ⟨b, o + j * 4 + 2, none⟩ = some (.int .i64 (tg l j).n) ∧ w.cell? ⟨b, o + j * 4 + 3, none⟩ = some (.string (str (tg l j).s))
section
variable {w w' : World} {B B' : Nat} {A : Option Addr} {l : List Tk}
theorem St.keep (h : St w B A l) (hk : ∀ p : Addr, p.block < B → w'.cell? p = w.cell? p) : St w' B A l := fun hn => by
  obtain ⟨b, o, e, hb, hc⟩ := h hn
  refine ⟨b, o, e, hb, fun j hj => ?_⟩
  obtain ⟨h0, h1, h2, h3⟩ := hc j hj
  exact ⟨(hk ⟨b, _, none⟩ hb).trans h0, (hk ⟨b, _, none⟩ hb).trans h1, (hk ⟨b, _, none⟩ hb).trans h2, (hk ⟨b, _, none⟩ hb).trans h3⟩
theorem St.below (h : St w B A l) (hb : Below B w w') : St w' B A l := h.keep fun _ hp => hb.cell hp
theorem St.more (h : St w B A l) (hB : B ≤ B') : St w B' A l := fun hn => by
  obtain ⟨b, o, e, hb, hc⟩ := h hn
  exact ⟨b, o, e, by omega, hc⟩
theorem St.over (h : St w w.heap.size A l) (hb : Below w.heap.size w w') : St w' w'.heap.size A l := (h.below hb).more hb.size
theorem St.nil : St w B A [] := fun h => absurd h (by simp)
theorem St.of_own {base : Nat} {e : TypeId} {v : Value} {n : Nat} (h : w.ownsRow base e 4 v n (tvs l)) : ∃ c, n = l.length ∧ n ≤ c ∧ ∃ A, v = .slice A l.length c ∧ St w w.heap.size A l := by
  have hl : n = l.length := by have := h.1; rw [tvs_length] at this; omega
  subst hl
  rcases h.2 with ⟨rfl, h0⟩ | ⟨g, cap, cur, rfl, hb, hg, hc, hm, hs, ht⟩
  · exact ⟨0, rfl, by omega, none, by rw [h0], fun hn => absurd hn (by omega)⟩
  · refine ⟨cap, rfl, hc, _, rfl, fun hn => ⟨g, 0, rfl, (Array.getElem?_eq_some_iff.1 hg).1, fun j hj => ?_⟩⟩
    have key : ∀ i u, i < 4 → (tq (tg l j))[i]? = some u → w.cell? ⟨g, 0 + j * 4 + i, none⟩ = some u := fun i u hi hu => by
      have := h.cells (g := g) rfl (j * 4 + i) u ((tvs_get l j i hj hi).trans hu)
      rwa [addr_add, ← Nat.add_assoc] at this
    exact ⟨key 0 _ (by omega) rfl, key 1 _ (by omega) rfl, key 2 _ (by omega) rfl, key 3 _ (by omega) rfl⟩
end
theorem own_belowN {w w' : World} {base n b size : Nat} {e : TypeId} {v : Value} {xs : List Value} (h : w.ownsRow base e size v n xs) (hb : Below b w w') (hB : w.heap.size ≤ b) : w'.ownsRow base e size v n xs := by
  refine ⟨h.1, ?_⟩
  rcases h.2 with hn | ⟨g, cap, cur, rfl, h1, hg, rest⟩
  · exact .inl hn
  · refine .inr ⟨g, cap, cur, rfl, h1, ?_, rest⟩
    have hlt := (Array.getElem?_eq_some_iff.1 hg).1
    rw [hb.block g (by omega)]
    exact hg
theorem infoT : (Tryz.prog.info? 42).map (fun i => (i.zero, i.size, i.bytes)) = some (some (.agg #[.int .i64 0, .int .i64 0, .int .i64 0, .string ⟨#[]⟩]), 4, 40) := by kernel_rfl
/-- Three results: tokens, a place, an error. -/
def RetTk (w : World) (a : Al) (e : Ending) (w' : World) : Prop :=
  ∃ A c, e = .returned (.tuple #[.slice A a.l.length c, .int .i64 (a.k : Int), .int .i64 a.e]) ∧ a.l.length ≤ c ∧ St w' w'.heap.size A a.l ∧ Below w.heap.size w w'
end Go.Proofs.YthcnjiigkmljnaaGreatDoor
/-
  Bits of whole numbers: 'or' of small ones, 'and' with a row of ones.
-/
namespace Go.Proofs.YthcnjiigkmljnaaGreatDoor
open Go.RowKit

theorem i64_or_nat (a b : Nat) (ha : a < 4611686018427387904) (hb : b < 4611686018427387904) : bits .or .i64 (a : Int) (b : Int) = ((a ||| b : Nat) : Int) := by
  have hx : a ||| b < 2 ^ 62 := Nat.or_lt_two_pow (by omega) (by omega)
  have h1 : (BitVec.ofInt 64 (a : Int)).toNat = a := by rw [BitVec.toNat_ofInt]; omega
  have h2 : (BitVec.ofInt 64 (b : Int)).toNat = b := by rw [BitVec.toNat_ofInt]; omega
  show IntKind.i64.wrap ((BitVec.ofInt 64 (a : Int) ||| BitVec.ofInt 64 (b : Int)).toNat : Int) = _
  rw [BitVec.toNat_or, h1, h2, IntKind.wrap_i64]
  omega
theorem or_byte (v : Int) (x : Nat) (h0 : 0 ≤ v) (h1 : v < 16777216) (hx : x < 256) : bits .or .i64 (v * 256) (x : Int) = v * 256 + x := by
  obtain ⟨n, rfl⟩ := Int.eq_ofNat_of_zero_le h0
  have h := i64_or_nat (n * 256) x (by omega) (by omega)
  rw [nat_join8 (n * 256) x (by omega) hx] at h
  simpa using h
theorem i64_mask16 (n : Int) : bits .and .i64 n 65535 = n % 65536 := by
  have h127 : (BitVec.ofInt 64 65535).toNat = 2 ^ 16 - 1 := by decide
  have key : (BitVec.ofInt 64 n &&& BitVec.ofInt 64 65535).toNat = (n % ((2 ^ 64 : Nat) : Int)).toNat % 2 ^ 16 := by
    rw [BitVec.toNat_and, BitVec.toNat_ofInt, h127, Nat.and_two_pow_sub_one_eq_mod]
  show IntKind.i64.wrap ((BitVec.ofInt 64 n &&& BitVec.ofInt 64 65535).toNat : Nat) = n % 65536
  rw [key, IntKind.wrap_i64]
  omega
theorem i64_mask4 (n : Int) : bits .and .i64 n 15 = n % 16 := by
  have h127 : (BitVec.ofInt 64 15).toNat = 2 ^ 4 - 1 := by decide
  have key : (BitVec.ofInt 64 n &&& BitVec.ofInt 64 15).toNat = (n % ((2 ^ 64 : Nat) : Int)).toNat % 2 ^ 4 := by
    rw [BitVec.toNat_and, BitVec.toNat_ofInt, h127, Nat.and_two_pow_sub_one_eq_mod]
  show IntKind.i64.wrap ((BitVec.ofInt 64 n &&& BitVec.ofInt 64 15).toNat : Nat) = n % 16
  rw [key, IntKind.wrap_i64]
  omega
theorem i64_mask31 (n : Int) : bits .and .i64 n 2147483647 = n % 2147483648 := by
  have h127 : (BitVec.ofInt 64 2147483647).toNat = 2 ^ 31 - 1 := by decide
  have key : (BitVec.ofInt 64 n &&& BitVec.ofInt 64 2147483647).toNat = (n % ((2 ^ 64 : Nat) : Int)).toNat % 2 ^ 31 := by
    rw [BitVec.toNat_and, BitVec.toNat_ofInt, h127, Nat.and_two_pow_sub_one_eq_mod]
  show IntKind.i64.wrap ((BitVec.ofInt 64 n &&& BitVec.ofInt 64 2147483647).toNat : Nat) = n % 2147483648
  rw [key, IntKind.wrap_i64]
  omega
/-- Two digits of four bits. -/
theorem or_nib (h x : Nat) (hh : h < 16) (hx : x < 16) : bits .or .i64 (16 * (h : Int)) (x : Int) = 16 * (h : Int) + x := by
  have h1 := i64_or_nat (16 * h) x (by omega) (by omega)
  have h2 : (16 * h) ||| x = 16 * h + x := by
    have := Nat.two_pow_add_eq_or_of_lt (i := 4) (b := x) (by omega) h
    rw [show 2 ^ 4 = 16 from rfl] at this
    exact this.symm
  rw [h2] at h1
  simpa using h1
end Go.Proofs.YthcnjiigkmljnaaGreatDoor
/-
  hex.Val: the code of 1 to 4 bytes, the first one the highest.
-/
namespace Go.Proofs.YthcnjiigkmljnaaGreatDoor
open Go.RowKit

/-- The number of bytes, the first one the highest. -/
def num (l : List UInt8) : Int := l.foldl (fun a b => a * 256 + (b.toNat : Int)) 0
theorem num_snoc (l : List UInt8) (b : UInt8) : num (l ++ [b]) = num l * 256 + (b.toNat : Int) := by simp [num]
theorem num_take (l : List UInt8) (k : Nat) (h : k < l.length) : num (l.take (k + 1)) = num (l.take k) * 256 + ((l[k]?.getD 0).toNat : Int) := by
  rw [List.take_succ_eq_append_getElem h, num_snoc, List.getElem?_eq_getElem h]; rfl
theorem num_bounds : ∀ (k : Nat) (l : List UInt8), l.length ≤ k → 0 ≤ num l ∧ num l < 256 ^ k
  | 0, l, h => by
    have : l = [] := List.eq_nil_of_length_eq_zero (by omega)
    subst this
    simp [num]
  | k + 1, l, h => by
    rcases List.eq_nil_or_concat l with rfl | ⟨p, b, rfl⟩
    · have h1 : (0 : Int) < 256 ^ (k + 1) := Int.pow_pos (by decide)
      simp only [num, List.foldl_nil]
      exact ⟨by omega, h1⟩
    · have ih := num_bounds k p (by simp at h; omega)
      rw [List.concat_eq_append, num_snoc, Int.pow_succ]
      have := b.toNat_lt
      omega

set_option maxHeartbeats 1000000 in
theorem Val_no (A : Option Addr) (c : Nat) (n : Nat) (w : World) (h : n < 1 ∨ 4 < n) :
    Calls Tryz.prog 124 #[.slice A n c] w fun e w' => e = .returned (.tuple #[.agg #[.int .i64 0, .int .i64 0], .bool false]) ∧ Below w.heap.size w w' := by
  rcases h with h | h
  · go_enter Tryz.func124, Tryz.ntmps124
    go_wp2
    go_returns
    exact ⟨rfl, (Below.refl _ _).alloc (Nat.le_refl _) _⟩
  · have h' : ¬ n < 1 := by omega
    go_enter Tryz.func124, Tryz.ntmps124
    go_wp2
    go_returns
    exact ⟨rfl, (Below.refl _ _).alloc (Nat.le_refl _) _⟩

set_option maxHeartbeats 1000000 in
theorem Val_yes (A : Option Addr) (c : Nat) (l : List UInt8) (w : World) (hA : Sl w w.heap.size A l) (h1 : 1 ≤ l.length) (h4 : l.length ≤ 4) :
    Calls Tryz.prog 124 #[.slice A l.length c] w fun e w' => e = .returned (.tuple #[.agg #[.int .i64 l.length, .int .i64 (num l)], .bool true]) ∧ Below w.heap.size w w' := by
  obtain ⟨b, o, rfl, hbl, hc⟩ := hA (by omega)
  have d1 : decide ((l.length : Int) < 1) = false := by simp; omega
  have d2 : decide ((4 : Int) < (l.length : Int)) = false := by simp; omega
  have HC := Lib.hid hc
  clear hc
  go_enter Tryz.func124, Tryz.ntmps124
  go_wp2
  go_loop [4, 18] (fun v i => ∃ k : Nat, k ≤ l.length ∧ i = .int .i64 k ∧ v = .int .i64 (num (l.take k))) (fun _ i => l.length - (intOf i).toNat)
  case atStart => exact ⟨0, Nat.zero_le _, rfl, rfl⟩
  case round =>
    obtain ⟨k, hk, rfl, rfl⟩ := hrel
    by_cases hlt : k < l.length
    · have hcell : w.cell? ⟨b, o + k, none⟩ = some (.int .u8 ((l[k]?.getD 0).toNat : Int)) := HC.out k hlt
      have hs := num_take l k hlt
      have HS := Lib.hid hs
      have hnb := num_bounds 3 (l.take k) (by simp; omega)
      obtain ⟨x, hx⟩ : ∃ x, x = l[k]?.getD 0 := ⟨_, rfl⟩
      rw [← hx] at hcell
      have HX := Lib.hid hx
      clear hs hx
      have hx1 := x.toNat_lt
      obtain ⟨m, hm⟩ : ∃ m, m = num (l.take k) := ⟨_, rfl⟩
      rw [← hm] at hnb
      rw [← hm]
      have HM := Lib.hid hm
      clear hm
      obtain ⟨n0, n1⟩ := hnb
      have n1' : m < 16777216 := by simpa using n1
      clear n1
      have hor := or_byte m x.toNat n0 n1' (by omega)
      go_wp2
      go_round
      case rel => exact ⟨k + 1, by omega, by go_num, by rw [HS.out, ← HM.out, ← HX.out]⟩
      case measure => simp [intOf]; omega
    · obtain rfl : l.length = k := by omega
      rw [List.take_of_length_le (Nat.le_refl _)]
      go_wp2
      go_returns
      exact ⟨rfl, (Below.refl _ _).alloc (Nat.le_refl _) _⟩
end Go.Proofs.YthcnjiigkmljnaaGreatDoor
/-
  hex.Sane: is N 1 to 4, and V 0 to below 256 to the N?
-/
namespace Go.Proofs.YthcnjiigkmljnaaGreatDoor
open Go.RowKit

def saneB (n v : Int) : Bool := decide (1 ≤ n ∧ n ≤ 4 ∧ 0 ≤ v ∧ v < 256 ^ n.toNat)
theorem saneB_iff (n v : Int) : saneB n v = true ↔ (1 ≤ n ∧ n ≤ 4 ∧ 0 ≤ v ∧ v < 256 ^ n.toNat) := by simp [saneB]

set_option maxHeartbeats 1000000 in
theorem Sane_any (n v : Int) (w : World) :
    Calls Tryz.prog 128 #[.agg #[.int .i64 n, .int .i64 v]] w fun e w' => e = .returned (.bool (saneB n v)) ∧ Below w.heap.size w w' := by
  by_cases h1 : 1 ≤ n
  · by_cases h2 : n ≤ 4
    · by_cases h3 : 0 ≤ v
      · rcases (show n = 1 ∨ n = 2 ∨ n = 3 ∨ n = 4 by omega) with rfl | rfl | rfl | rfl
        · have e : saneB 1 v = decide (v < 256) := by simp [saneB, h3]
          rw [e]
          clear e h1 h2
          go_enter Tryz.func128, Tryz.ntmps128
          go_wp2
          go_quiet (fail)
          go_wp2
          go_ret
          exact ⟨rfl, below_drewN ((Below.refl _ _).alloc (Nat.le_refl _) _) _⟩
        · have e : saneB 2 v = decide (v < 65536) := by simp [saneB, h3]
          rw [e]
          clear e h1 h2
          go_enter Tryz.func128, Tryz.ntmps128
          go_wp2
          go_quiet (fail)
          go_wp2
          go_ret
          exact ⟨rfl, below_drewN ((Below.refl _ _).alloc (Nat.le_refl _) _) _⟩
        · have e : saneB 3 v = decide (v < 16777216) := by simp [saneB, h3]
          rw [e]
          clear e h1 h2
          go_enter Tryz.func128, Tryz.ntmps128
          go_wp2
          go_quiet (fail)
          go_wp2
          go_ret
          exact ⟨rfl, below_drewN ((Below.refl _ _).alloc (Nat.le_refl _) _) _⟩
        · have e : saneB 4 v = decide (v < 4294967296) := by simp [saneB, h3]
          rw [e]
          clear e h1 h2
          go_enter Tryz.func128, Tryz.ntmps128
          go_wp2
          go_quiet (fail)
          go_wp2
          go_ret
          exact ⟨rfl, below_drewN ((Below.refl _ _).alloc (Nat.le_refl _) _) _⟩
      · have e : saneB n v = false := by simp [saneB]; omega
        rw [e]
        have d1 : decide (1 ≤ n) = true := by simpa using h1
        have d2 : decide (n ≤ 4) = true := by simpa using h2
        have d3 : decide (0 ≤ v) = false := by simpa using h3
        clear e
        go_enter Tryz.func128, Tryz.ntmps128
        go_wp2
        go_quiet (fail)
        go_wp2
        go_ret
        exact ⟨rfl, below_drewN ((Below.refl _ _).alloc (Nat.le_refl _) _) _⟩
    · have e : saneB n v = false := by simp [saneB]; omega
      rw [e]
      have d1 : decide (1 ≤ n) = true := by simpa using h1
      have d2 : decide (n ≤ 4) = false := by simpa using h2
      clear e
      go_enter Tryz.func128, Tryz.ntmps128
      go_wp2
      go_quiet (fail)
      go_wp2
      go_ret
      exact ⟨rfl, below_drewN ((Below.refl _ _).alloc (Nat.le_refl _) _) _⟩
  · have e : saneB n v = false := by simp [saneB]; omega
    rw [e]
    have d1 : decide (1 ≤ n) = false := by simpa using h1
    clear e
    go_enter Tryz.func128, Tryz.ntmps128
    go_wp2
    go_quiet (fail)
    go_wp2
    go_ret
    exact ⟨rfl, below_drewN ((Below.refl _ _).alloc (Nat.le_refl _) _) _⟩
end Go.Proofs.YthcnjiigkmljnaaGreatDoor
/-
  hex.Bytes: a code's bytes, the highest first; nothing of a code that is not Sane.
-/
namespace Go.Proofs.YthcnjiigkmljnaaGreatDoor
open Go.RowKit

/-- So many bytes of a number, the highest first. -/
def beL : Nat → Int → List UInt8
  | 0, _ => []
  | n + 1, v => beL n (v / 256) ++ [UInt8.ofNat (v % 256).toNat]
theorem beL_length (n : Nat) (v : Int) : (beL n v).length = n := by
  induction n generalizing v with
  | zero => rfl
  | succ n ih => simp [beL, ih]
theorem low_byte (v : Int) : ((UInt8.ofNat (v % 256).toNat).toNat : Int) = v % 256 := by
  have h : (v % 256).toNat < 256 := by omega
  rw [UInt8.toNat_ofNat_of_lt' h]; omega

theorem ret_lit {w w1 : World} {O : Obj} {t : TypeId} (hb : Below (w.alloc O).heap.size (w.alloc O) w1) (l : List UInt8) (cs : List Value) (hcs : cs = bvs l) (n : Nat) (hn : n = l.length) :
    RetSl w l (.returned (.slice (some ⟨w1.heap.size, 0, none⟩) n n)) (w1.alloc (.cells cs.toArray t)) := by
  subst hcs hn
  have h1 : w.heap.size ≤ w1.heap.size := by have := hb.size; simp at this; omega
  refine ⟨some ⟨w1.heap.size, 0, none⟩, l.length, rfl, Nat.le_refl _, fun _ => ⟨w1.heap.size, 0, rfl, by simp, fun j hj => ?_⟩, ?_⟩
  · have := World.news_of_block (heap_alloc_new w1 (.cells (bvs l).toArray t)) j _ (bvs_get l j hj)
    rwa [addr_add] at this
  · exact (((Below.refl _ _).alloc (Nat.le_refl _) O).trans (hb.mono (by simp))).alloc h1 _

set_option maxHeartbeats 1000000 in
theorem Bytes_1 (v : Int) (w : World) (h0 : 0 ≤ v) (h1 : v < 256) :
    Calls Tryz.prog 123 #[.agg #[.int .i64 1, .int .i64 v]] w (RetSl w (beL 1 v)) := by
  have hs : saneB 1 v = true := by rw [saneB_iff]; simp; omega
  have hmk : ∀ w, (Instr.makeSlice 93 (.int .i64 1) (.int .i64 1)).run Tryz.prog w = .ok (.slice (some ⟨w.heap.size, 0, none⟩) 1 1) (w.alloc (.cells #[.int .u8 0] 5)) := fun _ => by kernel_rfl
  go_enter Tryz.func123, Tryz.ntmps123
  go_wp2_with (go_at_call 128; refine (Sane_any _ _ _).mono ?_; rintro e w1 ⟨rfl, hb⟩; have hc0 : w1.cell? ⟨w.heap.size, 0, none⟩ = some (.int .i64 1) := (hb.cell (p := ⟨w.heap.size, 0, none⟩) (by simp)).trans (by simp); have hc1 : w1.cell? ⟨w.heap.size, 1, none⟩ = some (.int .i64 v) := (hb.cell (p := ⟨w.heap.size, 1, none⟩) (by simp)).trans (by simp); have hz : w.heap.size < w1.heap.size := (by have := hb.size; simp at this; omega))
  go_rounds 2
  go_ret
  refine ret_lit hb _ _ ?_ _ (beL_length _ _).symm
  simp only [bvs, beL, List.map_cons, List.map_nil, List.nil_append, low_byte]
  simp only [List.cons.injEq, Value.int.injEq, true_and, and_true]
  omega
set_option maxHeartbeats 1000000 in
theorem Bytes_2 (v : Int) (w : World) (h0 : 0 ≤ v) (h1 : v < 65536) :
    Calls Tryz.prog 123 #[.agg #[.int .i64 2, .int .i64 v]] w (RetSl w (beL 2 v)) := by
  have hs : saneB 2 v = true := by rw [saneB_iff]; simp; omega
  have hmk : ∀ w, (Instr.makeSlice 93 (.int .i64 2) (.int .i64 2)).run Tryz.prog w = .ok (.slice (some ⟨w.heap.size, 0, none⟩) 2 2) (w.alloc (.cells #[.int .u8 0, .int .u8 0] 5)) := fun _ => by kernel_rfl
  go_enter Tryz.func123, Tryz.ntmps123
  go_wp2_with (go_at_call 128; refine (Sane_any _ _ _).mono ?_; rintro e w1 ⟨rfl, hb⟩; have hc0 : w1.cell? ⟨w.heap.size, 0, none⟩ = some (.int .i64 2) := (hb.cell (p := ⟨w.heap.size, 0, none⟩) (by simp)).trans (by simp); have hc1 : w1.cell? ⟨w.heap.size, 1, none⟩ = some (.int .i64 v) := (hb.cell (p := ⟨w.heap.size, 1, none⟩) (by simp)).trans (by simp); have hz : w.heap.size < w1.heap.size := (by have := hb.size; simp at this; omega))
  go_rounds 3
  go_ret
  refine ret_lit hb _ _ ?_ _ (beL_length _ _).symm
  simp only [bvs, beL, List.map_cons, List.map_nil, List.nil_append, List.cons_append, low_byte]
  simp only [List.cons.injEq, Value.int.injEq, true_and, and_true]
  omega
set_option maxHeartbeats 1000000 in
theorem Bytes_3 (v : Int) (w : World) (h0 : 0 ≤ v) (h1 : v < 16777216) :
    Calls Tryz.prog 123 #[.agg #[.int .i64 3, .int .i64 v]] w (RetSl w (beL 3 v)) := by
  have hs : saneB 3 v = true := by rw [saneB_iff]; simp; omega
  have hmk : ∀ w, (Instr.makeSlice 93 (.int .i64 3) (.int .i64 3)).run Tryz.prog w = .ok (.slice (some ⟨w.heap.size, 0, none⟩) 3 3) (w.alloc (.cells #[.int .u8 0, .int .u8 0, .int .u8 0] 5)) := fun _ => by kernel_rfl
  go_enter Tryz.func123, Tryz.ntmps123
  go_wp2_with (go_at_call 128; refine (Sane_any _ _ _).mono ?_; rintro e w1 ⟨rfl, hb⟩; have hc0 : w1.cell? ⟨w.heap.size, 0, none⟩ = some (.int .i64 3) := (hb.cell (p := ⟨w.heap.size, 0, none⟩) (by simp)).trans (by simp); have hc1 : w1.cell? ⟨w.heap.size, 1, none⟩ = some (.int .i64 v) := (hb.cell (p := ⟨w.heap.size, 1, none⟩) (by simp)).trans (by simp); have hz : w.heap.size < w1.heap.size := (by have := hb.size; simp at this; omega))
  go_rounds 4
  go_ret
  refine ret_lit hb _ _ ?_ _ (beL_length _ _).symm
  simp only [bvs, beL, List.map_cons, List.map_nil, List.nil_append, List.cons_append, low_byte]
  simp only [List.cons.injEq, Value.int.injEq, true_and, and_true]
  omega
set_option maxHeartbeats 1000000 in
theorem Bytes_4 (v : Int) (w : World) (h0 : 0 ≤ v) (h1 : v < 4294967296) :
    Calls Tryz.prog 123 #[.agg #[.int .i64 4, .int .i64 v]] w (RetSl w (beL 4 v)) := by
  have hs : saneB 4 v = true := by rw [saneB_iff]; simp; omega
  have hmk : ∀ w, (Instr.makeSlice 93 (.int .i64 4) (.int .i64 4)).run Tryz.prog w = .ok (.slice (some ⟨w.heap.size, 0, none⟩) 4 4) (w.alloc (.cells #[.int .u8 0, .int .u8 0, .int .u8 0, .int .u8 0] 5)) := fun _ => by kernel_rfl
  go_enter Tryz.func123, Tryz.ntmps123
  go_wp2_with (go_at_call 128; refine (Sane_any _ _ _).mono ?_; rintro e w1 ⟨rfl, hb⟩; have hc0 : w1.cell? ⟨w.heap.size, 0, none⟩ = some (.int .i64 4) := (hb.cell (p := ⟨w.heap.size, 0, none⟩) (by simp)).trans (by simp); have hc1 : w1.cell? ⟨w.heap.size, 1, none⟩ = some (.int .i64 v) := (hb.cell (p := ⟨w.heap.size, 1, none⟩) (by simp)).trans (by simp); have hz : w.heap.size < w1.heap.size := (by have := hb.size; simp at this; omega))
  go_rounds 5
  go_ret
  refine ret_lit hb _ _ ?_ _ (beL_length _ _).symm
  simp only [bvs, beL, List.map_cons, List.map_nil, List.nil_append, List.cons_append, low_byte]
  simp only [List.cons.injEq, Value.int.injEq, true_and, and_true]
  omega

set_option maxHeartbeats 1000000 in
theorem Bytes_no (n v : Int) (w : World) (hs : saneB n v = false) :
    Calls Tryz.prog 123 #[.agg #[.int .i64 n, .int .i64 v]] w (RetSl w []) := by
  go_enter Tryz.func123, Tryz.ntmps123
  go_wp2_with (go_at_call 128; refine (Sane_any _ _ _).mono ?_; rintro e w1 ⟨rfl, hb⟩)
  go_ret
  exact ⟨none, 0, rfl, Nat.le_refl _, Sl.nil, ((Below.refl _ _).alloc (Nat.le_refl _) _).trans (hb.mono (by simp))⟩

/-- What Bytes hands back. -/
def codeL (n v : Int) : List UInt8 := if saneB n v then beL n.toNat v else []
theorem Bytes_any (n v : Int) (w : World) : Calls Tryz.prog 123 #[.agg #[.int .i64 n, .int .i64 v]] w (RetSl w (codeL n v)) := by
  by_cases hs : saneB n v = true
  · have e : codeL n v = beL n.toNat v := by simp [codeL, hs]
    rw [e]
    obtain ⟨h1, h2, h3, h4⟩ := (saneB_iff n v).1 hs
    rcases (show n = 1 ∨ n = 2 ∨ n = 3 ∨ n = 4 by omega) with rfl | rfl | rfl | rfl
    · exact Bytes_1 v w h3 (by simpa using h4)
    · exact Bytes_2 v w h3 (by simpa using h4)
    · exact Bytes_3 v w h3 (by simpa using h4)
    · exact Bytes_4 v w h3 (by simpa using h4)
  · have hs' : saneB n v = false := by simpa using hs
    have e : codeL n v = [] := by simp [codeL, hs']
    rw [e]
    exact Bytes_no n v w hs'
end Go.Proofs.YthcnjiigkmljnaaGreatDoor
/-
  What came in, as a walk wants it: a text, bytes, a number, a code.
-/
namespace Go.Proofs.YthcnjiigkmljnaaGreatDoor
open Go.ChangeShapes Go.WideShapes Go.ChangeAt Go.RowKit Go.Joins
open Go.ChangeMaps (open_string)

section
variable {H : Type} {enc : TypeId × Value → H} {P : Program} {W : World} {base : Nat} {v : Value} {d : DataW H} {p : List MemPlace}
theorem view_string {t : TypeId} (ht : P.underlying t = some .string) (hv : Value.okWide P W .any base t v) (h : DataW.Trod enc P W 0 (fun _ => true) true t v d p) :
    ∃ l : List UInt8, v = .string (str l) ∧ l.length ≤ maxLen := by
  obtain ⟨s, rfl, _, _, hm⟩ := open_string ht hv h
  obtain ⟨l, rfl⟩ := str_of s
  exact ⟨l, rfl, by rwa [str_size] at hm⟩
theorem view_int {t : TypeId} (ht : P.underlying t = some (.int .i64)) (hv : Value.okWide P W .any base t v) (h : DataW.Trod enc P W 0 (fun _ => true) true t v d p) :
    ∃ n : Int, v = .int .i64 n ∧ -9223372036854775808 ≤ n ∧ n ≤ 9223372036854775807 := by
  obtain ⟨n, rfl, _, _, hw⟩ := open_int ht hv h
  refine ⟨n, rfl, ?_⟩
  exact bounds_i64 hw
theorem view_code {t ti : TypeId} {f0 f1 : Field} (ht : P.underlying t = some (.struct #[f0, f1])) (hone : Deep.oneCellFields P #[f0, f1] = true) (hC : P.cellsOf t = 2) (e0 : f0.type = ti) (e1 : f1.type = ti)
    (hi : P.underlying ti = some (.int .i64)) (hv : Value.okWide P W .any base t v) (h : DataW.Trod enc P W 0 (fun _ => true) true t v d p) :
    ∃ n m : Int, v = .agg #[.int .i64 n, .int .i64 m] ∧ (-9223372036854775808 ≤ n ∧ n ≤ 9223372036854775807) ∧ (-9223372036854775808 ≤ m ∧ m ≤ 9223372036854775807) := by
  obtain ⟨c0, c1, y0, y1, k, rfl, rfl, rfl, hy0, hy1⟩ := open_agg2 ht hone hC hv h
  rw [e0] at hy0
  rw [e1] at hy1
  obtain ⟨a, x0, rfl, wa⟩ := DataW.trod_int hi hy0
  obtain ⟨b, x1, rfl, wb⟩ := DataW.trod_int hi hy1
  simp at x0 x1
  subst x0 x1
  exact ⟨a, b, rfl, bounds_i64 wa, bounds_i64 wb⟩
theorem view_bytes {t e : TypeId} (ht : P.underlying t = some (.slice e)) (he : P.underlying e = some (.int .u8)) (hc : P.cellsOf e = 1) (hv : Value.okWide P W .any base t v) (h : DataW.Trod enc P W 0 (fun _ => true) true t v d p) :
    ∃ A l c, v = .slice A l.length c ∧ l.length ≤ maxLen ∧ Sl W W.heap.size A l := by
  obtain ⟨A, len, cap, rfl⟩ := okWide_slice ht hv
  obtain ⟨fuel, hf⟩ := h
  rcases open_ints ht he hc hf with ⟨hcs, _⟩ | ⟨x, l, c, zs, hcs, _, hl, hm, hz, _, hcell, hwz⟩
  · simp [Value.cells] at hcs
    obtain ⟨rfl, rfl, rfl⟩ := hcs
    exact ⟨none, [], 0, rfl, by simp [maxLen], Sl.nil⟩
  · simp [Value.cells] at hcs
    obtain ⟨rfl, rfl, rfl⟩ := hcs
    have hz' : zs.length = cap := by simpa using hz
    have hlen : ((zs.take len).map fun z => UInt8.ofNat z.toNat).length = len := by simp; omega
    refine ⟨some x, (zs.take len).map fun z => UInt8.ofNat z.toNat, cap, by rw [hlen], by rw [hlen]; omega, fun hn => ?_⟩
    rw [hlen] at hn
    obtain ⟨b, off, spot⟩ := x
    have hc0 := hcell 0 (by omega)
    have hspot : spot = none := by simpa [Addr.add] using World.cell?_spot hc0
    subst hspot
    refine ⟨b, off, rfl, World.block_lt_of_cell? W _ (by simpa [Addr.add] using hc0 : W.cell? ⟨b, off, none⟩ = _), fun j hj => ?_⟩
    rw [hlen] at hj
    have hcj := hcell j (by omega)
    rw [addr_add] at hcj
    rw [hcj]
    have hzj : zs[j]? = some (zs.getD j 0) := by rw [List.getD_eq_getElem?_getD, List.getElem?_eq_getElem (by omega : j < zs.length)]; rfl
    have hw := bounds_u8 (hwz (zs.getD j 0) (List.mem_of_getElem? hzj))
    have hget : ((zs.take len).map fun z => UInt8.ofNat z.toNat)[j]? = some (UInt8.ofNat (zs.getD j 0).toNat) := by
      rw [List.getElem?_map, List.getElem?_take, if_pos hj, hzj]; rfl
    rw [hget]
    have h2 : (zs.getD j 0).toNat < 256 := by omega
    simp only [Option.getD_some, UInt8.toNat_ofNat_of_lt' h2]
    congr 2
    omega
end
end Go.Proofs.YthcnjiigkmljnaaGreatDoor
/-
  Words of this proof's own for ints in memory: a slice that holds a list of ints; what a call hands back; an argument that is such a slice.
-/
namespace Go.Proofs.YthcnjiigkmljnaaGreatDoor
open Go.ChangeShapes Go.WideShapes Go.ChangeAt Go.RowKit Go.Joins

/-- Ints as Go's values. -/
def ivs (l : List Int) : List Value := l.map fun n => Value.int .i64 n
theorem ivs_length (l : List Int) : (ivs l).length = l.length := by simp [ivs]
theorem ivs_get (l : List Int) (j : Nat) (h : j < l.length) : (ivs l)[j]? = some (.int .i64 (l[j]?.getD 0)) := by simp [ivs, h]
theorem ivs_append (a b : List Int) : ivs (a ++ b) = ivs a ++ ivs b := by simp [ivs]
theorem ivs_one (l : List Int) : ∀ u ∈ ivs l, u.oneCell' = true := by
  intro u hu
  simp only [ivs, List.mem_map] at hu
  obtain ⟨b, _, rfl⟩ := hu
  rfl

/-- A slice at A holds the ints l, below block B. -/
def Si (w : World) (B : Nat) (A : Option Addr) (l : List Int) : Prop :=
  0 < l.length → ∃ b o, A = some ⟨b, o, none⟩ ∧ b < B ∧ ∀ j, j < l.length → w.cell? ⟨b, o + j, none⟩ = some (.int .i64 (l[j]?.getD 0))

section
variable {w w' : World} {B B' : Nat} {A : Option Addr} {l : List Int}
theorem Si.keep (h : Si w B A l) (hk : ∀ p : Addr, p.block < B → w'.cell? p = w.cell? p) : Si w' B A l := fun hn => by
  obtain ⟨b, o, e, hb, hc⟩ := h hn
  exact ⟨b, o, e, hb, fun j hj => (hk ⟨b, o + j, none⟩ hb).trans (hc j hj)⟩
theorem Si.below (h : Si w B A l) (hb : Below B w w') : Si w' B A l := h.keep fun _ hp => hb.cell hp
theorem Si.more (h : Si w B A l) (hB : B ≤ B') : Si w B' A l := fun hn => by
  obtain ⟨b, o, e, hb, hc⟩ := h hn
  exact ⟨b, o, e, by omega, hc⟩
/-- Over a call that leaves all that was there. -/
theorem Si.over (h : Si w w.heap.size A l) (hb : Below w.heap.size w w') : Si w' w'.heap.size A l := (h.below hb).more hb.size
theorem Si.nil : Si w B A [] := fun h => absurd h (by simp)
theorem Si.drew (h : Si w B A l) : Si w.drew B A l := h
theorem Si.alloc (h : Si w B A l) (hB : B ≤ w.heap.size) (o : Obj) : Si (w.alloc o) B A l := h.keep fun p hp => World.cell?_alloc_lt w o p (by omega)
theorem Si.cells (h : Si w B A l) (hn : 0 < l.length) : ∃ a, A = some a ∧ ∀ j u, (ivs l)[j]? = some u → w.cell? (a.add j) = some u := by
  obtain ⟨b, o, e, _, hc⟩ := h hn
  refine ⟨_, e, fun j u hu => ?_⟩
  have hj : j < l.length := by
    rcases Nat.lt_or_ge j l.length with h | h
    · exact h
    · rw [List.getElem?_eq_none (by rw [ivs_length]; exact h)] at hu; cases hu
  rw [ivs_get l j hj] at hu
  rw [addr_add, hc j hj, hu]
theorem Si.of_own {base : Nat} {e : TypeId} {v : Value} {n : Nat} (h : w.ownsRow base e 1 v n (ivs l)) : ∃ c, n = l.length ∧ (n ≤ c ∧ (v = .slice none l.length c → c = 0)) ∧ ∃ A, v = .slice A l.length c ∧ Si w w.heap.size A l := by
  have hl : n = l.length := by have := h.1; rw [ivs_length] at this; omega
  subst hl
  rcases h.2 with ⟨rfl, h0⟩ | ⟨g, cap, cur, rfl, hb, hg, hc, hm, hs, ht⟩
  · exact ⟨0, rfl, ⟨by omega, fun _ => rfl⟩, none, by rw [h0], fun hn => absurd hn (by omega)⟩
  · refine ⟨cap, rfl, ⟨hc, fun e => by cases e⟩, _, rfl, fun hn => ⟨g, 0, rfl, (Array.getElem?_eq_some_iff.1 hg).1, fun j hj => ?_⟩⟩
    have := h.cells (g := g) rfl j _ (ivs_get l j hj)
    rwa [addr_add] at this
end

/-- One result: a slice of ints (a nil one has no room). -/
def RetSi (w : World) (l : List Int) (e : Ending) (w' : World) : Prop :=
  ∃ A c, e = .returned (.slice A l.length c) ∧ (l.length ≤ c ∧ (Value.slice A l.length c = .slice none l.length c → c = 0)) ∧ Si w' w'.heap.size A l ∧ Below w.heap.size w w'
/-- Two results: a slice of ints, and a truth. -/
def RetSiB (w : World) (l : List Int) (b : Bool) (e : Ending) (w' : World) : Prop :=
  ∃ A c, e = .returned (.tuple #[.slice A l.length c, .bool b]) ∧ (l.length ≤ c ∧ (Value.slice A l.length c = .slice none l.length c → c = 0)) ∧ Si w' w'.heap.size A l ∧ Below w.heap.size w w'

section
variable {H : Type} {enc : TypeId × Value → H} {P : Program} {W : World} {base : Nat} {v : Value} {d : DataW H} {p : List MemPlace}
theorem view_ints {t e : TypeId} (ht : P.underlying t = some (.slice e)) (he : P.underlying e = some (.int .i64)) (hc : P.cellsOf e = 1) (hv : Value.okWide P W .any base t v) (h : DataW.Trod enc P W 0 (fun _ => true) true t v d p) :
    ∃ A l c, v = .slice A l.length c ∧ l.length ≤ maxLen ∧ Si W W.heap.size A l ∧ (A = none → c = 0) := by
  obtain ⟨A, len, cap, rfl⟩ := okWide_slice ht hv
  obtain ⟨fuel, hf⟩ := h
  rcases open_ints ht he hc hf with ⟨hcs, _⟩ | ⟨x, l, c, zs, hcs, _, hl, hm, hz, _, hcell, hwz⟩
  · simp [Value.cells] at hcs
    obtain ⟨rfl, rfl, rfl⟩ := hcs
    exact ⟨none, [], 0, rfl, by simp [maxLen], Si.nil, fun _ => rfl⟩
  · simp [Value.cells] at hcs
    obtain ⟨rfl, rfl, rfl⟩ := hcs
    have hz' : zs.length = cap := by simpa using hz
    have hlen : (zs.take len).length = len := by simp; omega
    have hget : ∀ j, j < len → (zs.take len)[j]?.getD 0 = zs.getD j 0 := fun j hj => by
      have hzj : zs[j]? = some (zs.getD j 0) := by rw [List.getD_eq_getElem?_getD, List.getElem?_eq_getElem (by omega : j < zs.length)]; rfl
      rw [List.getElem?_take, if_pos hj, hzj]; rfl
    refine ⟨some x, zs.take len, cap, by rw [hlen], by rw [hlen]; omega, fun hn => ?_, fun e => by cases e⟩
    rw [hlen] at hn
    obtain ⟨b, off, spot⟩ := x
    have hc0 := hcell 0 (by omega)
    have hspot : spot = none := by simpa [Addr.add] using World.cell?_spot hc0
    subst hspot
    refine ⟨b, off, rfl, World.block_lt_of_cell? W _ (by simpa [Addr.add] using hc0 : W.cell? ⟨b, off, none⟩ = _), fun j hj => ?_⟩
    rw [hlen] at hj
    have hcj := hcell j (by omega)
    rw [addr_add] at hcj
    rw [hcj, hget j hj]
end
end Go.Proofs.YthcnjiigkmljnaaGreatDoor
