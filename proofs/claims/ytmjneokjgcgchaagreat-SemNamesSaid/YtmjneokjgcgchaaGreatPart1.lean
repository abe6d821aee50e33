/-
  Parts of this proof, one behind the other: Mem, HexSane, CodeL, RectPure, RectCan, RectDoc, RectLink, RectFlt, Bits, RectPro1, RectBy, RectPro2, RectPro3, RectNum, ShelfSort, RectCmp, RectMem, RectComp, RectComp2, RectSort, RectSrt, RectIno, RectReach, RectReach2, RectHeld, RectHeld2, RectCanF, RectSubP.
-/
import Derived.WalkKit
import Derived.WalkSpells
import Derived.WalkLawsBesides
import Derived.Laws.IdiomStrings
import Derived.Lib.Hide
import Derived.Test.YtmjneokjgcgchaaGreatProg
import Derived.BigQuiet
import Derived.Deep.QuietTactic
import Derived.Deep.AppendLies
import Derived.Handy
import Derived.Sort.Grow
import Derived.Deep.RegionHeld
import Derived.Deep.DrawnRows
import Derived.Shelf.SlSortCmp.WholeK
import Derived.Laws.StructEq
import Derived.Lib.SlicesCompact
import Derived.Lib.SliceRun
import Derived.Laws.MakeOwn
/-
  Words of this proof's own for bytes in memory: strings as lists of bytes; a slice that holds a list of bytes; what such a slice is as a string.
-/
namespace Go.Proofs.YtmjneokjgcgchaaGreat
open Go.RowKit

/-- The string of these bytes. -/
def str (l : List UInt8) : ByteArray := ⟨l.toArray⟩
@[go_sem] theorem str_size (l : List UInt8) : (str l).size = l.length := by show l.toArray.size = _; simp
@[go_sem] theorem str_toList (l : List UInt8) : (str l).toList = l := ByteArray.toList_mk l
@[go_sem] theorem str_append (a b : List UInt8) : str a ++ str b = str (a ++ b) := by unfold str; rw [ByteArray.mk_append_mk]
@[go_sem] theorem str_extract (l : List UInt8) (a b : Nat) : (str l).extract a b = str ((l.drop a).take (b - a)) := ByteArray.extract_mk l a b
theorem str_data (l : List UInt8) : (str l).data.toList = l := rfl
theorem str_inj {a b : List UInt8} (h : a = b) : str a = str b := by rw [h]
/-- Each string is the string of its bytes. -/
theorem str_of (s : ByteArray) : ∃ l, s = str l := ⟨s.data.toList, by cases s; simp [str]⟩

/-- Bytes as Go's values. -/
def bvs (l : List UInt8) : List Value := l.map fun b => Value.int .u8 (b.toNat : Int)
theorem bvs_length (l : List UInt8) : (bvs l).length = l.length := by simp [bvs]
theorem bvs_get (l : List UInt8) (j : Nat) (h : j < l.length) : (bvs l)[j]? = some (.int .u8 ((l[j]?.getD 0).toNat : Int)) := by simp [bvs, h]
theorem bvs_append (a b : List UInt8) : bvs (a ++ b) = bvs a ++ bvs b := by simp [bvs]
theorem bvs_one (l : List UInt8) : ∀ u ∈ bvs l, u.oneCell' = true := by
  intro u hu
  simp only [bvs, List.mem_map] at hu
  obtain ⟨b, _, rfl⟩ := hu
  rfl

/-- A slice at A holds the bytes l, below block B. -/
def Sl (w : World) (B : Nat) (A : Option Addr) (l : List UInt8) : Prop :=
  0 < l.length → ∃ b o, A = some ⟨b, o, none⟩ ∧ b < B ∧ ∀ j, j < l.length → w.cell? ⟨b, o + j, none⟩ = some (.int .u8 ((l[j]?.getD 0).toNat : Int))

section
variable {w w' : World} {B B' : Nat} {A : Option Addr} {l : List UInt8}
theorem Sl.keep (h : Sl w B A l) (hk : ∀ p : Addr, p.block < B → w'.cell? p = w.cell? p) : Sl w' B A l := fun hn => by
  obtain ⟨b, o, e, hb, hc⟩ := h hn
  exact ⟨b, o, e, hb, fun j hj => (hk ⟨b, o + j, none⟩ hb).trans (hc j hj)⟩
theorem Sl.below (h : Sl w B A l) (hb : Below B w w') : Sl w' B A l := h.keep fun _ hp => hb.cell hp
theorem Sl.more (h : Sl w B A l) (hB : B ≤ B') : Sl w B' A l := fun hn => by
  obtain ⟨b, o, e, hb, hc⟩ := h hn
  exact ⟨b, o, e, by omega, hc⟩
/-- Over a call that leaves all that was there. -/
theorem Sl.over (h : Sl w w.heap.size A l) (hb : Below w.heap.size w w') : Sl w' w'.heap.size A l := (h.below hb).more hb.size
theorem Sl.nil : Sl w B A [] := fun h => absurd h (by simp)
theorem Sl.drew (h : Sl w B A l) : Sl w.drew B A l := h
theorem Sl.alloc (h : Sl w B A l) (hB : B ≤ w.heap.size) (o : Obj) : Sl (w.alloc o) B A l := h.keep fun p hp => World.cell?_alloc_lt w o p (by omega)
theorem addr_add (b o j : Nat) : (⟨b, o, none⟩ : Addr).add j = ⟨b, o + j, none⟩ := by
  unfold Addr.add; split
  · simp_all
  · rfl
theorem Sl.cells (h : Sl w B A l) (hn : 0 < l.length) : ∃ a, A = some a ∧ ∀ j u, (bvs l)[j]? = some u → w.cell? (a.add j) = some u := by
  obtain ⟨b, o, e, _, hc⟩ := h hn
  refine ⟨_, e, fun j u hu => ?_⟩
  have hj : j < l.length := by
    rcases Nat.lt_or_ge j l.length with h | h
    · exact h
    · rw [List.getElem?_eq_none (by rw [bvs_length]; exact h)] at hu; cases hu
  rw [bvs_get l j hj] at hu
  rw [addr_add, hc j hj, hu]
theorem Sl.of_own {base : Nat} {e : TypeId} {v : Value} {n : Nat} (h : w.ownsRow base e 1 v n (bvs l)) : ∃ c, n = l.length ∧ n ≤ c ∧ ∃ A, v = .slice A l.length c ∧ Sl w w.heap.size A l := by
  have hl : n = l.length := by have := h.1; rw [bvs_length] at this; omega
  subst hl
  rcases h.2 with ⟨rfl, h0⟩ | ⟨g, cap, cur, rfl, hb, hg, hc, hm, hs, ht⟩
  · exact ⟨0, rfl, by omega, none, by rw [h0], fun hn => absurd hn (by omega)⟩
  · refine ⟨cap, rfl, hc, _, rfl, fun hn => ⟨g, 0, rfl, (Array.getElem?_eq_some_iff.1 hg).1, fun j hj => ?_⟩⟩
    have := h.cells (g := g) rfl j _ (bvs_get l j hj)
    rwa [addr_add] at this
end

/-- string(b). -/
theorem run_str {P : Program} {w : World} {B : Nat} {A : Option Addr} {l : List UInt8} (h : Sl w B A l) (c : Nat) (src dst e : TypeId)
    (hs : P.underlying src = some (.slice e)) (he : P.underlying e = some (.int .u8)) (hd : P.underlying dst = some .string) :
    (convert src dst (.slice A l.length c)).run P w = .ok (.string (str l)) w := by
  rw [run_convert_bytes_string w src dst e A l.length c hs he hd]
  have hf : ∀ l : List UInt8, (l.map (fun b => (b.toNat : Int))).foldl (fun r n => r.push (UInt8.ofNat n.toNat)) ByteArray.empty = str l := fun l => by
    rw [foldl_push_byteCells]
    show (⟨#[] ++ l.toArray⟩ : ByteArray) = ⟨l.toArray⟩
    simp
  rcases Nat.eq_zero_or_pos l.length with h0 | h0
  · have hl : l = [] := List.eq_nil_of_length_eq_zero h0
    subst hl
    cases A with
    | none => simp [Conv.bytesToString]; rfl
    | some a =>
      have := run_bytesToString (P := P) w a 0 c [] (by simp [loadCells, loadCellsFrom])
      exact this
  · obtain ⟨a, rfl, hc⟩ := h.cells h0
    have hld := run_loadCells_list (P := P) (w := w) a (bvs l) hc
    rw [bvs_length] at hld
    have := run_bytesToString (P := P) w a l.length c (l.map fun b => (b.toNat : Int)) (by rw [hld]; simp [bvs])
    rw [this, hf]

/-- Three results of a call: a slice of bytes, and two numbers. -/
def RetBytes (w : World) (l : List UInt8) (n m : Int) (e : Ending) (w' : World) : Prop :=
  ∃ A c, e = .returned (.tuple #[.slice A l.length c, .int .i64 n, .int .i64 m]) ∧ l.length ≤ c ∧ Sl w' w'.heap.size A l ∧ Below w.heap.size w w'
/-- One result: a slice of bytes. -/
def RetSl (w : World) (l : List UInt8) (e : Ending) (w' : World) : Prop :=
  ∃ A c, e = .returned (.slice A l.length c) ∧ l.length ≤ c ∧ Sl w' w'.heap.size A l ∧ Below w.heap.size w w'
end Go.Proofs.YtmjneokjgcgchaaGreat
/-
  hex.Sane: is N 1 to 4, and V 0 to below 256 to the N?
-/
namespace Go.Proofs.YtmjneokjgcgchaaGreat
open Go.RowKit

def saneB (n v : Int) : Bool := decide (1 ≤ n ∧ n ≤ 4 ∧ 0 ≤ v ∧ v < 256 ^ n.toNat)
theorem saneB_iff (n v : Int) : saneB n v = true ↔ (1 ≤ n ∧ n ≤ 4 ∧ 0 ≤ v ∧ v < 256 ^ n.toNat) := by simp [saneB]

set_option maxHeartbeats 1000000 in
theorem Sane_any (n v : Int) (w : World) :
    Calls Tryz.prog 61 #[.agg #[.int .i64 n, .int .i64 v]] w fun e w' => e = .returned (.bool (saneB n v)) ∧ Below w.heap.size w w' := by
  by_cases h1 : 1 ≤ n
  · by_cases h2 : n ≤ 4
    · by_cases h3 : 0 ≤ v
      · rcases (show n = 1 ∨ n = 2 ∨ n = 3 ∨ n = 4 by omega) with rfl | rfl | rfl | rfl
        · have e : saneB 1 v = decide (v < 256) := by simp [saneB, h3]
          rw [e]
          clear e h1 h2
          go_enter Tryz.func61, Tryz.ntmps61
          go_wp2
          go_quiet (fail)
          go_wp2
          go_ret
          exact ⟨rfl, below_drewN ((Below.refl _ _).alloc (Nat.le_refl _) _) _⟩
        · have e : saneB 2 v = decide (v < 65536) := by simp [saneB, h3]
          rw [e]
          clear e h1 h2
          go_enter Tryz.func61, Tryz.ntmps61
          go_wp2
          go_quiet (fail)
          go_wp2
          go_ret
          exact ⟨rfl, below_drewN ((Below.refl _ _).alloc (Nat.le_refl _) _) _⟩
        · have e : saneB 3 v = decide (v < 16777216) := by simp [saneB, h3]
          rw [e]
          clear e h1 h2
          go_enter Tryz.func61, Tryz.ntmps61
          go_wp2
          go_quiet (fail)
          go_wp2
          go_ret
          exact ⟨rfl, below_drewN ((Below.refl _ _).alloc (Nat.le_refl _) _) _⟩
        · have e : saneB 4 v = decide (v < 4294967296) := by simp [saneB, h3]
          rw [e]
          clear e h1 h2
          go_enter Tryz.func61, Tryz.ntmps61
          go_wp2
          go_quiet (fail)
          go_wp2
          go_ret
          exact ⟨rfl, below_drewN ((Below.refl _ _).alloc (Nat.le_refl _) _) _⟩
      · have e : saneB n v = false := by simp [saneB]; omega
        rw [e]
        have d1 : decide (1 ≤ n) = true := by simpa using h1
        have d2 : decide (n ≤ 4) = true := by simpa using h2
        have d3 : decide (0 ≤ v) = false := by simpa using h3
        clear e
        go_enter Tryz.func61, Tryz.ntmps61
        go_wp2
        go_quiet (fail)
        go_wp2
        go_ret
        exact ⟨rfl, below_drewN ((Below.refl _ _).alloc (Nat.le_refl _) _) _⟩
    · have e : saneB n v = false := by simp [saneB]; omega
      rw [e]
      have d1 : decide (1 ≤ n) = true := by simpa using h1
      have d2 : decide (n ≤ 4) = false := by simpa using h2
      clear e
      go_enter Tryz.func61, Tryz.ntmps61
      go_wp2
      go_quiet (fail)
      go_wp2
      go_ret
      exact ⟨rfl, below_drewN ((Below.refl _ _).alloc (Nat.le_refl _) _) _⟩
  · have e : saneB n v = false := by simp [saneB]; omega
    rw [e]
    have d1 : decide (1 ≤ n) = false := by simpa using h1
    clear e
    go_enter Tryz.func61, Tryz.ntmps61
    go_wp2
    go_quiet (fail)
    go_wp2
    go_ret
    exact ⟨rfl, below_drewN ((Below.refl _ _).alloc (Nat.le_refl _) _) _⟩
end Go.Proofs.YtmjneokjgcgchaaGreat
/-
  A code's bytes, the highest first, as a plain list; nothing of a code that is not Sane.
-/
namespace Go.Proofs.YtmjneokjgcgchaaGreat
open Go.RowKit

/-- So many bytes of a number, the highest first. -/
def beL : Nat → Int → List UInt8
  | 0, _ => []
  | n + 1, v => beL n (v / 256) ++ [UInt8.ofNat (v % 256).toNat]
theorem beL_length (n : Nat) (v : Int) : (beL n v).length = n := by
  induction n generalizing v with
  | zero => rfl
  | succ n ih => simp [beL, ih]
theorem low_byte (v : Int) : ((UInt8.ofNat (v % 256).toNat).toNat : Int) = v % 256 := by
  have h : (v % 256).toNat < 256 := by omega
  rw [UInt8.toNat_ofNat_of_lt' h]; omega

theorem ret_lit {w w1 : World} {O : Obj} {t : TypeId} (hb : Below (w.alloc O).heap.size (w.alloc O) w1) (l : List UInt8) (cs : List Value) (hcs : cs = bvs l) (n : Nat) (hn : n = l.length) :
    RetSl w l (.returned (.slice (some ⟨w1.heap.size, 0, none⟩) n n)) (w1.alloc (.cells cs.toArray t)) := by
  subst hcs hn
  have h1 : w.heap.size ≤ w1.heap.size := by have := hb.size; simp at this; omega
  refine ⟨some ⟨w1.heap.size, 0, none⟩, l.length, rfl, Nat.le_refl _, fun _ => ⟨w1.heap.size, 0, rfl, by simp, fun j hj => ?_⟩, ?_⟩
  · have := World.news_of_block (heap_alloc_new w1 (.cells (bvs l).toArray t)) j _ (bvs_get l j hj)
    rwa [addr_add] at this
  · exact (((Below.refl _ _).alloc (Nat.le_refl _) O).trans (hb.mono (by simp))).alloc h1 _

/-- What Bytes hands back. -/
def codeL (n v : Int) : List UInt8 := if saneB n v then beL n.toNat v else []
end Go.Proofs.YtmjneokjgcgchaaGreat
/-
  Layer 6 as plain lists, the last byte first: bounds of each byte, how many codes there are, which one has a number, what one within another has.
-/
namespace Go.Proofs.YtmjneokjgcgchaaGreat

/-- Bounds of each byte, the last byte first, are in order, and bytes. -/
def Bnd (p : List (Nat × Nat)) : Prop := ∀ q ∈ p, q.1 ≤ q.2 ∧ q.2 < 256
/-- How many codes there are. -/
def szR : List (Nat × Nat) → Nat
  | [] => 1
  | q :: t => (q.2 - q.1 + 1) * szR t
/-- The bytes of that of a number. -/
def ntR : List (Nat × Nat) → Nat → List Nat
  | [], _ => []
  | q :: t, k => (q.1 + k % (q.2 - q.1 + 1)) :: ntR t (k / (q.2 - q.1 + 1))
/-- Their number. -/
def nuR : List Nat → Nat
  | [] => 0
  | d :: t => d + 256 * nuR t
/-- Are bytes within bounds? -/
def wiR : List (Nat × Nat) → List Nat → Bool
  | [], [] => true
  | q :: t, d :: u => decide (q.1 ≤ d) && decide (d ≤ q.2) && wiR t u
  | _, _ => false
theorem szR_pos : ∀ p : List (Nat × Nat), 1 ≤ szR p
  | [] => Nat.le_refl _
  | _ :: t => Nat.mul_pos (Nat.succ_pos _) (szR_pos t)
theorem szR_le : ∀ {p : List (Nat × Nat)}, Bnd p → szR p ≤ 256 ^ p.length
  | [], _ => Nat.le_refl _
  | q :: t, h => by
    have h1 := h q List.mem_cons_self
    have h2 := szR_le (p := t) (fun x hx => h x (List.mem_cons_of_mem _ hx))
    rw [szR, List.length_cons, Nat.pow_succ, Nat.mul_comm]
    exact Nat.mul_le_mul h2 (by omega)
theorem ntR_length : ∀ (p : List (Nat × Nat)) (k : Nat), (ntR p k).length = p.length
  | [], _ => rfl
  | q :: t, k => by rw [ntR, List.length_cons, List.length_cons, ntR_length t]
theorem ntR_in : ∀ {p : List (Nat × Nat)} (k : Nat), Bnd p → wiR p (ntR p k) = true
  | [], _, _ => rfl
  | q :: t, k, h => by
    have h1 := h q List.mem_cons_self
    have h2 := ntR_in (p := t) (k / (q.2 - q.1 + 1)) (fun x hx => h x (List.mem_cons_of_mem _ hx))
    have h3 : k % (q.2 - q.1 + 1) < q.2 - q.1 + 1 := Nat.mod_lt k (Nat.succ_pos _)
    rw [ntR, wiR, h2, Bool.and_true, Bool.and_eq_true, decide_eq_true_eq, decide_eq_true_eq]
    exact ⟨by omega, by omega⟩
theorem wiR_small : ∀ {p : List (Nat × Nat)} {u : List Nat}, Bnd p → wiR p u = true → ∀ d ∈ u, d < 256
  | [], [], _, _, d, hd => by cases hd
  | [], _ :: _, _, hw, _, _ => by cases hw
  | _ :: _, [], _, hw, _, _ => by cases hw
  | q :: t, c :: u, h, hw, d, hd => by
    rw [wiR, Bool.and_eq_true, Bool.and_eq_true, decide_eq_true_eq, decide_eq_true_eq] at hw
    have h1 := h q List.mem_cons_self
    rcases List.mem_cons.1 hd with rfl | hd
    · omega
    · exact wiR_small (p := t) (fun x hx => h x (List.mem_cons_of_mem _ hx)) hw.2 d hd
theorem wiR_length : ∀ {p : List (Nat × Nat)} {u : List Nat}, wiR p u = true → u.length = p.length
  | [], [], _ => rfl
  | [], _ :: _, hw => by cases hw
  | _ :: _, [], hw => by cases hw
  | q :: t, c :: u, hw => by
    rw [wiR, Bool.and_eq_true] at hw
    rw [List.length_cons, List.length_cons, wiR_length hw.2]
/-- A greater number has a greater code. -/
theorem ntR_lt : ∀ {p : List (Nat × Nat)} {k m : Nat}, Bnd p → k < m → m < szR p → nuR (ntR p k) < nuR (ntR p m)
  | [], k, m, _, hk, hm => by rw [szR] at hm; omega
  | q :: t, k, m, h, hk, hm => by
    have h1 := h q List.mem_cons_self
    have ht : Bnd t := fun x hx => h x (List.mem_cons_of_mem _ hx)
    have hw : 0 < q.2 - q.1 + 1 := Nat.succ_pos _
    rw [ntR, ntR, nuR, nuR]
    generalize hww : q.2 - q.1 + 1 = w at *
    have a1 := Nat.mod_lt k hw
    have a2 := Nat.mod_lt m hw
    have hle : k / w ≤ m / w := Nat.div_le_div_right (Nat.le_of_lt hk)
    rcases Nat.lt_or_ge (k / w) (m / w) with hq | hq
    · have hmt : m / w < szR t := by
        rw [szR, hww] at hm
        exact Nat.div_lt_of_lt_mul hm
      have := ntR_lt ht hq hmt
      omega
    · have heq : k / w = m / w := by omega
      rw [heq]
      have e1 := Nat.div_add_mod k w
      have e2 := Nat.div_add_mod m w
      rw [heq] at e1
      omega
/-- The first one, and the last. -/
theorem ntR_first : ∀ p : List (Nat × Nat), ntR p 0 = p.map (·.1)
  | [] => rfl
  | q :: t => by
    have e1 : 0 % (q.2 - q.1 + 1) = 0 := Nat.zero_mod _
    have e2 : 0 / (q.2 - q.1 + 1) = 0 := Nat.zero_div _
    rw [ntR, e1, e2, ntR_first t, List.map_cons, Nat.add_zero]
theorem ntR_last : ∀ {p : List (Nat × Nat)}, Bnd p → ntR p (szR p - 1) = p.map (·.2)
  | [], _ => rfl
  | q :: t, h => by
    have h1 := h q List.mem_cons_self
    have ht : Bnd t := fun x hx => h x (List.mem_cons_of_mem _ hx)
    have hs := szR_pos t
    have hw : 0 < q.2 - q.1 + 1 := Nat.succ_pos _
    have key : szR (q :: t) - 1 = (szR t - 1) * (q.2 - q.1 + 1) + (q.2 - q.1) := by
      rw [szR]
      obtain ⟨s, hs'⟩ : ∃ s, szR t = s + 1 := ⟨szR t - 1, by omega⟩
      rw [hs', Nat.mul_comm, Nat.succ_mul]
      simp only [Nat.add_sub_cancel]
      omega
    have k1 : ((szR t - 1) * (q.2 - q.1 + 1) + (q.2 - q.1)) % (q.2 - q.1 + 1) = q.2 - q.1 := by rw [Nat.add_comm, Nat.add_mul_mod_self_right]; exact Nat.mod_eq_of_lt (by omega)
    have k2 : ((szR t - 1) * (q.2 - q.1 + 1) + (q.2 - q.1)) / (q.2 - q.1 + 1) = szR t - 1 := by rw [Nat.add_comm, Nat.add_mul_div_right _ _ hw, Nat.div_eq_of_lt (by omega), Nat.zero_add]
    rw [key, ntR, k1, k2, ntR_last ht, List.map_cons]
    congr 1
    omega
/-- One within another. -/
def hoR : List (Nat × Nat) → List (Nat × Nat) → Bool
  | [], [] => true
  | q :: t, r :: u => decide (q.1 ≤ r.1) && decide (r.2 ≤ q.2) && hoR t u
  | _, _ => false
theorem hoR_in : ∀ {p r : List (Nat × Nat)} {u : List Nat}, hoR p r = true → wiR r u = true → wiR p u = true
  | [], [], [], _, _ => rfl
  | [], [], _ :: _, _, hw => by cases hw
  | [], _ :: _, _, hh, _ => by cases hh
  | _ :: _, [], _, hh, _ => by cases hh
  | _ :: _, _ :: _, [], _, hw => by cases hw
  | q :: t, r :: s, d :: u, hh, hw => by
    rw [hoR, Bool.and_eq_true, Bool.and_eq_true, decide_eq_true_eq, decide_eq_true_eq] at hh
    rw [wiR, Bool.and_eq_true, Bool.and_eq_true, decide_eq_true_eq, decide_eq_true_eq] at hw ⊢
    exact ⟨⟨by omega, by omega⟩, hoR_in hh.2 hw.2⟩
theorem hoR_sz : ∀ {p r : List (Nat × Nat)}, Bnd r → hoR p r = true → szR r ≤ szR p
  | [], [], _, _ => Nat.le_refl _
  | [], _ :: _, _, hh => by cases hh
  | _ :: _, [], _, hh => by cases hh
  | q :: t, r :: s, hb, hh => by
    rw [hoR, Bool.and_eq_true, Bool.and_eq_true, decide_eq_true_eq, decide_eq_true_eq] at hh
    have h1 := hb r List.mem_cons_self
    rw [szR, szR]
    exact Nat.mul_le_mul (by omega) (hoR_sz (fun x hx => hb x (List.mem_cons_of_mem _ hx)) hh.2)
theorem hoR_refl : ∀ p : List (Nat × Nat), hoR p p = true
  | [] => rfl
  | q :: t => by rw [hoR, hoR_refl t]; simp
theorem hoR_trans : ∀ {a b c : List (Nat × Nat)}, hoR a b = true → hoR b c = true → hoR a c = true
  | [], [], [], _, _ => rfl
  | [], [], _ :: _, _, h => by cases h
  | [], _ :: _, _, h, _ => by cases h
  | _ :: _, [], _, h, _ => by cases h
  | _ :: _, _ :: _, [], _, h => by cases h
  | q :: t, r :: s, x :: u, h1, h2 => by
    rw [hoR, Bool.and_eq_true, Bool.and_eq_true, decide_eq_true_eq, decide_eq_true_eq] at h1 h2 ⊢
    exact ⟨⟨by omega, by omega⟩, hoR_trans h1.2 h2.2⟩
theorem hoR_anti : ∀ {a b : List (Nat × Nat)}, hoR a b = true → hoR b a = true → a = b
  | [], [], _, _ => rfl
  | [], _ :: _, h, _ => by cases h
  | _ :: _, [], h, _ => by cases h
  | q :: t, r :: s, h1, h2 => by
    rw [hoR, Bool.and_eq_true, Bool.and_eq_true, decide_eq_true_eq, decide_eq_true_eq] at h1 h2
    rw [hoR_anti h1.2 h2.2]
    congr 1
    exact Prod.ext (by omega) (by omega)
end Go.Proofs.YtmjneokjgcgchaaGreat
/-
  Layer 6, plainly: of a list those that may be and that no other one holds, each once, in order: what is known of them.
-/
namespace Go.Proofs.YtmjneokjgcgchaaGreat

section
variable {α : Type}
/-- What 'holds' and 'goes ahead of' are. -/
structure Hol (ok : α → Bool) (ho lt : α → α → Bool) : Prop where
  okl : ∀ a b, ho a b = true → ok a = true ∧ ok b = true
  refl : ∀ a, ok a = true → ho a a = true
  trans : ∀ a b c, ho a b = true → ho b c = true → ho a c = true
  anti : ∀ a b, ho a b = true → ho b a = true → a = b
  irr : ∀ a, lt a a = false
  ltr : ∀ a b c, lt a b = true → lt b c = true → lt a c = true
  tot : ∀ a b, a ≠ b → lt a b = true ∨ lt b a = true
/-- One of a list that stays: it may be, and no other one of the list holds it. -/
def Sty (ok : α → Bool) (ho : α → α → Bool) (l : List α) (r : α) : Prop := r ∈ l ∧ ok r = true ∧ ∀ s ∈ l, s ≠ r → ho s r = false
/-- Those that stay, each once, in order. -/
structure Cnn (ok : α → Bool) (ho lt : α → α → Bool) (l m : List α) : Prop where
  ord : m.Pairwise fun a b => lt a b = true
  mem : ∀ r, r ∈ m ↔ Sty ok ho l r
variable {ok : α → Bool} {ho lt : α → α → Bool}
theorem ord_unique (h : Hol ok ho lt) : ∀ {a b : List α}, a.Pairwise (fun x y => lt x y = true) → b.Pairwise (fun x y => lt x y = true) → (∀ r, r ∈ a ↔ r ∈ b) → a = b
  | [], [], _, _, _ => rfl
  | [], y :: b, _, _, hm => by have := (hm y).2 List.mem_cons_self; cases this
  | x :: a, [], _, _, hm => by have := (hm x).1 List.mem_cons_self; cases this
  | x :: a, y :: b, ha, hb, hm => by
    obtain ⟨hx, ha'⟩ := List.pairwise_cons.1 ha
    obtain ⟨hy, hb'⟩ := List.pairwise_cons.1 hb
    have hxy : x = y := by
      rcases List.mem_cons.1 ((hm x).1 List.mem_cons_self) with e | h1
      · exact e
      · rcases List.mem_cons.1 ((hm y).2 List.mem_cons_self) with e | h2
        · exact e.symm
        · have q := h.ltr _ _ _ (hy x h1) (hx y h2)
          rw [h.irr] at q
          cases q
    subst hxy
    have hne : ∀ {c : List α}, (∀ z ∈ c, lt x z = true) → x ∉ c := fun hc hz => by have := hc x hz; rw [h.irr] at this; cases this
    rw [ord_unique h ha' hb' (fun r => ⟨fun hr => ?_, fun hr => ?_⟩)]
    · rcases List.mem_cons.1 ((hm r).1 (List.mem_cons_of_mem _ hr)) with e | h1
      · subst e; exact absurd hr (hne hx)
      · exact h1
    · rcases List.mem_cons.1 ((hm r).2 (List.mem_cons_of_mem _ hr)) with e | h1
      · subst e; exact absurd hr (hne hy)
      · exact h1
theorem Cnn.unique (h : Hol ok ho lt) {l m m' : List α} (a : Cnn ok ho lt l m) (b : Cnn ok ho lt l m') : m = m' := ord_unique h a.ord b.ord (fun r => (a.mem r).trans (b.mem r).symm)
theorem Cnn.apart {l m : List α} (a : Cnn ok ho lt l m) {s r : α} (hs : s ∈ m) (hr : r ∈ m) (hne : s ≠ r) : ho s r = false := ((a.mem r).1 hr).2.2 s ((a.mem s).1 hs).1 hne
/-- Those that stay, once more, are the same. -/
theorem Cnn.again {l m : List α} (a : Cnn ok ho lt l m) : Cnn ok ho lt m m :=
  ⟨a.ord, fun r => ⟨fun hr => ⟨hr, ((a.mem r).1 hr).2.1, fun _ hs hne => a.apart hs hr hne⟩, fun h => h.1⟩⟩
/-- Over each one that may be there is one that stays. -/
theorem stays [DecidableEq α] (h : Hol ok ho lt) (l : List α) : ∀ (n : Nat) (r : α), r ∈ l → ok r = true → (l.filter fun s => ho s r && decide (s ≠ r)).length ≤ n → ∃ s, Sty ok ho l s ∧ ho s r = true := by
  intro n
  induction n with
  | zero =>
    intro r hr ho' hn
    refine ⟨r, ⟨hr, ho', fun s hs hne => ?_⟩, h.refl r ho'⟩
    cases hb : ho s r with
    | false => rfl
    | true =>
      have : s ∈ l.filter fun s => ho s r && decide (s ≠ r) := List.mem_filter.2 ⟨hs, by simp [hb, hne]⟩
      rw [List.length_eq_zero_iff.1 (Nat.le_zero.1 hn)] at this
      cases this
  | succ n ih =>
    intro r hr ho' hn
    by_cases hex : ∃ s ∈ l, s ≠ r ∧ ho s r = true
    · obtain ⟨s, hs, hne, hb⟩ := hex
      have hlt : (l.filter fun x => ho x s && decide (x ≠ s)).length < (l.filter fun x => ho x r && decide (x ≠ r)).length := by
        have hsub : ∀ x, (ho x s && decide (x ≠ s)) = true → (ho x r && decide (x ≠ r)) = true := fun x hx => by
          rw [Bool.and_eq_true, decide_eq_true_eq] at hx ⊢
          refine ⟨h.trans _ _ _ hx.1 hb, fun e => ?_⟩
          subst e
          exact hne (h.anti _ _ hb hx.1)
        have : ∀ (k : List α), s ∈ k → (k.filter fun x => ho x s && decide (x ≠ s)).length < (k.filter fun x => ho x r && decide (x ≠ r)).length := by
          have hle : ∀ k : List α, (k.filter fun x => ho x s && decide (x ≠ s)).length ≤ (k.filter fun x => ho x r && decide (x ≠ r)).length := by
            intro k
            induction k with
            | nil => simp
            | cons x k ihk =>
              rw [List.filter_cons, List.filter_cons]
              by_cases hp : (ho x s && decide (x ≠ s)) = true
              · rw [if_pos hp, if_pos (hsub x hp)]; simp only [List.length_cons]; omega
              · rw [if_neg hp]
                split
                · simp only [List.length_cons]; omega
                · exact ihk
          intro k hk
          induction k with
          | nil => cases hk
          | cons x k ihk =>
            rw [List.filter_cons, List.filter_cons]
            by_cases hxs : x = s
            · subst hxs
              rw [if_neg (by simp), if_pos (by simp [hb, hne])]
              have := hle k
              simp only [List.length_cons]
              omega
            · have hk' : s ∈ k := by
                rcases List.mem_cons.1 hk with e | hk
                · exact absurd e.symm hxs
                · exact hk
              have := ihk hk'
              by_cases hp : (ho x s && decide (x ≠ s)) = true
              · rw [if_pos hp, if_pos (hsub x hp)]; simp only [List.length_cons]; omega
              · rw [if_neg hp]
                split
                · simp only [List.length_cons]; omega
                · exact this
        exact this l hs
      obtain ⟨z, hz, hzs⟩ := ih s hs (h.okl _ _ hb).1 (by omega)
      exact ⟨z, hz, h.trans _ _ _ hzs hb⟩
    · refine ⟨r, ⟨hr, ho', fun s hs hne => ?_⟩, h.refl r ho'⟩
      cases hb : ho s r with
      | false => rfl
      | true => exact absurd ⟨s, hs, hne, hb⟩ hex
/-- What is in one of the list is in one that stays. -/
theorem Cnn.covers [DecidableEq α] (h : Hol ok ho lt) {l m : List α} (a : Cnn ok ho lt l m) {r : α} (hr : r ∈ l) (hk : ok r = true) : ∃ s ∈ m, ho s r = true := by
  obtain ⟨s, hs, hb⟩ := stays h l _ r hr hk (Nat.le_refl _)
  exact ⟨s, (a.mem s).2 hs, hb⟩
theorem Cnn.whole [DecidableEq α] (h : Hol ok ho lt) {l m : List α} (a : Cnn ok ho lt l m) {inn : α → Bool} (h1 : ∀ r, inn r = true → ok r = true) (h2 : ∀ s r, ho s r = true → inn r = true → inn s = true) : m.any inn = l.any inn := by
  rw [Bool.eq_iff_iff, List.any_eq_true, List.any_eq_true]
  constructor
  · rintro ⟨r, hr, hi⟩
    exact ⟨r, ((a.mem r).1 hr).1, hi⟩
  · rintro ⟨r, hr, hi⟩
    obtain ⟨s, hs, hb⟩ := a.covers h hr (h1 r hi)
    exact ⟨s, hs, h2 s r hb hi⟩
/-- One more: it stays unless another one that stays holds it. -/
theorem Cnn.more [DecidableEq α] (h : Hol ok ho lt) {l m : List α} {r : α} (a : Cnn ok ho lt (l ++ [r]) m) (hk : ok r = true) : r ∈ m ↔ ¬ ∃ s ∈ m, s ≠ r ∧ ho s r = true := by
  constructor
  · rintro hr ⟨s, hs, hne, hb⟩
    have := a.apart hs hr hne
    rw [hb] at this
    cases this
  · intro hno
    obtain ⟨s, hs, hb⟩ := a.covers h (r := r) (by simp) hk
    by_cases e : s = r
    · subst e; exact hs
    · exact absurd ⟨s, hs, e, hb⟩ hno
theorem Cnn.skip (h : Hol ok ho lt) {l m : List α} {r : α} (a : Cnn ok ho lt (l ++ [r]) m) (hk : ok r = false) : Cnn ok ho lt l m ∧ r ∉ m := by
  have hno : r ∉ m := fun hr => by have := ((a.mem r).1 hr).2.1; rw [hk] at this; cases this
  refine ⟨⟨a.ord, fun x => (a.mem x).trans ⟨fun hx => ?_, fun hx => ?_⟩⟩, hno⟩
  · refine ⟨?_, hx.2.1, fun s hs hne => hx.2.2 s (List.mem_append_left _ hs) hne⟩
    rcases List.mem_append.1 hx.1 with hm | hm
    · exact hm
    · have e : x = r := by simpa using hm
      subst e
      have := hx.2.1
      rw [hk] at this
      cases this
  · refine ⟨List.mem_append_left _ hx.1, hx.2.1, fun s hs hne => ?_⟩
    rcases List.mem_append.1 hs with hm | hm
    · exact hx.2.2 s hm hne
    · have e : s = r := by simpa using hm
      subst e
      cases hb : ho s x with
      | false => rfl
      | true => have := (h.okl _ _ hb).1; rw [hk] at this; cases this
end
end Go.Proofs.YtmjneokjgcgchaaGreat
/-
  Layer 6, plainly: how the document's own Canon picks those that stay, and puts them in order.
-/
namespace Go.Proofs.YtmjneokjgcgchaaGreat

section
variable {α : Type}
/-- Put where it is to be. -/
def insL (lt : α → α → Bool) (r : α) : List α → List α
  | [] => [r]
  | x :: t => if lt r x = true then r :: x :: t else x :: insL lt r t
theorem insL_mem (lt : α → α → Bool) (r : α) : ∀ (l : List α) (y : α), y ∈ insL lt r l ↔ y = r ∨ y ∈ l
  | [], y => by simp [insL]
  | x :: t, y => by
    rw [insL]
    split
    · simp
    · rw [List.mem_cons, insL_mem lt r t y, List.mem_cons]
      constructor
      · rintro (h | h | h)
        · exact .inr (.inl h)
        · exact .inl h
        · exact .inr (.inr h)
      · rintro (h | h | h)
        · exact .inr (.inl h)
        · exact .inl h
        · exact .inr (.inr h)
theorem insL_ord {ok : α → Bool} {ho lt : α → α → Bool} (h : Hol ok ho lt) {r : α} : ∀ {l : List α}, l.Pairwise (fun a b => lt a b = true) → r ∉ l → (insL lt r l).Pairwise (fun a b => lt a b = true)
  | [], _, _ => List.pairwise_singleton _ _
  | x :: t, hp, hn => by
    obtain ⟨hx, ht⟩ := List.pairwise_cons.1 hp
    rw [insL]
    split
    · rename_i hlt
      refine List.pairwise_cons.2 ⟨fun y hy => ?_, hp⟩
      rcases List.mem_cons.1 hy with e | hy
      · subst e; exact hlt
      · exact h.ltr _ _ _ hlt (hx y hy)
    · rename_i hlt
      have hne : x ≠ r := fun e => hn (e ▸ List.mem_cons_self)
      have hxr : lt x r = true := by
        rcases h.tot x r hne with h1 | h1
        · exact h1
        · exact absurd h1 hlt
      refine List.pairwise_cons.2 ⟨fun y hy => ?_, insL_ord h ht (fun hr => hn (List.mem_cons_of_mem _ hr))⟩
      rcases (insL_mem lt r t y).1 hy with e | hy
      · subst e; exact hxr
      · exact hx y hy
theorem insL_length (lt : α → α → Bool) (r : α) : ∀ l : List α, (insL lt r l).length = l.length + 1
  | [] => rfl
  | x :: t => by
    rw [insL]
    split
    · rfl
    · rw [List.length_cons, insL_length lt r t, List.length_cons]
variable [DecidableEq α]
/-- Does one stay, with those ahead of it? -/
def kpB (ok : α → Bool) (ho : α → α → Bool) (l pre : List α) (x : α) : Bool := ok x && l.all (fun s => decide (s = x) || !ho s x) && decide (x ∉ pre)
def canT (ok : α → Bool) (ho lt : α → α → Bool) (l : List α) : List α → List α → List α → List α
  | _, [], acc => acc
  | pre, x :: t, acc => canT ok ho lt l (pre ++ [x]) t (if kpB ok ho l pre x = true then insL lt x acc else acc)
def canL (ok : α → Bool) (ho lt : α → α → Bool) (l : List α) : List α := canT ok ho lt l [] l []
variable {ok : α → Bool} {ho lt : α → α → Bool}
theorem kpB_iff {l pre : List α} {x : α} : kpB ok ho l pre x = true ↔ (ok x = true ∧ ∀ s ∈ l, s ≠ x → ho s x = false) ∧ x ∉ pre := by
  unfold kpB
  rw [Bool.and_eq_true, Bool.and_eq_true, List.all_eq_true, decide_eq_true_eq]
  constructor
  · rintro ⟨⟨h1, h2⟩, h3⟩
    refine ⟨⟨h1, fun s hs hne => ?_⟩, h3⟩
    have := h2 s hs
    simpa [hne] using this
  · rintro ⟨⟨h1, h2⟩, h3⟩
    refine ⟨⟨h1, fun s hs => ?_⟩, h3⟩
    by_cases e : s = x
    · simp [e]
    · simp [h2 s hs e]
theorem canT_inv (h : Hol ok ho lt) (l : List α) : ∀ (rest pre acc : List α), pre ++ rest = l → acc.Pairwise (fun a b => lt a b = true) → (∀ r, r ∈ acc ↔ (r ∈ pre ∧ ok r = true ∧ ∀ s ∈ l, s ≠ r → ho s r = false)) → Cnn ok ho lt l (canT ok ho lt l pre rest acc)
  | [], pre, acc, hl, ho', hm => by
    rw [List.append_nil] at hl
    subst hl
    exact ⟨ho', hm⟩
  | x :: t, pre, acc, hl, ho', hm => by
    rw [canT]
    refine canT_inv h l t (pre ++ [x]) _ (by rw [List.append_assoc]; exact hl) ?_ ?_
    · split
      · rename_i hk
        have hk' := kpB_iff.1 hk
        exact insL_ord h ho' (fun hx => hk'.2 ((hm x).1 hx).1)
      · exact ho'
    · intro r
      by_cases hk : kpB ok ho l pre x = true
      · have hk' := kpB_iff.1 hk
        rw [if_pos hk, insL_mem, hm r, List.mem_append, List.mem_singleton]
        constructor
        · rintro (e | ⟨h1, h2⟩)
          · subst e; exact ⟨.inr rfl, hk'.1⟩
          · exact ⟨.inl h1, h2⟩
        · rintro ⟨h1 | h1, h2⟩
          · exact .inr ⟨h1, h2⟩
          · exact .inl h1
      · rw [if_neg hk, hm r, List.mem_append, List.mem_singleton]
        constructor
        · rintro ⟨h1, h2⟩
          exact ⟨.inl h1, h2⟩
        · rintro ⟨h1 | h1, h2⟩
          · exact ⟨h1, h2⟩
          · subst h1
            refine ⟨?_, h2⟩
            apply Classical.byContradiction
            intro hn
            exact hk (kpB_iff.2 ⟨h2, hn⟩)
/-- The document's own Canon tells those that stay, each once, in order. -/
theorem canL_cnn (h : Hol ok ho lt) (l : List α) : Cnn ok ho lt l (canL ok ho lt l) := canT_inv h l l [] [] rfl List.Pairwise.nil (fun r => Iff.intro (fun hr => by cases hr) (fun hr => by have := hr.1; cases this))
theorem canT_length (l : List α) : ∀ (rest pre acc : List α), (canT ok ho lt l pre rest acc).length ≤ acc.length + rest.length
  | [], _, acc => by rw [canT]; simp
  | x :: t, pre, acc => by
    rw [canT]
    have := canT_length l t (pre ++ [x]) (if kpB ok ho l pre x = true then insL lt x acc else acc)
    have h2 : (if kpB ok ho l pre x = true then insL lt x acc else acc).length ≤ acc.length + 1 := by
      split
      · rw [insL_length]; exact Nat.le_refl _
      · omega
    rw [List.length_cons]
    omega
theorem canL_length (l : List α) : (canL ok ho lt l).length ≤ l.length := by
  have := canT_length (ok := ok) (ho := ho) (lt := lt) l l [] []
  simpa [canL] using this
end
end Go.Proofs.YtmjneokjgcgchaaGreat
/-
  Layer 6, plainly: codespaces by their numbers, and by the bounds of their bytes.
-/
namespace Go.Proofs.YtmjneokjgcgchaaGreat

/-- A codespace: how many bytes, the lowest code, the highest. -/
structure Rc where
  n : Int
  lo : Int
  hi : Int
  deriving DecidableEq
/-- Bytes as numbers, the last one first. -/
def revN (l : List UInt8) : List Nat := l.reverse.map (·.toNat)
theorem revN_snoc (l : List UInt8) (b : UInt8) : revN (l ++ [b]) = b.toNat :: revN l := by simp [revN]
theorem revN_length (l : List UInt8) : (revN l).length = l.length := by simp [revN]
theorem be_nu : ∀ (n : Nat) (v : Int), 0 ≤ v → v < 256 ^ n → (nuR (revN (beL n v)) : Int) = v
  | 0, v, h0, h1 => by simp at h1; simp [beL, revN, nuR]; omega
  | n + 1, v, h0, h1 => by
    have e : (256 : Int) ^ (n + 1) = 256 ^ n * 256 := Int.pow_succ 256 n
    rw [e] at h1
    have ih := be_nu n (v / 256) (by omega) (by omega)
    have hb := low_byte v
    rw [beL, revN_snoc, nuR]
    omega
/-- The bounds of a codespace's bytes, the last one first. -/
def prs (r : Rc) : List (Nat × Nat) := (revN (codeL r.n r.lo)).zip (revN (codeL r.n r.hi))
/-- May a codespace be? -/
def saneR (r : Rc) : Bool := saneB r.n r.lo && saneB r.n r.hi && (prs r).all fun q => decide (q.1 ≤ q.2)
theorem codeL_sane {n v : Int} (h : saneB n v = true) : codeL n v = beL n.toNat v := by unfold codeL; rw [if_pos h]
theorem code_len {n v : Int} (h : saneB n v = true) : (codeL n v).length = n.toNat := by rw [codeL_sane h, beL_length]
theorem code_nu {n v : Int} (h : saneB n v = true) : (nuR (revN (codeL n v)) : Int) = v := by
  rw [codeL_sane h]
  have h2 := (saneB_iff n v).1 h
  exact be_nu n.toNat v h2.2.2.1 h2.2.2.2
theorem saneR_iff (r : Rc) : saneR r = true ↔ saneB r.n r.lo = true ∧ saneB r.n r.hi = true ∧ ∀ q ∈ prs r, q.1 ≤ q.2 := by
  unfold saneR
  rw [Bool.and_eq_true, Bool.and_eq_true, List.all_eq_true, and_assoc]
  simp only [decide_eq_true_eq]
theorem prs_len {r : Rc} (h : saneR r = true) : (prs r).length = r.n.toNat := by
  have h1 := (saneR_iff r).1 h
  unfold prs
  rw [List.length_zip, revN_length, revN_length, code_len h1.1, code_len h1.2.1, Nat.min_self]
theorem prs_bnd {r : Rc} (h : saneR r = true) : Bnd (prs r) := fun q hq => by
  have h1 := (saneR_iff r).1 h
  refine ⟨h1.2.2 q hq, ?_⟩
  have := (List.of_mem_zip hq).2
  unfold revN at this
  obtain ⟨b, _, e⟩ := List.mem_map.1 this
  rw [← e]
  exact b.toNat_lt
theorem prs_lo {r : Rc} (h : saneR r = true) : (prs r).map (·.1) = revN (codeL r.n r.lo) := by
  have h1 := (saneR_iff r).1 h
  exact List.map_fst_zip (by rw [revN_length, revN_length, code_len h1.1, code_len h1.2.1]; exact Nat.le_refl _)
theorem prs_hi {r : Rc} (h : saneR r = true) : (prs r).map (·.2) = revN (codeL r.n r.hi) := by
  have h1 := (saneR_iff r).1 h
  exact List.map_snd_zip (by rw [revN_length, revN_length, code_len h1.1, code_len h1.2.1]; exact Nat.le_refl _)
theorem prs_inj {a b : Rc} (ha : saneR a = true) (hb : saneR b = true) (hn : a.n = b.n) (h : prs a = prs b) : a = b := by
  have a1 := (saneR_iff a).1 ha
  have b1 := (saneR_iff b).1 hb
  have e1 : revN (codeL a.n a.lo) = revN (codeL b.n b.lo) := by rw [← prs_lo ha, ← prs_lo hb, h]
  have e2 : revN (codeL a.n a.hi) = revN (codeL b.n b.hi) := by rw [← prs_hi ha, ← prs_hi hb, h]
  have l1 := code_nu a1.1
  have l2 := code_nu b1.1
  have l3 := code_nu a1.2.1
  have l4 := code_nu b1.2.1
  rw [e1] at l1
  rw [e2] at l3
  obtain ⟨an, al, ah⟩ := a
  obtain ⟨bn, bl, bh⟩ := b
  simp only at *
  rw [hn, ← l1, ← l3, l2, l4]
/-- Is a code in one? -/
def inC (r : Rc) (n v : Int) : Bool := saneR r && saneB n v && decide (n = r.n) && wiR (prs r) (revN (codeL n v))
/-- Does one hold another one? -/
def hoC (a b : Rc) : Bool := saneR a && saneR b && decide (a.n = b.n) && hoR (prs a) (prs b)
/-- Does one go ahead of another one? -/
def ltC (a b : Rc) : Bool := decide (a.n < b.n ∨ (a.n = b.n ∧ (a.lo < b.lo ∨ (a.lo = b.lo ∧ a.hi < b.hi))))
theorem hoC_iff (a b : Rc) : hoC a b = true ↔ saneR a = true ∧ saneR b = true ∧ a.n = b.n ∧ hoR (prs a) (prs b) = true := by
  unfold hoC
  rw [Bool.and_eq_true, Bool.and_eq_true, Bool.and_eq_true, decide_eq_true_eq, and_assoc, and_assoc]
theorem ltC_iff (a b : Rc) : ltC a b = true ↔ (a.n < b.n ∨ (a.n = b.n ∧ (a.lo < b.lo ∨ (a.lo = b.lo ∧ a.hi < b.hi)))) := by
  unfold ltC
  exact decide_eq_true_iff
theorem hol : Hol saneR hoC ltC where
  okl a b h := by have := (hoC_iff a b).1 h; exact ⟨this.1, this.2.1⟩
  refl a h := (hoC_iff a a).2 ⟨h, h, rfl, hoR_refl _⟩
  trans a b c h1 h2 := by
    have q1 := (hoC_iff a b).1 h1
    have q2 := (hoC_iff b c).1 h2
    exact (hoC_iff a c).2 ⟨q1.1, q2.2.1, q1.2.2.1.trans q2.2.2.1, hoR_trans q1.2.2.2 q2.2.2.2⟩
  anti a b h1 h2 := by
    have q1 := (hoC_iff a b).1 h1
    have q2 := (hoC_iff b a).1 h2
    exact prs_inj q1.1 q1.2.1 q1.2.2.1 (hoR_anti q1.2.2.2 q2.2.2.2)
  irr a := by
    cases h : ltC a a with
    | false => rfl
    | true => have := (ltC_iff a a).1 h; omega
  ltr a b c h1 h2 := by
    have q1 := (ltC_iff a b).1 h1
    have q2 := (ltC_iff b c).1 h2
    exact (ltC_iff a c).2 (by omega)
  tot a b h := by
    rw [ltC_iff, ltC_iff]
    by_cases e1 : a.n = b.n
    · by_cases e2 : a.lo = b.lo
      · by_cases e3 : a.hi = b.hi
        · obtain ⟨an, al, ah⟩ := a
          obtain ⟨bn, bl, bh⟩ := b
          simp only at e1 e2 e3
          exact absurd (by rw [e1, e2, e3]) h
        · omega
      · omega
    · omega
theorem inC_iff (r : Rc) (n v : Int) : inC r n v = true ↔ saneR r = true ∧ saneB n v = true ∧ n = r.n ∧ wiR (prs r) (revN (codeL n v)) = true := by
  unfold inC
  rw [Bool.and_eq_true, Bool.and_eq_true, Bool.and_eq_true, decide_eq_true_eq, and_assoc, and_assoc]
/-- What is in one that is held is in the one that holds it. -/
theorem inC_held {a b : Rc} {n v : Int} (h : hoC a b = true) (hi : inC b n v = true) : inC a n v = true := by
  have q := (hoC_iff a b).1 h
  have p := (inC_iff b n v).1 hi
  exact (inC_iff a n v).2 ⟨q.1, p.2.1, p.2.2.1.trans q.2.2.1.symm, hoR_in q.2.2.2 p.2.2.2⟩
/-- How many codes are in one. -/
def sizeR (r : Rc) : Nat := if saneR r = true then szR (prs r) else 0
theorem sizeR_le (r : Rc) : sizeR r ≤ 4294967296 := by
  unfold sizeR
  split
  · rename_i h
    have h1 := (saneB_iff _ _).1 ((saneR_iff r).1 h).1
    have h2 := szR_le (prs_bnd h)
    rw [prs_len h] at h2
    have h3 : r.n.toNat ≤ 4 := by omega
    exact Nat.le_trans h2 (Nat.le_trans (Nat.pow_le_pow_right (by decide) h3) (by decide))
  · exact Nat.zero_le _
theorem sizeR_held {a b : Rc} (h : hoC a b = true) : 1 ≤ sizeR b ∧ sizeR b ≤ sizeR a := by
  have q := (hoC_iff a b).1 h
  unfold sizeR
  rw [if_pos q.1, if_pos q.2.1]
  exact ⟨szR_pos _, hoR_sz (prs_bnd q.2.1) q.2.2.2⟩
theorem nu_be : ∀ {u : List Nat}, (∀ d ∈ u, d < 256) → revN (beL u.length (nuR u : Nat)) = u ∧ nuR u < 256 ^ u.length
  | [], _ => ⟨rfl, by decide⟩
  | d :: u, h => by
    have hd := h d List.mem_cons_self
    have ih := nu_be (u := u) (fun x hx => h x (List.mem_cons_of_mem _ hx))
    refine ⟨?_, ?_⟩
    · have e1 : ((nuR (d :: u) : Nat) : Int) / 256 = (nuR u : Nat) := by rw [nuR]; omega
      have e2 : (((nuR (d :: u) : Nat) : Int) % 256).toNat = d := by rw [nuR]; omega
      rw [List.length_cons, beL, revN_snoc, e1, e2, ih.1, UInt8.toNat_ofNat_of_lt' hd]
    · rw [nuR, List.length_cons, Nat.pow_succ]
      have := ih.2
      omega
/-- The code of a number. -/
def nthC (r : Rc) (k : Nat) : Int := (nuR (ntR (prs r) k) : Nat)
theorem nthC_bytes {r : Rc} (h : saneR r = true) (k : Nat) : saneB r.n (nthC r k) = true ∧ revN (codeL r.n (nthC r k)) = ntR (prs r) k := by
  have hb := prs_bnd h
  have hw := ntR_in k hb
  have hl : (ntR (prs r) k).length = r.n.toNat := by rw [ntR_length, prs_len h]
  have hn := nu_be (wiR_small hb hw)
  rw [hl] at hn
  have h1 := (saneB_iff _ _).1 ((saneR_iff r).1 h).1
  have hs : saneB r.n (nthC r k) = true := by
    rw [saneB_iff]
    refine ⟨h1.1, h1.2.1, Int.natCast_nonneg _, ?_⟩
    have := hn.2
    unfold nthC
    have e : ((256 ^ r.n.toNat : Nat) : Int) = (256 : Int) ^ r.n.toNat := Int.natCast_pow 256 _
    rw [← e]
    exact Int.ofNat_lt.2 this
  exact ⟨hs, by rw [codeL_sane hs]; exact hn.1⟩
theorem nthC_in {r : Rc} (h : saneR r = true) (k : Nat) : inC r r.n (nthC r k) = true := by
  obtain ⟨h1, h2⟩ := nthC_bytes h k
  exact (inC_iff r _ _).2 ⟨h, h1, rfl, by rw [h2]; exact ntR_in k (prs_bnd h)⟩
theorem nthC_lt {r : Rc} (h : saneR r = true) {k m : Nat} (hk : k < m) (hm : m < sizeR r) : nthC r k < nthC r m := by
  unfold sizeR at hm
  rw [if_pos h] at hm
  have := ntR_lt (prs_bnd h) hk hm
  unfold nthC
  omega
theorem nthC_first {r : Rc} (h : saneR r = true) : nthC r 0 = r.lo := by
  unfold nthC
  rw [ntR_first, prs_lo h]
  exact code_nu ((saneR_iff r).1 h).1
theorem nthC_last {r : Rc} (h : saneR r = true) : nthC r (sizeR r - 1) = r.hi := by
  unfold nthC sizeR
  rw [if_pos h, ntR_last (prs_bnd h), prs_hi h]
  exact code_nu ((saneR_iff r).1 h).2.1
end Go.Proofs.YtmjneokjgcgchaaGreat
/-
  Whole numbers below 2^32 as floats: which of two is the greater one.
-/
namespace Go.Proofs.YtmjneokjgcgchaaGreat
open Ieee
theorem cut_zero (neg : Bool) (n : Nat) : Toward.even.cut neg n 0 = n := by
  have h1 : min 0 (n.log2 + 2) = 0 := Nat.zero_min _
  have h2 : n % 1 = 0 := Nat.mod_one n
  unfold Toward.cut
  simp only [h1, Nat.shiftLeft_zero, Nat.div_one, h2]
  rfl
theorem dbl : Ieee.double.signWeight = 9223372036854775808 ∧ Ieee.double.binade = 4503599627370496 ∧ Ieee.double.infRung = 9218868437227405312 ∧ Ieee.double.leastPlace = -1074 ∧ Ieee.double.fractionBits = 52 := by decide +kernel
theorem rung0 (L M : Nat) (hL : L ≤ 31) (m2 : M < 9007199254740992) : min ((L + 1022) * 4503599627370496 + M) 9218868437227405312 = (L + 1022) * 4503599627370496 + M := by
  apply Nat.min_eq_left
  omega
theorem rung3 (L M : Nat) (m1 : 4503599627370496 ≤ M) (m2 : M < 9007199254740992) : ((L + 1022) * 4503599627370496 + M) % 4503599627370496 = M - 4503599627370496 := by
  rw [Nat.add_comm, Nat.add_mul_mod_self_right]
  omega
theorem rung2 (L M : Nat) (hL : L ≤ 31) (m2 : M < 9007199254740992) : ((L + 1022) * 4503599627370496 + M) % 9223372036854775808 = (L + 1022) * 4503599627370496 + M := by
  apply Nat.mod_eq_of_lt
  omega
theorem rung1 (L M : Nat) (hL : L ≤ 31) (m2 : M < 9007199254740992) : ((L + 1022) * 4503599627370496 + M) / 9223372036854775808 % 2 = 0 := by
  rw [Nat.div_eq_of_lt (by omega)]
theorem rung4 (L M : Nat) (m1 : 4503599627370496 ≤ M) (m2 : M < 9007199254740992) : ((L + 1022) * 4503599627370496 + M) / 4503599627370496 = L + 1023 := by
  rw [Nat.add_comm, Nat.add_mul_div_right _ _ (by decide)]
  have : M / 4503599627370496 = 1 := Nat.div_eq_of_lt_le (by omega) (by omega)
  omega
theorem rung_read (L M : Nat) (hL : L ≤ 31) (m1 : 4503599627370496 ≤ M) (m2 : M < 9007199254740992) : Ieee.double.read ((L + 1022) * 4503599627370496 + M) = .number false M ((L : Int) - 52) := by
  obtain ⟨s1, s2, s3, s4, _⟩ := dbl
  have n1 : ¬ ((L + 1022) * 4503599627370496 + M < 4503599627370496) := by omega
  have n2 : (L + 1022) * 4503599627370496 + M < 9218868437227405312 := by omega
  unfold Format.read
  simp only [s1, s2, s3, s4, rung1 L M hL m2, rung2 L M hL m2, rung3 L M m1 m2, rung4 L M m1 m2]
  rw [if_neg n1, if_pos n2]
  have z1 : 4503599627370496 + (M - 4503599627370496) = M := by omega
  have z2 : (-1074 : Int) + ((L + 1023 - 1 : Nat) : Int) = (L : Int) - 52 := by omega
  rw [z1, z2]
  rfl
/-- The word of a whole number from 1 to below 2^32. -/
theorem near_pos (a : Nat) (h0 : 0 < a) (h : a < 4294967296) :
    Ieee.double.read (Ieee.double.nearest false a 0) = .number false (a * 2 ^ (52 - a.log2)) ((a.log2 : Int) - 52) ∧ a.log2 ≤ 31 := by
  have hL : a.log2 ≤ 31 := by
    have := (Nat.log2_lt (n := a) (k := 32) (by omega)).2 (by omega)
    omega
  have l1 : 2 ^ a.log2 ≤ a := Nat.log2_self_le (by omega)
  have l2 : a < 2 ^ (a.log2 + 1) := Nat.lt_log2_self
  obtain ⟨s1, s2, s3, s4, s5⟩ := dbl
  refine ⟨?_, hL⟩
  have hn : Ieee.double.nearest false a 0 = min ((max (0 + (a.log2 : Int) - ((52 : Nat) : Int)) (-1074) - (-1074)).toNat * 4503599627370496 + a <<< (0 - max (0 + (a.log2 : Int) - ((52 : Nat) : Int)) (-1074)).toNat) 9218868437227405312 := by
    unfold Format.nearest
    rw [if_neg (by omega)]
    simp only [s2, s3, s4, s5, Format.word]
    have e : (max (0 + (a.log2 : Int) - ((52 : Nat) : Int)) (-1074) - 0).toNat = 0 := by omega
    rw [e, cut_zero, if_neg Bool.false_ne_true]
  rw [hn]
  clear hn
  generalize a.log2 = L at *
  have m1 : 4503599627370496 ≤ a * 2 ^ (52 - L) := by
    have : 2 ^ L * 2 ^ (52 - L) ≤ a * 2 ^ (52 - L) := Nat.mul_le_mul_right _ l1
    rw [← Nat.pow_add, show L + (52 - L) = 52 by omega] at this
    exact this
  have m2 : a * 2 ^ (52 - L) < 9007199254740992 := by
    have : a * 2 ^ (52 - L) < 2 ^ (L + 1) * 2 ^ (52 - L) := Nat.mul_lt_mul_of_pos_right l2 (Nat.two_pow_pos _)
    rw [← Nat.pow_add, show L + 1 + (52 - L) = 53 by omega] at this
    exact this
  have e1 : (max (0 + (L : Int) - ((52 : Nat) : Int)) (-1074) - (-1074)).toNat = L + 1022 := by omega
  have e2 : (0 - max (0 + (L : Int) - ((52 : Nat) : Int)) (-1074)).toNat = 52 - L := by omega
  rw [e1, e2, Nat.shiftLeft_eq]
  generalize a * 2 ^ (52 - L) = M at *
  rw [rung0 L M hL m2, rung_read L M hL m1 m2]
theorem near_zero : Ieee.double.read (Ieee.double.nearest false 0 0) = .number false 0 (-1074) := by decide +kernel
theorem cmp_mul (a b c : Nat) (h : 0 < c) : compare ((a * c : Nat) : Int) ((b * c : Nat) : Int) = compare (a : Int) (b : Int) := by
  rcases Nat.lt_trichotomy a b with h1 | h1 | h1
  · have h2 : a * c < b * c := Nat.mul_lt_mul_of_pos_right h1 h
    rw [Int.compare_eq_lt.2 (by omega), Int.compare_eq_lt.2 (by omega)]
  · subst h1
    rw [Int.compare_eq_eq.2 rfl, Int.compare_eq_eq.2 rfl]
  · have h2 : b * c < a * c := Nat.mul_lt_mul_of_pos_right h1 h
    rw [Int.compare_eq_gt.2 (by omega), Int.compare_eq_gt.2 (by omega)]
/-- The floats of two whole numbers below 2^32 stand to each other as the numbers do. -/
theorem near_order (a b : Nat) (ha : a < 4294967296) (hb : b < 4294967296) :
    Ieee.double.order (Ieee.double.nearest false a 0) (Ieee.double.nearest false b 0) = some (compare (a : Int) (b : Int)) := by
  unfold Format.order
  rcases Nat.eq_zero_or_pos a with rfl | ha0
  · rcases Nat.eq_zero_or_pos b with rfl | hb0
    · decide +kernel
    · obtain ⟨rb, lb⟩ := near_pos b hb0 hb
      rw [near_zero, rb]
      unfold Datum.order
      simp only [signed, Nat.shiftLeft_eq, Nat.zero_mul]
      have h2 : 0 < b * 2 ^ (52 - b.log2) * 2 ^ ((b.log2 : Int) - 52 - min (-1074) ((b.log2 : Int) - 52)).toNat := Nat.mul_pos (Nat.mul_pos hb0 (Nat.two_pow_pos _)) (Nat.two_pow_pos _)
      generalize b * 2 ^ (52 - b.log2) * 2 ^ ((b.log2 : Int) - 52 - min (-1074) ((b.log2 : Int) - 52)).toNat = X at *
      congr 1
      simp only [Bool.false_eq_true, if_false]
      rw [Int.compare_eq_lt.2 (by omega), Int.compare_eq_lt.2 (by omega)]
  · obtain ⟨ra, la⟩ := near_pos a ha0 ha
    rcases Nat.eq_zero_or_pos b with rfl | hb0
    · rw [near_zero, ra]
      unfold Datum.order
      simp only [signed, Nat.shiftLeft_eq, Nat.zero_mul]
      have h2 : 0 < a * 2 ^ (52 - a.log2) * 2 ^ ((a.log2 : Int) - 52 - min ((a.log2 : Int) - 52) (-1074)).toNat := Nat.mul_pos (Nat.mul_pos ha0 (Nat.two_pow_pos _)) (Nat.two_pow_pos _)
      generalize a * 2 ^ (52 - a.log2) * 2 ^ ((a.log2 : Int) - 52 - min ((a.log2 : Int) - 52) (-1074)).toNat = X at *
      congr 1
      simp only [Bool.false_eq_true, if_false]
      rw [Int.compare_eq_gt.2 (by omega), Int.compare_eq_gt.2 (by omega)]
    · obtain ⟨rb, lb⟩ := near_pos b hb0 hb
      rw [ra, rb]
      unfold Datum.order
      simp only [signed, Nat.shiftLeft_eq]
      generalize a.log2 = x at *
      generalize b.log2 = y at *
      have hm : ∀ (c u : Nat), u ≤ 31 → (min x y) ≤ u → c * 2 ^ (52 - u) * 2 ^ ((u : Int) - 52 - min ((x : Int) - 52) ((y : Int) - 52)).toNat = c * 2 ^ (52 - min x y) := fun c u h1 h2 => by
        rw [Nat.mul_assoc, ← Nat.pow_add]
        congr 2
        omega
      rw [hm a x la (by omega), hm b y lb (by omega)]
      congr 1
      simp only [Bool.false_eq_true, if_false]
      exact cmp_mul a b _ (Nat.two_pow_pos _)
/-- The float of a whole number. -/
def flN (n : Int) : Nat := FloatKind.f64.nearest n
theorem flN_nat (a : Nat) : flN (a : Int) = Ieee.double.nearest false a 0 := by
  have h : decide ((a : Int) < 0) = false := decide_eq_false (by omega)
  show Ieee.double.nearest (decide ((a : Int) < 0)) (a : Int).natAbs 0 = _
  rw [h, Int.natAbs_natCast]
theorem flN_order {a b : Int} (ha : 0 ≤ a) (ha' : a < 4294967296) (hb : 0 ≤ b) (hb' : b < 4294967296) : FloatKind.f64.format.order (flN a) (flN b) = some (compare a b) := by
  obtain ⟨x, rfl⟩ := Int.eq_ofNat_of_zero_le ha
  obtain ⟨y, rfl⟩ := Int.eq_ofNat_of_zero_le hb
  rw [flN_nat, flN_nat]
  exact near_order x y (by omega) (by omega)
theorem cmp_eq (a b : Int) : (some (compare a b) == some Ordering.eq) = decide (a = b) := by
  rcases Int.lt_trichotomy a b with h | h | h
  · rw [Int.compare_eq_lt.2 h, decide_eq_false (by omega)]; rfl
  · rw [Int.compare_eq_eq.2 h, decide_eq_true h]; rfl
  · rw [Int.compare_eq_gt.2 h, decide_eq_false (by omega)]; rfl
theorem cmp_lt (a b : Int) : (some (compare a b) == some Ordering.lt) = decide (a < b) := by
  rcases Int.lt_trichotomy a b with h | h | h
  · rw [Int.compare_eq_lt.2 h, decide_eq_true h]; rfl
  · rw [Int.compare_eq_eq.2 h, decide_eq_false (by omega)]; rfl
  · rw [Int.compare_eq_gt.2 h, decide_eq_false (by omega)]; rfl
end Go.Proofs.YtmjneokjgcgchaaGreat
/-
  Bits of whole numbers: 'or' of small ones, 'and' with a row of ones.
-/
namespace Go.Proofs.YtmjneokjgcgchaaGreat
open Go.RowKit

theorem i64_or_nat (a b : Nat) (ha : a < 4611686018427387904) (hb : b < 4611686018427387904) : bits .or .i64 (a : Int) (b : Int) = ((a ||| b : Nat) : Int) := by
  have hx : a ||| b < 2 ^ 62 := Nat.or_lt_two_pow (by omega) (by omega)
  have h1 : (BitVec.ofInt 64 (a : Int)).toNat = a := by rw [BitVec.toNat_ofInt]; omega
  have h2 : (BitVec.ofInt 64 (b : Int)).toNat = b := by rw [BitVec.toNat_ofInt]; omega
  show IntKind.i64.wrap ((BitVec.ofInt 64 (a : Int) ||| BitVec.ofInt 64 (b : Int)).toNat : Int) = _
  rw [BitVec.toNat_or, h1, h2, IntKind.wrap_i64]
  omega
theorem or_byte (v : Int) (x : Nat) (h0 : 0 ≤ v) (h1 : v < 16777216) (hx : x < 256) : bits .or .i64 (v * 256) (x : Int) = v * 256 + x := by
  obtain ⟨n, rfl⟩ := Int.eq_ofNat_of_zero_le h0
  have h := i64_or_nat (n * 256) x (by omega) (by omega)
  rw [nat_join8 (n * 256) x (by omega) hx] at h
  simpa using h
theorem i64_mask16 (n : Int) : bits .and .i64 n 65535 = n % 65536 := by
  have h127 : (BitVec.ofInt 64 65535).toNat = 2 ^ 16 - 1 := by decide
  have key : (BitVec.ofInt 64 n &&& BitVec.ofInt 64 65535).toNat = (n % ((2 ^ 64 : Nat) : Int)).toNat % 2 ^ 16 := by
    rw [BitVec.toNat_and, BitVec.toNat_ofInt, h127, Nat.and_two_pow_sub_one_eq_mod]
  show IntKind.i64.wrap ((BitVec.ofInt 64 n &&& BitVec.ofInt 64 65535).toNat : Nat) = n % 65536
  rw [key, IntKind.wrap_i64]
  omega
theorem i64_mask4 (n : Int) : bits .and .i64 n 15 = n % 16 := by
  have h127 : (BitVec.ofInt 64 15).toNat = 2 ^ 4 - 1 := by decide
  have key : (BitVec.ofInt 64 n &&& BitVec.ofInt 64 15).toNat = (n % ((2 ^ 64 : Nat) : Int)).toNat % 2 ^ 4 := by
    rw [BitVec.toNat_and, BitVec.toNat_ofInt, h127, Nat.and_two_pow_sub_one_eq_mod]
  show IntKind.i64.wrap ((BitVec.ofInt 64 n &&& BitVec.ofInt 64 15).toNat : Nat) = n % 16
  rw [key, IntKind.wrap_i64]
  omega
theorem i64_mask31 (n : Int) : bits .and .i64 n 2147483647 = n % 2147483648 := by
  have h127 : (BitVec.ofInt 64 2147483647).toNat = 2 ^ 31 - 1 := by decide
  have key : (BitVec.ofInt 64 n &&& BitVec.ofInt 64 2147483647).toNat = (n % ((2 ^ 64 : Nat) : Int)).toNat % 2 ^ 31 := by
    rw [BitVec.toNat_and, BitVec.toNat_ofInt, h127, Nat.and_two_pow_sub_one_eq_mod]
  show IntKind.i64.wrap ((BitVec.ofInt 64 n &&& BitVec.ofInt 64 2147483647).toNat : Nat) = n % 2147483648
  rw [key, IntKind.wrap_i64]
  omega
/-- Two digits of four bits. -/
theorem or_nib (h x : Nat) (hh : h < 16) (hx : x < 16) : bits .or .i64 (16 * (h : Int)) (x : Int) = 16 * (h : Int) + x := by
  have h1 := i64_or_nat (16 * h) x (by omega) (by omega)
  have h2 : (16 * h) ||| x = 16 * h + x := by
    have := Nat.two_pow_add_eq_or_of_lt (i := 4) (b := x) (by omega) h
    rw [show 2 ^ 4 = 16 from rfl] at this
    exact this.symm
  rw [h2] at h1
  simpa using h1
end Go.Proofs.YtmjneokjgcgchaaGreat
/-
  The program's own byteAt, bounds, between; rank, first, lowest, highest.
-/
namespace Go.Proofs.YtmjneokjgcgchaaGreat
open Go.RowKit Go.Sort

theorem i64_mask8 (n : Int) : bits .and .i64 n 255 = n % 256 := by
  have h127 : (BitVec.ofInt 64 255).toNat = 2 ^ 8 - 1 := by decide
  have key : (BitVec.ofInt 64 n &&& BitVec.ofInt 64 255).toNat = (n % ((2 ^ 64 : Nat) : Int)).toNat % 2 ^ 8 := by
    rw [BitVec.toNat_and, BitVec.toNat_ofInt, h127, Nat.and_two_pow_sub_one_eq_mod]
  show IntKind.i64.wrap ((BitVec.ofInt 64 n &&& BitVec.ofInt 64 255).toNat : Nat) = n % 256
  rw [key, IntKind.wrap_i64]
  omega
/-- The byte of a number at a place, the last byte being at 0. -/
def byJ (v : Int) (j : Nat) : Int := v / 256 ^ j % 256
theorem byJ_bnd (v : Int) (j : Nat) : 0 ≤ byJ v j ∧ byJ v j < 256 := ⟨Int.emod_nonneg _ (by decide), Int.emod_lt_of_pos _ (by decide)⟩
set_option maxHeartbeats 4000000 in
theorem byteAt_any (n v i : Int) (w : World) (hn : 1 ≤ n) (hn' : n ≤ 4) (hi : 0 ≤ i) (hi' : i < n) :
    Calls Tryz.prog 63 #[.int .i64 n, .int .i64 v, .int .i64 i] w fun e w' => e = .returned (.int .i64 (byJ v (n - 1 - i).toNat)) ∧ w' = w := by
  have key : ∀ (n i : Int), (n = 1 ∧ i = 0) ∨ (n = 2 ∧ i = 0) ∨ (n = 2 ∧ i = 1) ∨ (n = 3 ∧ i = 0) ∨ (n = 3 ∧ i = 1) ∨ (n = 3 ∧ i = 2) ∨ (n = 4 ∧ i = 0) ∨ (n = 4 ∧ i = 1) ∨ (n = 4 ∧ i = 2) ∨ (n = 4 ∧ i = 3) →
      Calls Tryz.prog 63 #[.int .i64 n, .int .i64 v, .int .i64 i] w fun e w' => e = .returned (.int .i64 (byJ v (n - 1 - i).toNat)) ∧ w' = w := by
    intro n i h
    rcases h with ⟨rfl, rfl⟩ | ⟨rfl, rfl⟩ | ⟨rfl, rfl⟩ | ⟨rfl, rfl⟩ | ⟨rfl, rfl⟩ | ⟨rfl, rfl⟩ | ⟨rfl, rfl⟩ | ⟨rfl, rfl⟩ | ⟨rfl, rfl⟩ | ⟨rfl, rfl⟩
    all_goals
      go_enter Tryz.func63, Tryz.ntmps63
      go_wp2
      go_ret
      refine ⟨?_, rfl⟩
      simp [byJ, i64_mask8]
  exact key n i (by omega)
set_option maxHeartbeats 1000000 in
theorem bounds_any (n lo hi i : Int) (w : World) (hn : 1 ≤ n) (hn' : n ≤ 4) (i0 : 0 ≤ i) (i1 : i < n) :
    Calls Tryz.prog 112 #[.agg #[.int .i64 n, .int .i64 lo, .int .i64 hi], .int .i64 i] w fun e w' => e = .returned (.tuple #[.int .i64 (byJ lo (n - 1 - i).toNat), .int .i64 (byJ hi (n - 1 - i).toNat)]) ∧ Below w.heap.size w w' := by
  have c1 := fun W => byteAt_any n lo i W hn hn' i0 i1
  have c2 := fun W => byteAt_any n hi i W hn hn' i0 i1
  generalize byJ lo (n - 1 - i).toNat = x at *
  generalize byJ hi (n - 1 - i).toNat = y at *
  have C1 := Lib.hid c1
  have C2 := Lib.hid c2
  clear c1 c2
  go_enter Tryz.func112, Tryz.ntmps112
  go_wp2
  go_quiet ((go_at_call 63; first | with_reducible exact Calls.quiet_of_same (C1.out _) | with_reducible exact Calls.quiet_of_same (C2.out _)))
  go_wp2
  go_returns
  exact ⟨rfl, below_drewN ((Below.refl _ _).alloc (Nat.le_refl _) _) _⟩
set_option maxHeartbeats 1000000 in
theorem between_any (n lo hi i b : Int) (w : World) (hn : 1 ≤ n) (hn' : n ≤ 4) (i0 : 0 ≤ i) (i1 : i < n) :
    Calls Tryz.prog 62 #[.agg #[.int .i64 n, .int .i64 lo, .int .i64 hi], .int .i64 i, .int .i64 b] w fun e w' => e = .returned (.bool (decide (byJ lo (n - 1 - i).toNat ≤ b) && decide (b ≤ byJ hi (n - 1 - i).toNat))) ∧ Below w.heap.size w w' := by
  have c1 := fun W => bounds_any n lo hi i W hn hn' i0 i1
  generalize byJ lo (n - 1 - i).toNat = x at *
  generalize byJ hi (n - 1 - i).toNat = y at *
  have C1 := Lib.hid c1
  clear c1
  cases t1 : decide (x ≤ b) with
  | false =>
    go_enter Tryz.func62, Tryz.ntmps62
    go_wp2_with (go_at_call 112; refine (C1.out _).mono ?_; rintro e w1 ⟨rfl, hb⟩)
    go_ret
    exact ⟨rfl, ((Below.refl _ _).alloc (Nat.le_refl _) _).trans (hb.mono (by simp))⟩
  | true =>
    go_enter Tryz.func62, Tryz.ntmps62
    go_wp2_with (go_at_call 112; refine (C1.out _).mono ?_; rintro e w1 ⟨rfl, hb⟩)
    go_ret
    exact ⟨rfl, ((Below.refl _ _).alloc (Nat.le_refl _) _).trans (hb.mono (by simp))⟩
set_option maxHeartbeats 1000000 in
theorem rank_any (n v : Int) (w : World) :
    Calls Tryz.prog 148 #[.int .i64 n, .int .i64 v] w fun e w' => e = .returned (.complex .f64 (flN n) (flN v)) ∧ w' = w := by
  go_enter Tryz.func148, Tryz.ntmps148
  go_wp2
  go_ret
  exact ⟨rfl, rfl⟩
/-- Does one code go ahead of another one? -/
def ahR (a b c d : Int) : Bool := decide (a < c ∨ (a = c ∧ b < d))
set_option maxHeartbeats 1000000 in
theorem first_any (a b c d : Int) (w : World) (ha : 0 ≤ a) (ha' : a < 4294967296) (hb : 0 ≤ b) (hb' : b < 4294967296) (hc : 0 ≤ c) (hc' : c < 4294967296) (hd : 0 ≤ d) (hd' : d < 4294967296) :
    Calls Tryz.prog 124 #[.complex .f64 (flN a) (flN b), .complex .f64 (flN c) (flN d)] w fun e w' => e = .returned (.bool (ahR a b c d)) ∧ w' = w := by
  have o1 := flN_order ha ha' hc hc'
  have o2 := flN_order hb hb' hd hd'
  have e1 : (FloatKind.f64.format.order (flN a) (flN c) != some Ordering.eq) = !decide (a = c) := by rw [o1, bne, cmp_eq]
  have e2 : (FloatKind.f64.format.order (flN a) (flN c) == some Ordering.lt) = decide (a < c) := by rw [o1, cmp_lt]
  have e3 : (FloatKind.f64.format.order (flN b) (flN d) == some Ordering.lt) = decide (b < d) := by rw [o2, cmp_lt]
  have E2 := Lib.hid e2
  have E3 := Lib.hid e3
  clear o1 o2 e2 e3
  by_cases h : a = c
  · have H := Lib.hid h
    rw [decide_eq_true h, Bool.not_true] at e1
    clear h
    go_enter Tryz.func124, Tryz.ntmps124
    go_wp2
    go_ret
    refine ⟨?_, rfl⟩
    show Ending.returned (Value.bool _) = _
    rw [E3.out]
    simp [ahR, H.out]
  · have H := Lib.hid h
    rw [decide_eq_false h, Bool.not_false] at e1
    clear h
    go_enter Tryz.func124, Tryz.ntmps124
    go_wp2
    go_ret
    refine ⟨?_, rfl⟩
    show Ending.returned (Value.bool _) = _
    rw [E2.out]
    simp [ahR, H.out]
set_option maxHeartbeats 1000000 in
theorem lowest_any (n lo hi : Int) (w : World) :
    Calls Tryz.prog 126 #[.agg #[.int .i64 n, .int .i64 lo, .int .i64 hi]] w fun e w' => e = .returned (.complex .f64 (flN n) (flN lo)) ∧ ∃ q os, w' = grow (w.drewN q) os := by
  go_enter Tryz.func126, Tryz.ntmps126
  go_wp2_with (go_at_call 148; refine (rank_any _ _ _).mono ?_; rintro e w1 ⟨rfl, rfl⟩)
  go_ret
  exact ⟨rfl, 0, _, by rw [alloc_eq_grow]; rfl⟩
set_option maxHeartbeats 1000000 in
theorem highest_any (n lo hi : Int) (w : World) :
    Calls Tryz.prog 123 #[.agg #[.int .i64 n, .int .i64 lo, .int .i64 hi]] w fun e w' => e = .returned (.complex .f64 (flN n) (flN hi)) ∧ ∃ q os, w' = grow (w.drewN q) os := by
  go_enter Tryz.func123, Tryz.ntmps123
  go_wp2_with (go_at_call 148; refine (rank_any _ _ _).mono ?_; rintro e w1 ⟨rfl, rfl⟩)
  go_ret
  exact ⟨rfl, 0, _, by rw [alloc_eq_grow]; rfl⟩
end Go.Proofs.YtmjneokjgcgchaaGreat
/-
  Layer 6, plainly: a codespace's bytes by their places, the last byte being at 0.
-/
namespace Go.Proofs.YtmjneokjgcgchaaGreat

theorem byJ_zero (v : Int) : byJ v 0 = v % 256 := by unfold byJ; rw [Int.pow_zero, Int.ediv_one]
theorem byJ_succ (v : Int) (j : Nat) : byJ v (j + 1) = byJ (v / 256) j := by
  unfold byJ
  rw [Int.pow_succ, Int.mul_comm, ← Int.ediv_ediv_of_nonneg (by decide)]
theorem be_at : ∀ (n : Nat) (v : Int) (j : Nat), j < n → (revN (beL n v))[j]? = some (byJ v j).toNat
  | 0, _, _, h => absurd h (Nat.not_lt_zero _)
  | n + 1, v, 0, _ => by
    rw [beL, revN_snoc, List.getElem?_cons_zero, byJ_zero]
    have := low_byte v
    congr 1
    omega
  | n + 1, v, j + 1, h => by
    rw [beL, revN_snoc, List.getElem?_cons_succ, be_at n (v / 256) j (by omega), byJ_succ]
theorem code_at {n v : Int} (h : saneB n v = true) {j : Nat} (hj : j < n.toNat) : (revN (codeL n v))[j]? = some (byJ v j).toNat := by rw [codeL_sane h]; exact be_at _ _ _ hj
theorem prs_at {r : Rc} (h1 : saneB r.n r.lo = true) (h2 : saneB r.n r.hi = true) {j : Nat} (hj : j < r.n.toNat) : (prs r)[j]? = some ((byJ r.lo j).toNat, (byJ r.hi j).toNat) := by
  unfold prs
  rw [List.getElem?_zip_eq_some]
  exact ⟨code_at h1 hj, code_at h2 hj⟩
theorem prs_len' {r : Rc} (h1 : saneB r.n r.lo = true) (h2 : saneB r.n r.hi = true) : (prs r).length = r.n.toNat := by
  unfold prs
  rw [List.length_zip, revN_length, revN_length, code_len h1, code_len h2, Nat.min_self]
/-- May a codespace be, by its bytes? -/
theorem saneR_by {r : Rc} (h1 : saneB r.n r.lo = true) (h2 : saneB r.n r.hi = true) : saneR r = true ↔ ∀ j, j < r.n.toNat → byJ r.lo j ≤ byJ r.hi j := by
  rw [saneR_iff]
  constructor
  · rintro ⟨_, _, h⟩ j hj
    have := h _ (List.mem_of_getElem? (prs_at h1 h2 hj))
    have b1 := byJ_bnd r.lo j
    have b2 := byJ_bnd r.hi j
    simp only at this
    omega
  · intro h
    refine ⟨h1, h2, fun q hq => ?_⟩
    obtain ⟨j, hj, e⟩ := List.getElem_of_mem hq
    have hj' : j < r.n.toNat := by rw [← prs_len' h1 h2]; exact hj
    have h3 := prs_at h1 h2 hj'
    rw [List.getElem?_eq_getElem hj, e] at h3
    have h4 := Option.some.inj h3
    have := h j hj'
    rw [h4]
    simp only
    omega
theorem wiR_by : ∀ {p : List (Nat × Nat)} {u : List Nat}, p.length = u.length → (wiR p u = true ↔ ∀ (j : Nat) (q : Nat × Nat) (d : Nat), p[j]? = some q → u[j]? = some d → q.1 ≤ d ∧ d ≤ q.2)
  | [], [], _ => by simp [wiR]
  | [], _ :: _, h => by simp at h
  | _ :: _, [], h => by simp at h
  | q :: t, d :: u, h => by
    have ih := wiR_by (p := t) (u := u) (by simpa using h)
    rw [wiR, Bool.and_eq_true, Bool.and_eq_true, decide_eq_true_eq, decide_eq_true_eq, ih]
    constructor
    · rintro ⟨h1, h2⟩ j q' d' hq hd
      cases j with
      | zero =>
        rw [List.getElem?_cons_zero] at hq hd
        cases hq
        cases hd
        exact h1
      | succ j =>
        rw [List.getElem?_cons_succ] at hq hd
        exact h2 j q' d' hq hd
    · intro h1
      exact ⟨h1 0 q d rfl rfl, fun j q' d' hq hd => h1 (j + 1) q' d' (by rw [List.getElem?_cons_succ]; exact hq) (by rw [List.getElem?_cons_succ]; exact hd)⟩
/-- Is a code in one, by its bytes? -/
theorem inC_by {r : Rc} {v : Int} (h : saneR r = true) (hv : saneB r.n v = true) : inC r r.n v = true ↔ ∀ j, j < r.n.toNat → byJ r.lo j ≤ byJ v j ∧ byJ v j ≤ byJ r.hi j := by
  have h0 := (saneR_iff r).1 h
  have hl : (prs r).length = (revN (codeL r.n v)).length := by rw [prs_len h, revN_length, code_len hv]
  rw [inC_iff, wiR_by hl]
  constructor
  · rintro ⟨_, _, _, h1⟩ j hj
    have h2 := h1 j _ _ (prs_at h0.1 h0.2.1 hj) (code_at hv hj)
    have b1 := byJ_bnd r.lo j
    have b2 := byJ_bnd r.hi j
    have b3 := byJ_bnd v j
    simp only at h2
    omega
  · intro h1
    refine ⟨h, hv, rfl, fun j q d hq hd => ?_⟩
    have hj : j < r.n.toNat := by
      rw [← prs_len h]
      exact (List.getElem?_eq_some_iff.1 hq).1
    rw [prs_at h0.1 h0.2.1 hj] at hq
    rw [code_at hv hj] at hd
    cases hq
    cases hd
    have h2 := h1 j hj
    simp only
    omega
theorem hoR_of_in : ∀ {p : List (Nat × Nat)} {q : List (Nat × Nat)}, Bnd q → (hoR p q = true ↔ wiR p (q.map (·.1)) = true ∧ wiR p (q.map (·.2)) = true)
  | [], [], _ => by simp [hoR, wiR]
  | [], _ :: _, _ => by simp [hoR, wiR]
  | _ :: _, [], _ => by simp [hoR, wiR]
  | a :: t, b :: u, h => by
    have ih := hoR_of_in (p := t) (q := u) (fun x hx => h x (List.mem_cons_of_mem _ hx))
    have hb := h b List.mem_cons_self
    rw [hoR, List.map_cons, List.map_cons, wiR, wiR]
    simp only [Bool.and_eq_true, decide_eq_true_eq]
    rw [ih]
    constructor
    · rintro ⟨⟨h1, h2⟩, h3, h4⟩
      exact ⟨⟨⟨h1, by omega⟩, h3⟩, ⟨by omega, h2⟩, h4⟩
    · rintro ⟨⟨⟨h1, h2⟩, h3⟩, ⟨h4, h5⟩, h6⟩
      exact ⟨⟨h1, h5⟩, h3, h6⟩
/-- One that may be is held just if its lowest and its highest code are in. -/
theorem hoC_by (a b : Rc) : hoC a b = (saneR b && inC a b.n b.lo && inC a b.n b.hi) := by
  rw [Bool.eq_iff_iff, Bool.and_eq_true, Bool.and_eq_true, hoC_iff, inC_iff, inC_iff]
  constructor
  · rintro ⟨h1, h2, h3, h4⟩
    have hb := (saneR_iff b).1 h2
    have h5 := (hoR_of_in (prs_bnd h2)).1 h4
    rw [prs_lo h2, prs_hi h2] at h5
    exact ⟨⟨h2, h1, hb.1, h3.symm, h5.1⟩, h1, hb.2.1, h3.symm, h5.2⟩
  · rintro ⟨⟨h2, h1, hb, h3, h4⟩, _, _, _, h5⟩
    refine ⟨h1, h2, h3.symm, (hoR_of_in (prs_bnd h2)).2 ?_⟩
    rw [prs_lo h2, prs_hi h2]
    exact ⟨h4, h5⟩
end Go.Proofs.YtmjneokjgcgchaaGreat
/-
  The program's own Sane, In, Holds.
-/
namespace Go.Proofs.YtmjneokjgcgchaaGreat
open Go.RowKit Go.Sort
attribute [local go_sem ↓] Go.wp_at_zero Go.wp_at_succ

/-- A codespace's three cells. -/
structure Bx (w : World) (b : Nat) (r : Rc) : Prop where
  c0 : w.cell? ⟨b, 0, none⟩ = some (.int .i64 r.n)
  c1 : w.cell? ⟨b, 1, none⟩ = some (.int .i64 r.lo)
  c2 : w.cell? ⟨b, 2, none⟩ = some (.int .i64 r.hi)
theorem Bx.below {w w1 : World} {b B : Nat} {r : Rc} (h : Bx w b r) (hb : Below B w w1) (hB : b < B) : Bx w1 b r :=
  ⟨(hb.cell (p := ⟨b, 0, none⟩) hB).trans h.c0, (hb.cell (p := ⟨b, 1, none⟩) hB).trans h.c1, (hb.cell (p := ⟨b, 2, none⟩) hB).trans h.c2⟩
theorem Bx.new (w : World) (r : Rc) (t : TypeId) : Bx (w.alloc (.cells #[.int .i64 r.n, .int .i64 r.lo, .int .i64 r.hi] t)) w.heap.size r := ⟨by simp, by simp, by simp⟩
/-- A code's two cells. -/
structure Bc2 (w : World) (b : Nat) (n v : Int) : Prop where
  c0 : w.cell? ⟨b, 0, none⟩ = some (.int .i64 n)
  c1 : w.cell? ⟨b, 1, none⟩ = some (.int .i64 v)
theorem Bc2.below {w w1 : World} {b B : Nat} {n v : Int} (h : Bc2 w b n v) (hb : Below B w w1) (hB : b < B) : Bc2 w1 b n v :=
  ⟨(hb.cell (p := ⟨b, 0, none⟩) hB).trans h.c0, (hb.cell (p := ⟨b, 1, none⟩) hB).trans h.c1⟩
set_option maxHeartbeats 2000000 in
theorem rcSane_any (r : Rc) (w : World) :
    Calls Tryz.prog 60 #[.agg #[.int .i64 r.n, .int .i64 r.lo, .int .i64 r.hi]] w fun e w' => e = .returned (.bool (saneR r)) ∧ Below w.heap.size w w' := by
  have k1 := Sane_any r.n r.lo
  have k2 := Sane_any r.n r.hi
  by_cases h1 : saneB r.n r.lo = true
  · rw [h1] at k1
    by_cases h2 : saneB r.n r.hi = true
    · rw [h2] at k2
      have hb := saneR_by h1 h2
      have hn := (saneB_iff _ _).1 h1
      obtain ⟨n1, n2, _⟩ := hn
      have HB := Lib.hid hb
      have K1 := Lib.hid k1
      have K2 := Lib.hid k2
      have H1 := Lib.hid h1
      have H2 := Lib.hid h2
      clear hb k1 k2 h1 h2
      go_enter Tryz.func60, Tryz.ntmps60
      go_wp2_with fail
      refine (K1.out _).mono ?_
      rintro e w1 ⟨rfl, hb1⟩
      have z1 : w.heap.size < w1.heap.size := by have := hb1.size; simp at this; omega
      have x1 : Bx w1 w.heap.size r := (Bx.new w r _).below hb1 (by simp)
      have b1 : Below w.heap.size w w1 := ((Below.refl _ _).alloc (Nat.le_refl _) _).trans (hb1.mono (by simp))
      clear hb1
      obtain ⟨y0, y1, y2⟩ := id x1
      go_wp2_with fail
      refine (K2.out _).mono ?_
      rintro e w2 ⟨rfl, hb2⟩
      have x2 := x1.below hb2 z1
      have b2 := b1.trans (hb2.mono (Nat.le_of_lt z1))
      have z2 : w.heap.size < w2.heap.size := Nat.lt_of_lt_of_le z1 hb2.size
      clear y0 y1 y2 x1 hb2
      obtain ⟨y0, y1, y2⟩ := id x2
      go_wp2
      go_loopw [24] (fun i wr => ∃ k : Nat, (k : Int) ≤ r.n ∧ i = .int .i64 (k : Int) ∧ Hid (∀ j, r.n.toNat - k ≤ j → j < r.n.toNat → byJ r.lo j ≤ byJ r.hi j) ∧ Below w.heap.size w wr ∧ w.heap.size < wr.heap.size ∧ Hid (Bx wr w.heap.size r)) (fun i _ => r.n.toNat - (intOf i).toNat)
      case atStart => exact ⟨0, by omega, rfl, Lib.hid (fun j h1 h2 => by omega), b2, z2, Lib.hid x2⟩
      case round =>
        clear y0 y1 y2 b2 z2
        obtain ⟨k, hk, rfl, HJ, b3, z3, HX⟩ := hrel
        obtain ⟨y0, y1, y2⟩ := HX.out
        by_cases hlt : (k : Int) < r.n
        · have t0 : decide ((k : Int) < r.n) = true := decide_eq_true hlt
          have c1 := fun W => bounds_any r.n r.lo r.hi k W n1 n2 (by omega) hlt
          have ej : (r.n - 1 - (k : Int)).toNat = r.n.toNat - (k + 1) := by omega
          rw [ej] at c1
          have C1 := Lib.hid c1
          clear c1 ej
          obtain ⟨j, hj⟩ : ∃ j, j = r.n.toNat - (k + 1) := ⟨_, rfl⟩
          rw [← hj] at C1
          have EJ := Lib.hid hj
          clear hj
          cases t1 : decide (byJ r.hi j < byJ r.lo j) with
          | true =>
            go_wp2_with fail
            refine (C1.out _).mono ?_
            rintro e w4 ⟨rfl, hb4⟩
            go_wp2
            go_ret
            refine ⟨?_, b3.trans (hb4.mono (Nat.le_of_lt z3))⟩
            cases hs : saneR r with
            | false => rfl
            | true =>
              have h6 := (HB.out.1 hs) j (by have := EJ.out; omega)
              have h5 := of_decide_eq_true t1
              omega
          | false =>
            go_wp2_with fail
            refine (C1.out _).mono ?_
            rintro e w4 ⟨rfl, hb4⟩
            go_wp2
            refine ⟨⟨k + 1, by omega, by go_num, Lib.hid (fun i h5 h6 => ?_), b3.trans (hb4.mono (Nat.le_of_lt z3)), Nat.lt_of_lt_of_le z3 hb4.size, Lib.hid (HX.out.below hb4 z3)⟩, by simp [intOf]; omega⟩
            have h7 := of_decide_eq_false t1
            have h8 := EJ.out
            by_cases e : i = j
            · subst e; omega
            · exact HJ.out i (by omega) h6
        · have t0 : decide ((k : Int) < r.n) = false := decide_eq_false hlt
          go_wp2
          go_ret
          refine ⟨?_, b3⟩
          rw [HB.out.2 (fun j h5 => HJ.out j (by omega) h5)]
          rfl
    · have h2' : saneB r.n r.hi = false := by simpa using h2
      have hs : saneR r = false := by unfold saneR; rw [h1, h2']; rfl
      rw [hs]
      rw [h2'] at k2
      have K1 := Lib.hid k1
      have K2 := Lib.hid k2
      clear k1 k2 h1 h2 h2' hs
      go_enter Tryz.func60, Tryz.ntmps60
      go_wp2_with fail
      refine (K1.out _).mono ?_
      rintro e w1 ⟨rfl, hb1⟩
      have z1 : w.heap.size < w1.heap.size := by have := hb1.size; simp at this; omega
      have x1 : Bx w1 w.heap.size r := (Bx.new w r _).below hb1 (by simp)
      have b1 : Below w.heap.size w w1 := ((Below.refl _ _).alloc (Nat.le_refl _) _).trans (hb1.mono (by simp))
      clear hb1
      obtain ⟨y0, y1, y2⟩ := id x1
      go_wp2_with fail
      refine (K2.out _).mono ?_
      rintro e w2 ⟨rfl, hb2⟩
      go_wp2
      go_ret
      exact ⟨rfl, b1.trans (hb2.mono (Nat.le_of_lt z1))⟩
  · have h1' : saneB r.n r.lo = false := by simpa using h1
    have hs : saneR r = false := by unfold saneR; rw [h1']; rfl
    rw [hs]
    rw [h1'] at k1
    have K1 := Lib.hid k1
    clear k1 k2 h1 h1' hs
    go_enter Tryz.func60, Tryz.ntmps60
    go_wp2_with fail
    refine (K1.out _).mono ?_
    rintro e w1 ⟨rfl, hb1⟩
    go_wp2
    go_ret
    exact ⟨rfl, ((Below.refl _ _).alloc (Nat.le_refl _) _).trans (hb1.mono (by simp))⟩
set_option maxHeartbeats 4000000 in
theorem In_yes (r : Rc) (v : Int) (w : World) (hs : saneR r = true) (hv : saneB r.n v = true) :
    Calls Tryz.prog 30 #[.agg #[.int .i64 r.n, .int .i64 r.lo, .int .i64 r.hi], .agg #[.int .i64 r.n, .int .i64 v]] w fun e w' => e = .returned (.bool (inC r r.n v)) ∧ Below w.heap.size w w' := by
  have k1 := rcSane_any r
  have k2 := Sane_any r.n v
  have hb := inC_by hs hv
  rw [hs] at k1
  rw [hv] at k2
  obtain ⟨n1, n2, _⟩ := (saneB_iff _ _).1 hv
  have HB := Lib.hid hb
  have K1 := Lib.hid k1
  have K2 := Lib.hid k2
  clear hb k1 k2 hs hv
  go_enter Tryz.func30, Tryz.ntmps30
  go_wp2_with fail
  refine (K1.out _).mono ?_
  rintro e w1 ⟨rfl, hb1⟩
  have z1 : w.heap.size + 1 < w1.heap.size := by have := hb1.size; simp at this; omega
  have x1 : Bx w1 w.heap.size r := (Bx.mk (by simp) (by simp) (by simp)).below hb1 (by simp; omega)
  have v1 : Bc2 w1 (w.heap.size + 1) r.n v := (Bc2.mk (by simp) (by simp)).below hb1 (by simp)
  have b1 : Below w.heap.size w w1 := (((Below.refl _ _).alloc (Nat.le_refl _) _).alloc (by simp) _).trans (hb1.mono (by simp; omega))
  clear hb1
  obtain ⟨y0, y1, y2⟩ := id x1
  obtain ⟨u0, u1⟩ := id v1
  go_wp2_with fail
  refine (K2.out _).mono ?_
  rintro e w2 ⟨rfl, hb2⟩
  have x2 := x1.below hb2 (by omega)
  have v2 := v1.below hb2 (by omega)
  have b2 := b1.trans (hb2.mono (by omega))
  have z2 : w.heap.size + 1 < w2.heap.size := Nat.lt_of_lt_of_le z1 hb2.size
  clear y0 y1 y2 u0 u1 x1 v1 hb2
  obtain ⟨y0, y1, y2⟩ := id x2
  obtain ⟨u0, u1⟩ := id v2
  go_wp2
  go_loopw [23] (fun i wr => ∃ k : Nat, (k : Int) ≤ r.n ∧ i = .int .i64 (k : Int) ∧ Hid (∀ j, r.n.toNat - k ≤ j → j < r.n.toNat → byJ r.lo j ≤ byJ v j ∧ byJ v j ≤ byJ r.hi j) ∧ Below w.heap.size w wr ∧ w.heap.size + 1 < wr.heap.size ∧ Hid (Bx wr w.heap.size r) ∧ Hid (Bc2 wr (w.heap.size + 1) r.n v)) (fun i _ => r.n.toNat - (intOf i).toNat)
  case atStart => exact ⟨0, by omega, rfl, Lib.hid (fun j h1 h2 => by omega), b2, z2, Lib.hid x2, Lib.hid v2⟩
  case round =>
    clear y0 y1 y2 u0 u1 b2 z2
    obtain ⟨k, hk, rfl, HJ, b3, z3, HX, HV⟩ := hrel
    obtain ⟨y0, y1, y2⟩ := HX.out
    obtain ⟨u0, u1⟩ := HV.out
    by_cases hlt : (k : Int) < r.n
    · have t0 : decide ((k : Int) < r.n) = true := decide_eq_true hlt
      have c1 := fun W => byteAt_any r.n v k W n1 n2 (by omega) hlt
      have c2 := fun b W => between_any r.n r.lo r.hi k b W n1 n2 (by omega) hlt
      have ej : (r.n - 1 - (k : Int)).toNat = r.n.toNat - (k + 1) := by omega
      rw [ej] at c1
      simp only [ej] at c2
      obtain ⟨j, hj⟩ : ∃ j, j = r.n.toNat - (k + 1) := ⟨_, rfl⟩
      rw [← hj] at c1
      simp only [← hj] at c2
      have EJ := Lib.hid hj
      have c2 := c2 (byJ v j)
      obtain ⟨q, hq⟩ : ∃ q, q = (decide (byJ r.lo j ≤ byJ v j) && decide (byJ v j ≤ byJ r.hi j)) := ⟨_, rfl⟩
      rw [← hq] at c2
      have C1 := Lib.hid c1
      have C2 := Lib.hid c2
      have HQ := Lib.hid hq
      clear c1 c2 ej hj hq
      have hS : ∀ w', Below wr.heap.size wr w' → w'.cell? ⟨w.heap.size, 0, none⟩ = some (.int .i64 r.n) ∧ w'.cell? ⟨w.heap.size, 1, none⟩ = some (.int .i64 r.lo) ∧ w'.cell? ⟨w.heap.size, 2, none⟩ = some (.int .i64 r.hi) ∧ w'.cell? ⟨w.heap.size + 1, 0, none⟩ = some (.int .i64 r.n) ∧ w'.cell? ⟨w.heap.size + 1, 1, none⟩ = some (.int .i64 v) := fun w' hb => by
        have g1 := HX.out.below hb (by omega)
        have g2 := HV.out.below hb (by omega)
        exact ⟨g1.c0, g1.c1, g1.c2, g2.c0, g2.c1⟩
      have z0 : Below wr.heap.size wr wr.drew := (Below.refl _ _).drew
      have HS := Lib.hid hS
      clear hS
      cases q with
      | false =>
        go_wp2_with fail
        go_region_held (fun w' => w'.cell? ⟨w.heap.size, 0, none⟩ = some (.int .i64 r.n) ∧ w'.cell? ⟨w.heap.size, 1, none⟩ = some (.int .i64 r.lo) ∧ w'.cell? ⟨w.heap.size, 2, none⟩ = some (.int .i64 r.hi) ∧ w'.cell? ⟨w.heap.size + 1, 0, none⟩ = some (.int .i64 r.n) ∧ w'.cell? ⟨w.heap.size + 1, 1, none⟩ = some (.int .i64 v))
          (first | exact HS.out _ z8 | exact HS.out _ z0)
          (first
            | (go_at_call 63; refine (C1.out _).mono ?_; rintro e x1 ⟨rfl, rfl⟩)
            | (go_at_call 62; refine (C2.out _).mono ?_; rintro e x2 ⟨rfl, y8⟩; have z8 := z0.trans (y8.mono z0.size)))
        all_goals
          go_wp2
          go_ret
          refine ⟨?_, b3.trans (z8.mono (by omega))⟩
          cases hs : inC r r.n v with
          | false => rfl
          | true =>
            have h6 := (HB.out.1 hs) j (by have := EJ.out; omega)
            have h7 := HQ.out
            rw [decide_eq_true h6.1, decide_eq_true h6.2] at h7
            cases h7
      | true =>
        go_wp2_with fail
        go_region_held (fun w' => w'.cell? ⟨w.heap.size, 0, none⟩ = some (.int .i64 r.n) ∧ w'.cell? ⟨w.heap.size, 1, none⟩ = some (.int .i64 r.lo) ∧ w'.cell? ⟨w.heap.size, 2, none⟩ = some (.int .i64 r.hi) ∧ w'.cell? ⟨w.heap.size + 1, 0, none⟩ = some (.int .i64 r.n) ∧ w'.cell? ⟨w.heap.size + 1, 1, none⟩ = some (.int .i64 v))
          (first | exact HS.out _ z8 | exact HS.out _ z0)
          (first
            | (go_at_call 63; refine (C1.out _).mono ?_; rintro e x1 ⟨rfl, rfl⟩)
            | (go_at_call 62; refine (C2.out _).mono ?_; rintro e x2 ⟨rfl, y8⟩; have z8 := z0.trans (y8.mono z0.size)))
        all_goals
          go_wp2
          refine ⟨⟨k + 1, by omega, by go_num, Lib.hid (fun i h5 h6 => ?_), b3.trans (z8.mono (by omega)), Nat.lt_of_lt_of_le z3 z8.size, Lib.hid (HX.out.below z8 (by omega)), Lib.hid (HV.out.below z8 (by omega))⟩, by simp [intOf]; omega⟩
          have h7 := HQ.out.symm
          rw [Bool.and_eq_true, decide_eq_true_eq, decide_eq_true_eq] at h7
          have h8 := EJ.out
          by_cases e : i = j
          · subst e; exact h7
          · exact HJ.out i (by omega) h6
    · have t0 : decide ((k : Int) < r.n) = false := decide_eq_false hlt
      go_wp2
      go_ret
      refine ⟨?_, b3⟩
      rw [HB.out.2 (fun j h5 => HJ.out j (by omega) h5)]
      rfl
end Go.Proofs.YtmjneokjgcgchaaGreat
/-
  The program's own In and Holds, whatever they are given.
-/
namespace Go.Proofs.YtmjneokjgcgchaaGreat
open Go.RowKit Go.Sort

set_option maxHeartbeats 2000000 in
theorem In_any (r : Rc) (n v : Int) (w : World) :
    Calls Tryz.prog 30 #[.agg #[.int .i64 r.n, .int .i64 r.lo, .int .i64 r.hi], .agg #[.int .i64 n, .int .i64 v]] w fun e w' => e = .returned (.bool (inC r n v)) ∧ Below w.heap.size w w' := by
  have k1 := rcSane_any r
  have k2 := Sane_any n v
  by_cases hs : saneR r = true
  · by_cases hv : saneB n v = true
    · by_cases hn : n = r.n
      · subst hn
        exact In_yes r v w hs hv
      · have hi : inC r n v = false := by unfold inC; rw [decide_eq_false hn]; simp
        have t0 : (n != r.n) = true := by simpa using hn
        rw [hi]
        rw [hs] at k1
        rw [hv] at k2
        have K1 := Lib.hid k1
        have K2 := Lib.hid k2
        clear k1 k2 hs hv hi hn
        go_enter Tryz.func30, Tryz.ntmps30
        go_wp2_with fail
        refine (K1.out _).mono ?_
        rintro e w1 ⟨rfl, hb1⟩
        have z1 : w.heap.size + 1 < w1.heap.size := by have := hb1.size; simp at this; omega
        have x1 : Bx w1 w.heap.size r := (Bx.mk (by simp) (by simp) (by simp)).below hb1 (by simp; omega)
        have v1 : Bc2 w1 (w.heap.size + 1) n v := (Bc2.mk (by simp) (by simp)).below hb1 (by simp)
        have b1 : Below w.heap.size w w1 := (((Below.refl _ _).alloc (Nat.le_refl _) _).alloc (by simp) _).trans (hb1.mono (by simp; omega))
        clear hb1
        obtain ⟨y0, y1, y2⟩ := id x1
        obtain ⟨u0, u1⟩ := id v1
        go_wp2_with fail
        refine (K2.out _).mono ?_
        rintro e w2 ⟨rfl, hb2⟩
        have x2 := x1.below hb2 (by omega)
        have v2 := v1.below hb2 (by omega)
        have b2 := b1.trans (hb2.mono (by omega))
        clear y0 y1 y2 u0 u1 x1 v1 hb2
        obtain ⟨y0, y1, y2⟩ := id x2
        obtain ⟨u0, u1⟩ := id v2
        go_wp2
        go_ret
        exact ⟨rfl, b2⟩
    · have hv' : saneB n v = false := by simpa using hv
      have hi : inC r n v = false := by unfold inC; rw [hv']; simp
      rw [hi]
      rw [hs] at k1
      rw [hv'] at k2
      have K1 := Lib.hid k1
      have K2 := Lib.hid k2
      clear k1 k2 hs hv hv' hi
      go_enter Tryz.func30, Tryz.ntmps30
      go_wp2_with fail
      refine (K1.out _).mono ?_
      rintro e w1 ⟨rfl, hb1⟩
      have z1 : w.heap.size + 1 < w1.heap.size := by have := hb1.size; simp at this; omega
      have v1 : Bc2 w1 (w.heap.size + 1) n v := (Bc2.mk (by simp) (by simp)).below hb1 (by simp)
      have b1 : Below w.heap.size w w1 := (((Below.refl _ _).alloc (Nat.le_refl _) _).alloc (by simp) _).trans (hb1.mono (by simp; omega))
      clear hb1
      obtain ⟨u0, u1⟩ := id v1
      go_wp2_with fail
      refine (K2.out _).mono ?_
      rintro e w2 ⟨rfl, hb2⟩
      go_wp2
      go_ret
      exact ⟨rfl, b1.trans (hb2.mono (by omega))⟩
  · have hs' : saneR r = false := by simpa using hs
    have hi : inC r n v = false := by unfold inC; rw [hs']; simp
    rw [hi]
    rw [hs'] at k1
    have K1 := Lib.hid k1
    clear k1 k2 hs hs' hi
    go_enter Tryz.func30, Tryz.ntmps30
    go_wp2_with fail
    refine (K1.out _).mono ?_
    rintro e w1 ⟨rfl, hb1⟩
    go_wp2
    go_ret
    exact ⟨rfl, (((Below.refl _ _).alloc (Nat.le_refl _) _).alloc (by simp) _).trans (hb1.mono (by simp; omega))⟩
set_option maxHeartbeats 2000000 in
theorem Holds_any (a b : Rc) (w : World) :
    Calls Tryz.prog 125 #[.agg #[.int .i64 a.n, .int .i64 a.lo, .int .i64 a.hi], .agg #[.int .i64 b.n, .int .i64 b.lo, .int .i64 b.hi]] w fun e w' => e = .returned (.bool (hoC a b)) ∧ Below w.heap.size w w' := by
  rw [hoC_by]
  have k1 := rcSane_any b
  have k2 := In_any a b.n b.lo
  have k3 := In_any a b.n b.hi
  generalize saneR b = s at *
  generalize inC a b.n b.lo = i1 at *
  generalize inC a b.n b.hi = i2 at *
  have K1 := Lib.hid k1
  have K2 := Lib.hid k2
  have K3 := Lib.hid k3
  clear k1 k2 k3
  cases s with
  | false =>
    go_enter Tryz.func125, Tryz.ntmps125
    go_wp2_with fail
    refine (K1.out _).mono ?_
    rintro e w1 ⟨rfl, hb1⟩
    go_wp2
    go_ret
    exact ⟨rfl, (((Below.refl _ _).alloc (Nat.le_refl _) _).alloc (by simp) _).trans (hb1.mono (by simp; omega))⟩
  | true =>
    go_enter Tryz.func125, Tryz.ntmps125
    go_wp2_with fail
    refine (K1.out _).mono ?_
    rintro e w1 ⟨rfl, hb1⟩
    have z1 : w.heap.size + 1 < w1.heap.size := by have := hb1.size; simp at this; omega
    have x1 : Bx w1 w.heap.size a := (Bx.mk (by simp) (by simp) (by simp)).below hb1 (by simp; omega)
    have v1 : Bx w1 (w.heap.size + 1) b := (Bx.mk (by simp) (by simp) (by simp)).below hb1 (by simp)
    have b1 : Below w.heap.size w w1 := (((Below.refl _ _).alloc (Nat.le_refl _) _).alloc (by simp) _).trans (hb1.mono (by simp; omega))
    clear hb1
    obtain ⟨y0, y1, y2⟩ := id x1
    obtain ⟨u0, u1, u2⟩ := id v1
    go_wp2_with fail
    refine (K2.out _).mono ?_
    rintro e w2 ⟨rfl, hb2⟩
    have x2 := x1.below hb2 (by omega)
    have v2 := v1.below hb2 (by omega)
    have b2 := b1.trans (hb2.mono (by omega))
    have z2 : w.heap.size + 1 < w2.heap.size := Nat.lt_of_lt_of_le z1 hb2.size
    clear y0 y1 y2 u0 u1 u2 x1 v1 hb2
    cases i1 with
    | false =>
      go_wp2
      go_ret
      exact ⟨rfl, b2⟩
    | true =>
      obtain ⟨y0, y1, y2⟩ := id x2
      obtain ⟨u0, u1, u2⟩ := id v2
      go_wp2_with fail
      refine (K3.out _).mono ?_
      rintro e w3 ⟨rfl, hb3⟩
      go_wp2
      go_ret
      exact ⟨rfl, b2.trans (hb3.mono (by omega))⟩
end Go.Proofs.YtmjneokjgcgchaaGreat
/-
  Layer 6, plainly: how Size, Nth and Fits come to their answers, step by step.
-/
namespace Go.Proofs.YtmjneokjgcgchaaGreat
open Go.RowKit

theorem drop_cons {α : Type} {l : List α} {j : Nat} {x : α} (h : l[j]? = some x) : l.drop j = x :: l.drop (j + 1) := by
  obtain ⟨hj, e⟩ := List.getElem?_eq_some_iff.1 h
  rw [List.drop_eq_getElem_cons hj, e]
theorem szR_drop {p : List (Nat × Nat)} {j : Nat} {q : Nat × Nat} (h : p[j]? = some q) : szR (p.drop j) = (q.2 - q.1 + 1) * szR (p.drop (j + 1)) := by rw [drop_cons h, szR]
/-- What is left of a number behind so many bytes. -/
def kJ : List (Nat × Nat) → Nat → Nat → Nat
  | _, k, 0 => k
  | [], k, _ + 1 => k
  | q :: t, k, j + 1 => kJ t (k / (q.2 - q.1 + 1)) j
theorem kJ_step : ∀ {p : List (Nat × Nat)} {k j : Nat} {q : Nat × Nat}, p[j]? = some q → kJ p k (j + 1) = kJ p k j / (q.2 - q.1 + 1)
  | [], _, _, _, h => by simp at h
  | a :: t, k, 0, q, h => by
    rw [List.getElem?_cons_zero] at h
    cases h
    cases t <;> rfl
  | a :: t, k, j + 1, q, h => by
    rw [List.getElem?_cons_succ] at h
    rw [kJ, kJ]
    exact kJ_step h
theorem ntR_at : ∀ {p : List (Nat × Nat)} {k j : Nat} {q : Nat × Nat}, p[j]? = some q → (ntR p k)[j]? = some (q.1 + kJ p k j % (q.2 - q.1 + 1))
  | [], _, _, _, h => by simp at h
  | a :: t, k, 0, q, h => by
    rw [List.getElem?_cons_zero] at h
    cases h
    rw [ntR, List.getElem?_cons_zero, kJ]
  | a :: t, k, j + 1, q, h => by
    rw [List.getElem?_cons_succ] at h
    rw [ntR, List.getElem?_cons_succ, kJ]
    exact ntR_at h
theorem nuR_take : ∀ {u : List Nat} {j d : Nat}, u[j]? = some d → nuR (u.take (j + 1)) = nuR (u.take j) + d * 256 ^ j
  | [], _, _, h => by simp at h
  | a :: t, 0, d, h => by
    rw [List.getElem?_cons_zero] at h
    cases h
    simp [nuR]
  | a :: t, j + 1, d, h => by
    rw [List.getElem?_cons_succ] at h
    rw [List.take_succ_cons, List.take_succ_cons, nuR, nuR, nuR_take h, Nat.pow_succ, Nat.mul_add, ← Nat.add_assoc]
    congr 1
    rw [Nat.mul_comm (256 ^ j) 256, Nat.mul_left_comm]
theorem nuR_lt {u : List Nat} (h : ∀ d ∈ u, d < 256) (j : Nat) : nuR (u.take j) < 256 ^ j := by
  have h1 := (nu_be (u := u.take j) (fun d hd => h d (List.mem_of_mem_take hd))).2
  exact Nat.lt_of_lt_of_le h1 (Nat.pow_le_pow_right (by decide) (by rw [List.length_take]; omega))
/-- How many bytes fit, from the first one on. -/
def fitN : List (Nat × Nat) → List Nat → Nat
  | q :: t, d :: u => if q.1 ≤ d ∧ d ≤ q.2 then fitN t u + 1 else 0
  | _, _ => 0
theorem fitN_nil (p : List (Nat × Nat)) : fitN p [] = 0 := by cases p <;> rfl
theorem fitN_none (u : List Nat) : fitN [] u = 0 := by cases u <;> rfl
theorem fitN_yes {p : List (Nat × Nat)} {u : List Nat} {k d : Nat} {q : Nat × Nat} (h1 : p[k]? = some q) (h2 : u[k]? = some d) (h3 : q.1 ≤ d ∧ d ≤ q.2) : fitN (p.drop k) (u.drop k) = fitN (p.drop (k + 1)) (u.drop (k + 1)) + 1 := by
  rw [drop_cons h1, drop_cons h2, fitN, if_pos h3]
theorem fitN_no {p : List (Nat × Nat)} {u : List Nat} {k d : Nat} {q : Nat × Nat} (h1 : p[k]? = some q) (h2 : u[k]? = some d) (h3 : ¬ (q.1 ≤ d ∧ d ≤ q.2)) : fitN (p.drop k) (u.drop k) = 0 := by
  rw [drop_cons h1, drop_cons h2, fitN, if_neg h3]
theorem fitN_le : ∀ (p : List (Nat × Nat)) (u : List Nat), fitN p u ≤ p.length ∧ fitN p u ≤ u.length
  | [], u => by rw [fitN_none]; exact ⟨Nat.zero_le _, Nat.zero_le _⟩
  | _ :: _, [] => by rw [fitN_nil]; exact ⟨Nat.zero_le _, Nat.zero_le _⟩
  | q :: t, d :: u => by
    have ih := fitN_le t u
    rw [fitN, List.length_cons, List.length_cons]
    split <;> omega
/-- Bytes behind change nothing, unless all fit so far. -/
theorem fitN_more : ∀ (p : List (Nat × Nat)) (u m : List Nat), fitN p u ≤ fitN p (u ++ m) ∧ (fitN p u ≠ u.length → fitN p (u ++ m) = fitN p u) ∧ (p.length ≤ u.length → fitN p (u ++ m) = fitN p u)
  | [], u, m => by rw [fitN_none, fitN_none]; exact ⟨Nat.le_refl _, fun _ => rfl, fun _ => rfl⟩
  | q :: t, [], m => by
    rw [fitN_nil]
    refine ⟨Nat.zero_le _, fun h => absurd rfl h, fun h => ?_⟩
    rw [List.length_cons, List.length_nil] at h
    omega
  | q :: t, d :: u, m => by
    have ih := fitN_more t u m
    rw [List.cons_append, fitN, fitN, List.length_cons, List.length_cons]
    split
    · refine ⟨by omega, fun h => ?_, fun h => ?_⟩
      · rw [ih.2.1 (by omega)]
      · rw [ih.2.2 (by omega)]
    · exact ⟨Nat.le_refl _, fun _ => rfl, fun _ => rfl⟩
/-- All fit just if they are within. -/
theorem fitN_all : ∀ (p : List (Nat × Nat)) (u : List Nat), p.length = u.length → (fitN p u = p.length ↔ ∀ (j : Nat) (q : Nat × Nat) (d : Nat), p[j]? = some q → u[j]? = some d → q.1 ≤ d ∧ d ≤ q.2)
  | [], [], _ => by simp [fitN]
  | [], _ :: _, h => by simp at h
  | _ :: _, [], h => by simp at h
  | q :: t, d :: u, h => by
    have ih := fitN_all t u (by simpa using h)
    have hl := fitN_le t u
    rw [fitN, List.length_cons]
    constructor
    · intro h1
      by_cases hq : q.1 ≤ d ∧ d ≤ q.2
      · rw [if_pos hq] at h1
        have h2 := ih.1 (by omega)
        intro j q' d' e1 e2
        cases j with
        | zero =>
          rw [List.getElem?_cons_zero] at e1 e2
          cases e1
          cases e2
          exact hq
        | succ j =>
          rw [List.getElem?_cons_succ] at e1 e2
          exact h2 j q' d' e1 e2
      · rw [if_neg hq] at h1
        omega
    · intro h1
      rw [if_pos (h1 0 q d rfl rfl), ih.2 (fun j q' d' e1 e2 => h1 (j + 1) q' d' (by rw [List.getElem?_cons_succ]; exact e1) (by rw [List.getElem?_cons_succ]; exact e2))]
/-- How many bytes fit. -/
def fitC (r : Rc) (l : List UInt8) : Nat := if saneR r = true then fitN (prs r).reverse (l.map (·.toNat)) else 0
theorem fitC_le (r : Rc) (l : List UInt8) : fitC r l ≤ l.length := by
  unfold fitC
  split
  · have := (fitN_le (prs r).reverse (l.map (·.toNat))).2
    rwa [List.length_map] at this
  · exact Nat.zero_le _
theorem rev_at {α : Type} {l : List α} {k : Nat} (h : k < l.length) : l.reverse[k]? = l[l.length - 1 - k]? := List.getElem?_reverse h
theorem prs_rev {r : Rc} (h : saneR r = true) {k : Nat} (hk : k < r.n.toNat) : (prs r).reverse[k]? = some ((byJ r.lo (r.n.toNat - 1 - k)).toNat, (byJ r.hi (r.n.toNat - 1 - k)).toNat) := by
  have h0 := (saneR_iff r).1 h
  rw [rev_at (by rw [prs_len h]; exact hk), prs_len h]
  exact prs_at h0.1 h0.2.1 (by omega)
end Go.Proofs.YtmjneokjgcgchaaGreat
/-
  slices.SortFunc at this program: the numbers that its functions and types have here.
-/
namespace Go.Proofs.YtmjneokjgcgchaaGreat
open Go.RowKit Go.Shelf

def sortRen : Go.Shelf.Ren := ⟨fun | 1 => 1 | 2 => 2 | 6 => 120 | 14 => 146 | 15 => 147 | 20 => 159 | 21 => 160 | 22 => 161 | 23 => 162 | 24 => 163 | 25 => 164 | 26 => 165 | 27 => 166 | 28 => 167 | 29 => 168 | 46 => 171 | 47 => 172 | 48 => 173 | 49 => 174 | 50 => 175 | 57 => 176 | 60 => 177 | 61 => 178 | 62 => 179 | 63 => 180 | 64 => 181 | 65 => 182 | 66 => 183 | 67 => 184 | 68 => 185 | 69 => 186 | 70 => 187 | 71 => 188 | 72 => 189 | 73 => 190 | 74 => 191 | 75 => 192 | n => n, fun | 0 => 0 | 1 => 1 | 2 => 2 | 3 => 3 | 4 => 4 | 5 => 5 | 6 => 6 | 7 => 7 | 8 => 8 | 9 => 9 | 10 => 10 | 11 => 11 | 12 => 12 | 13 => 13 | 14 => 14 | 15 => 15 | 16 => 16 | 17 => 17 | 18 => 18 | 19 => 19 | 20 => 20 | 21 => 21 | 22 => 23 | 23 => 145 | 24 => 62 | 25 => 146 | 37 => 160 | 38 => 161 | 39 => 134 | 40 => 104 | 44 => 174 | 45 => 175 | 46 => 176 | 47 => 177 | 48 => 178 | 49 => 179 | 50 => 55 | 51 => 180 | 52 => 181 | 53 => 182 | 54 => 183 | 55 => 184 | 66 => 187 | 67 => 188 | 68 => 189 | 69 => 190 | 70 => 191 | 71 => 192 | 76 => 193 | 77 => 140 | 78 => 194 | 81 => 195 | 82 => 196 | 83 => 197 | 84 => 198 | 85 => 199 | 86 => 200 | 87 => 201 | 88 => 202 | 89 => 203 | 90 => 204 | 91 => 205 | 92 => 206 | 93 => 207 | 94 => 208 | 95 => 209 | 96 => 210 | n => n, fun | n => n⟩
theorem sortLays : Go.Proofs.SlLaysF0.n6 Tryz.prog sortRen := {
  mixed := by kernel_rfl
  f6 := ⟨"slices.SortFunc[[]hornbook/api.Rect,hornbook/api.Rect]", by decide, Tryz.func120.trans (congrArg some (by kernel_rfl))⟩
  f14 := ⟨"slices.pdqsortCmpFunc[hornbook/api.Rect]", by decide, Tryz.func146.trans (congrArg some (by kernel_rfl))⟩
  f15 := Tryz.func147.trans (congrArg some (by kernel_rfl))
  f20 := ⟨"slices.insertionSortCmpFunc[hornbook/api.Rect]", by decide, Tryz.func159.trans (congrArg some (by kernel_rfl))⟩
  f21 := ⟨"slices.heapSortCmpFunc[hornbook/api.Rect]", by decide, Tryz.func160.trans (congrArg some (by kernel_rfl))⟩
  f22 := ⟨"slices.breakPatternsCmpFunc[hornbook/api.Rect]", by decide, Tryz.func161.trans (congrArg some (by kernel_rfl))⟩
  f23 := ⟨"slices.choosePivotCmpFunc[hornbook/api.Rect]", by decide, Tryz.func162.trans (congrArg some (by kernel_rfl))⟩
  f24 := ⟨"slices.reverseRangeCmpFunc[hornbook/api.Rect]", by decide, Tryz.func163.trans (congrArg some (by kernel_rfl))⟩
  f25 := ⟨"slices.partialInsertionSortCmpFunc[hornbook/api.Rect]", by decide, Tryz.func164.trans (congrArg some (by kernel_rfl))⟩
  f26 := ⟨"slices.partitionEqualCmpFunc[hornbook/api.Rect]", by decide, Tryz.func165.trans (congrArg some (by kernel_rfl))⟩
  f27 := ⟨"slices.partitionCmpFunc[hornbook/api.Rect]", by decide, Tryz.func166.trans (congrArg some (by kernel_rfl))⟩
  f28 := Tryz.func167.trans (congrArg some (by kernel_rfl))
  f29 := Tryz.func168.trans (congrArg some (by kernel_rfl))
  f46 := ⟨"slices.siftDownCmpFunc[hornbook/api.Rect]", by decide, Tryz.func171.trans (congrArg some (by kernel_rfl))⟩
  f47 := Tryz.func172.trans (congrArg some (by kernel_rfl))
  f48 := Tryz.func173.trans (congrArg some (by kernel_rfl))
  f49 := ⟨"slices.medianAdjacentCmpFunc[hornbook/api.Rect]", by decide, Tryz.func174.trans (congrArg some (by kernel_rfl))⟩
  f50 := ⟨"slices.medianCmpFunc[hornbook/api.Rect]", by decide, Tryz.func175.trans (congrArg some (by kernel_rfl))⟩
  f57 := ⟨"slices.order2CmpFunc[hornbook/api.Rect]", by decide, Tryz.func176.trans (congrArg some (by kernel_rfl))⟩
  t0 := Tryz.underlying0
  a0 := Tryz.isAgg0
  z0 := Tryz.sizeOf0
  v0 := Tryz.zeroValue0
  t3 := Tryz.underlying3
  a3 := Tryz.isAgg3
  z3 := Tryz.sizeOf3
  v3 := Tryz.zeroValue3
  t4 := Tryz.underlying4
  a4 := Tryz.isAgg4
  z4 := Tryz.sizeOf4
  v4 := Tryz.zeroValue4
  t5 := Tryz.underlying5
  a5 := Tryz.isAgg5
  z5 := Tryz.sizeOf5
  v5 := Tryz.zeroValue5
  t9 := Tryz.underlying9
  a9 := Tryz.isAgg9
  z9 := Tryz.sizeOf9
  v9 := Tryz.zeroValue9
  t22 := Tryz.underlying23
  a22 := Tryz.isAgg23
  z22 := Tryz.sizeOf23
  v22 := Tryz.zeroValue23
  t25 := Tryz.underlying146
  a25 := Tryz.isAgg146
  z25 := Tryz.sizeOf146
  v25 := Tryz.zeroValue146
  t39 := Tryz.underlying134
  a39 := Tryz.isAgg134
  z39 := Tryz.sizeOf134
  v39 := Tryz.zeroValue134
  t45 := Tryz.underlying175
  a45 := Tryz.isAgg175
  z45 := Tryz.sizeOf175
  v45 := Tryz.zeroValue175
  t46 := Tryz.underlying176
  a46 := Tryz.isAgg176
  z46 := Tryz.sizeOf176
  v46 := Tryz.zeroValue176
  t50 := Tryz.underlying55
  a50 := Tryz.isAgg55
  z50 := Tryz.sizeOf55
  v50 := Tryz.zeroValue55
  t53 := Tryz.underlying182
  a53 := Tryz.isAgg182
  z53 := Tryz.sizeOf182
  v53 := Tryz.zeroValue182
  t55 := Tryz.underlying184
  a55 := Tryz.isAgg184
  z55 := Tryz.sizeOf184
  v55 := Tryz.zeroValue184
  t66 := Tryz.underlying187
  a66 := Tryz.isAgg187
  z66 := Tryz.sizeOf187
  v66 := Tryz.zeroValue187
  t70 := Tryz.underlying191
  a70 := Tryz.isAgg191
  z70 := Tryz.sizeOf191
  v70 := Tryz.zeroValue191
  t76 := Tryz.underlying193
  a76 := Tryz.isAgg193
  z76 := Tryz.sizeOf193
  v76 := Tryz.zeroValue193
  t77 := Tryz.underlying140
  a77 := Tryz.isAgg140
  z77 := Tryz.sizeOf140
  v77 := Tryz.zeroValue140 }
end Go.Proofs.YtmjneokjgcgchaaGreat
/-
  The program's own compare: which of two codespaces goes ahead.
-/
namespace Go.Proofs.YtmjneokjgcgchaaGreat
open Go.RowKit Go.Sort Go.Shelf

/-- Numbers that a float holds as they are. -/
structure Sml (r : Rc) : Prop where
  n0 : 0 ≤ r.n
  n1 : r.n < 4294967296
  l0 : 0 ≤ r.lo
  l1 : r.lo < 4294967296
  h0 : 0 ≤ r.hi
  h1 : r.hi < 4294967296
theorem sane_lt {n v : Int} (h : saneB n v = true) : 0 ≤ v ∧ v < 4294967296 ∧ 1 ≤ n ∧ n ≤ 4 := by
  obtain ⟨h1, h2, h3, h4⟩ := (saneB_iff n v).1 h
  rcases (show n = 1 ∨ n = 2 ∨ n = 3 ∨ n = 4 by omega) with rfl | rfl | rfl | rfl
  all_goals
    simp at h4
    omega
theorem Sml.of_sane {r : Rc} (h : saneR r = true) : Sml r := by
  have h0 := (saneR_iff r).1 h
  have a := sane_lt h0.1
  have b := sane_lt h0.2.1
  exact ⟨by omega, by omega, a.1, a.2.1, b.1, b.2.1⟩
/-- What compare answers. -/
def cmpC (a b : Rc) : Int := if ltC a b = true then -1 else if ltC b a = true then 1 else 0
theorem cmpC_lt (a b : Rc) : decide (cmpC a b < 0) = ltC a b := by
  unfold cmpC
  cases ltC a b with
  | true => rfl
  | false => cases ltC b a <;> rfl
theorem ltC_low {a b : Rc} (h : ¬ (a.n = b.n ∧ a.lo = b.lo)) : ltC a b = ahR a.n a.lo b.n b.lo := by
  unfold ltC ahR
  exact decide_eq_decide.2 (by omega)
theorem ltC_high {a b : Rc} (h : a.n = b.n ∧ a.lo = b.lo) : ltC a b = ahR a.n a.hi b.n b.hi := by
  unfold ltC ahR
  exact decide_eq_decide.2 (by omega)
/-- A world that is another one, after draws, with blocks behind it. -/
def Gw (w w' : World) : Prop := ∃ q os, w' = grow (w.drewN q) os
theorem Gw.refl (w : World) : Gw w w := ⟨0, #[], by rw [grow_empty]; rfl⟩
theorem Gw.trans {a b c : World} (h : Gw a b) (k : Gw b c) : Gw a c := by
  obtain ⟨q, os, rfl⟩ := h
  obtain ⟨p, os', rfl⟩ := k
  exact ⟨q + p, os ++ os', by show grow (grow ((a.drewN q).drewN p) os) os' = _; rw [grow_grow, World.drewN_drewN]⟩
theorem Gw.alloc {a b : World} (h : Gw a b) (o : Obj) : Gw a (b.alloc o) := h.trans ⟨0, _, by rw [alloc_eq_grow]; rfl⟩
theorem Gw.cell {a b : World} (h : Gw a b) {p : Addr} (hp : p.block < a.heap.size) : b.cell? p = a.cell? p := by
  obtain ⟨q, os, rfl⟩ := h
  rw [cell?_grow _ _ _ (by exact hp)]
  rfl
theorem Gw.size {a b : World} (h : Gw a b) : a.heap.size ≤ b.heap.size := by
  obtain ⟨q, os, rfl⟩ := h
  rw [size_grow]
  exact Nat.le_add_right _ _
theorem Gw.bx {a b : World} {k : Nat} {r : Rc} (h : Gw a b) (x : Bx a k r) (hk : k < a.heap.size) : Bx b k r :=
  ⟨(h.cell (p := ⟨k, 0, none⟩) hk).trans x.c0, (h.cell (p := ⟨k, 1, none⟩) hk).trans x.c1, (h.cell (p := ⟨k, 2, none⟩) hk).trans x.c2⟩
theorem Gw.gr (a : World) (n : Nat) (os : Array Obj) : Gw a (grow (a.drewN n) os) := ⟨n, os, rfl⟩
set_option maxHeartbeats 2000000 in
theorem compare_any (a b : Rc) (w : World) (ha : Sml a) (hb : Sml b) :
    Calls Tryz.prog 121 #[.agg #[.int .i64 a.n, .int .i64 a.lo, .int .i64 a.hi], .agg #[.int .i64 b.n, .int .i64 b.lo, .int .i64 b.hi]] w fun e w' => e = .returned (.int .i64 (cmpC a b)) ∧ ∃ q os, w' = grow (w.drewN q) os := by
  have K1 := Lib.hid (lowest_any a.n a.lo a.hi)
  have K2 := Lib.hid (lowest_any b.n b.lo b.hi)
  have K3 := Lib.hid (highest_any a.n a.lo a.hi)
  have K4 := Lib.hid (highest_any b.n b.lo b.hi)
  have HA := Lib.hid ha
  have HB := Lib.hid hb
  have o1 := flN_order ha.n0 ha.n1 hb.n0 hb.n1
  have o2 := flN_order ha.l0 ha.l1 hb.l0 hb.l1
  have e1 : (FloatKind.f64.format.order (flN a.n) (flN b.n) == some Ordering.eq) = decide (a.n = b.n) := by rw [o1, cmp_eq]
  have e2 : (FloatKind.f64.format.order (flN a.lo) (flN b.lo) == some Ordering.eq) = decide (a.lo = b.lo) := by rw [o2, cmp_eq]
  have e3 : ((FloatKind.f64.format.order (flN a.n) (flN b.n) == some Ordering.eq) && (FloatKind.f64.format.order (flN a.lo) (flN b.lo) == some Ordering.eq)) = decide (a.n = b.n ∧ a.lo = b.lo) := by rw [e1, e2]; exact (Bool.decide_and _ _).symm
  clear o1 o2 e1 e2 ha hb
  go_enter Tryz.func121, Tryz.ntmps121
  go_wp2_with fail
  have xa : Bx ((w.alloc (.cells #[.int .i64 a.n, .int .i64 a.lo, .int .i64 a.hi] 62)).alloc (.cells #[.int .i64 b.n, .int .i64 b.lo, .int .i64 b.hi] 62)) w.heap.size a := ⟨by simp, by simp, by simp⟩
  have xb : Bx ((w.alloc (.cells #[.int .i64 a.n, .int .i64 a.lo, .int .i64 a.hi] 62)).alloc (.cells #[.int .i64 b.n, .int .i64 b.lo, .int .i64 b.hi] 62)) (w.heap.size + 1) b := ⟨by simp, by simp, by simp⟩
  have g1 : Gw w ((w.alloc (.cells #[.int .i64 a.n, .int .i64 a.lo, .int .i64 a.hi] 62)).alloc (.cells #[.int .i64 b.n, .int .i64 b.lo, .int .i64 b.hi] 62)) := ((Gw.refl w).alloc _).alloc _
  have z1 : w.heap.size + 1 < ((w.alloc (.cells #[.int .i64 a.n, .int .i64 a.lo, .int .i64 a.hi] 62)).alloc (.cells #[.int .i64 b.n, .int .i64 b.lo, .int .i64 b.hi] 62)).heap.size := by simp
  have zA : w.heap.size < ((w.alloc (.cells #[.int .i64 a.n, .int .i64 a.lo, .int .i64 a.hi] 62)).alloc (.cells #[.int .i64 b.n, .int .i64 b.lo, .int .i64 b.hi] 62)).heap.size := by omega
  generalize (w.alloc (.cells #[.int .i64 a.n, .int .i64 a.lo, .int .i64 a.hi] 62)).alloc (.cells #[.int .i64 b.n, .int .i64 b.lo, .int .i64 b.hi] 62) = w1 at *
  generalize hB : w.heap.size + 1 = B at *
  clear hB
  have mixed : Tryz.prog.follows .mixedOrders = true := by kernel_rfl
  have ya0 := fun n os => ((Gw.gr w1 n os).bx xa zA).c0
  have ya1 := fun n os => ((Gw.gr w1 n os).bx xa zA).c1
  have ya2 := fun n os => ((Gw.gr w1 n os).bx xa zA).c2
  have yb0 := fun n os => ((Gw.gr w1 n os).bx xb z1).c0
  have yb1 := fun n os => ((Gw.gr w1 n os).bx xb z1).c1
  have yb2 := fun n os => ((Gw.gr w1 n os).bx xb z1).c2
  go_quiet_grown ((go_at_call 126; first | with_reducible exact Calls.grown_of (K1.out _) | with_reducible exact Calls.grown_of (K2.out _)))
  have g2 := g1.trans (Gw.gr w1 nq osq)
  have xa2 := (Gw.gr w1 nq osq).bx xa zA
  have xb2 := (Gw.gr w1 nq osq).bx xb z1
  have zA2 := Nat.lt_of_lt_of_le zA (Gw.gr w1 nq osq).size
  have zB2 := Nat.lt_of_lt_of_le z1 (Gw.gr w1 nq osq).size
  generalize grow (w1.drewN nq) osq = w2 at *
  clear ya0 ya1 ya2 yb0 yb1 yb2 xa xb z1 zA g1
  by_cases h : a.n = b.n ∧ a.lo = b.lo
  · rw [decide_eq_true h] at e3
    have l1 := ltC_high h
    have l2 := ltC_high (a := b) (b := a) ⟨h.1.symm, h.2.symm⟩
    have F1 := Lib.hid (fun W => first_any a.n a.hi b.n b.hi W HA.out.n0 HA.out.n1 HA.out.h0 HA.out.h1 HB.out.n0 HB.out.n1 HB.out.h0 HB.out.h1)
    have F2 := Lib.hid (fun W => first_any b.n b.hi a.n a.hi W HB.out.n0 HB.out.n1 HB.out.h0 HB.out.h1 HA.out.n0 HA.out.n1 HA.out.h0 HA.out.h1)
    rw [← l1] at F1
    rw [← l2] at F2
    have HH := Lib.hid h
    clear h l1 l2
    go_wp2_with fail
    have ya0 := fun n os => ((Gw.gr w2 n os).bx xa2 zA2).c0
    have ya1 := fun n os => ((Gw.gr w2 n os).bx xa2 zA2).c1
    have ya2 := fun n os => ((Gw.gr w2 n os).bx xa2 zA2).c2
    have yb0 := fun n os => ((Gw.gr w2 n os).bx xb2 zB2).c0
    have yb1 := fun n os => ((Gw.gr w2 n os).bx xb2 zB2).c1
    have yb2 := fun n os => ((Gw.gr w2 n os).bx xb2 zB2).c2
    go_quiet_grown ((go_at_call 123; first | with_reducible exact Calls.grown_of (K3.out _) | with_reducible exact Calls.grown_of (K4.out _)))
    have g3 := g2.trans (Gw.gr w2 nq osq)
    generalize grow (w2.drewN nq) osq = w3 at *
    clear ya0 ya1 ya2 yb0 yb1 yb2 xa2 xb2 zA2 zB2 g2
    cases t1 : ltC a b with
    | true =>
      rw [t1] at F1
      go_wp2_with (go_at_call 124; with_reducible refine (F1.out _).mono ?_; rintro e x1 ⟨rfl, rfl⟩)
      go_ret
      refine ⟨?_, g3⟩
      unfold cmpC
      rw [t1]
      rfl
    | false =>
      rw [t1] at F1
      cases t2 : ltC b a with
      | true =>
        rw [t2] at F2
        go_wp2_with (first | (go_at_call 124; with_reducible refine (F1.out _).mono ?_; rintro e x1 ⟨rfl, rfl⟩) | (go_at_call 124; with_reducible refine (F2.out _).mono ?_; rintro e x1 ⟨rfl, rfl⟩))
        go_ret
        refine ⟨?_, g3⟩
        unfold cmpC
        rw [t1, t2]
        rfl
      | false =>
        rw [t2] at F2
        go_wp2_with (first | (go_at_call 124; with_reducible refine (F1.out _).mono ?_; rintro e x1 ⟨rfl, rfl⟩) | (go_at_call 124; with_reducible refine (F2.out _).mono ?_; rintro e x1 ⟨rfl, rfl⟩))
        go_ret
        refine ⟨?_, g3⟩
        unfold cmpC
        rw [t1, t2]
        rfl
  · rw [decide_eq_false h] at e3
    have l1 := ltC_low h
    have l2 := ltC_low (a := b) (b := a) (fun e => h ⟨e.1.symm, e.2.symm⟩)
    have F1 := Lib.hid (fun W => first_any a.n a.lo b.n b.lo W HA.out.n0 HA.out.n1 HA.out.l0 HA.out.l1 HB.out.n0 HB.out.n1 HB.out.l0 HB.out.l1)
    have F2 := Lib.hid (fun W => first_any b.n b.lo a.n a.lo W HB.out.n0 HB.out.n1 HB.out.l0 HB.out.l1 HA.out.n0 HA.out.n1 HA.out.l0 HA.out.l1)
    rw [← l1] at F1
    rw [← l2] at F2
    have HH := Lib.hid h
    clear h l1 l2
    cases t1 : ltC a b with
    | true =>
      rw [t1] at F1
      go_wp2_with (go_at_call 124; with_reducible refine (F1.out _).mono ?_; rintro e x1 ⟨rfl, rfl⟩)
      go_ret
      refine ⟨?_, g2⟩
      unfold cmpC
      rw [t1]
      rfl
    | false =>
      rw [t1] at F1
      cases t2 : ltC b a with
      | true =>
        rw [t2] at F2
        go_wp2_with (first | (go_at_call 124; with_reducible refine (F1.out _).mono ?_; rintro e x1 ⟨rfl, rfl⟩) | (go_at_call 124; with_reducible refine (F2.out _).mono ?_; rintro e x1 ⟨rfl, rfl⟩))
        go_ret
        refine ⟨?_, g2⟩
        unfold cmpC
        rw [t1, t2]
        rfl
      | false =>
        rw [t2] at F2
        go_wp2_with (first | (go_at_call 124; with_reducible refine (F1.out _).mono ?_; rintro e x1 ⟨rfl, rfl⟩) | (go_at_call 124; with_reducible refine (F2.out _).mono ?_; rintro e x1 ⟨rfl, rfl⟩))
        go_ret
        refine ⟨?_, g2⟩
        unfold cmpC
        rw [t1, t2]
        rfl
end Go.Proofs.YtmjneokjgcgchaaGreat
/-
  Codespaces in memory: a slice that holds a list of codespaces, three cells each; the document's own 'the same'.
-/
namespace Go.Proofs.YtmjneokjgcgchaaGreat
open Go.RowKit

/-- Codespaces as cells. -/
def rq (x : Rc) : List Value := [.int .i64 x.n, .int .i64 x.lo, .int .i64 x.hi]
def rvs (l : List Rc) : List Value := l.flatMap rq
theorem rvs_cons (t : Rc) (l : List Rc) : rvs (t :: l) = rq t ++ rvs l := by simp [rvs]
theorem rvs_append (a b : List Rc) : rvs (a ++ b) = rvs a ++ rvs b := by simp [rvs]
theorem rvs_length : ∀ l : List Rc, (rvs l).length = l.length * 3
  | [] => rfl
  | t :: l => by rw [rvs_cons, List.length_append, rvs_length l, List.length_cons]; simp [rq]; omega
theorem rvs_one (l : List Rc) : ∀ u ∈ rvs l, u.oneCell' = true := by
  intro u hu
  simp only [rvs, List.mem_flatMap, rq, List.mem_cons, List.not_mem_nil, or_false] at hu
  obtain ⟨t, _, rfl | rfl | rfl⟩ := hu <;> rfl
theorem rvs_get : ∀ (l : List Rc) (j i : Nat) (x : Rc), l[j]? = some x → i < 3 → (rvs l)[j * 3 + i]? = (rq x)[i]?
  | [], j, i, x, h, _ => by simp at h
  | t :: l, 0, i, x, h, hi => by
    rw [List.getElem?_cons_zero] at h
    cases h
    rw [rvs_cons, Nat.zero_mul, Nat.zero_add, List.getElem?_append_left (by simpa [rq] using hi)]
  | t :: l, j + 1, i, x, h, hi => by
    rw [List.getElem?_cons_succ] at h
    rw [rvs_cons, List.getElem?_append_right (by simp [rq]; omega), ← rvs_get l j i x h hi]
    congr 1
    simp [rq]
    omega
/-- A codespace's three cells, at a place. -/
structure R3 (w : World) (b p : Nat) (x : Rc) : Prop where
  c0 : w.cell? ⟨b, p, none⟩ = some (.int .i64 x.n)
  c1 : w.cell? ⟨b, p + 1, none⟩ = some (.int .i64 x.lo)
  c2 : w.cell? ⟨b, p + 2, none⟩ = some (.int .i64 x.hi)
theorem R3.keep {w w' : World} {b p : Nat} {x : Rc} (h : R3 w b p x) (hk : ∀ i, w'.cell? ⟨b, i, none⟩ = w.cell? ⟨b, i, none⟩) : R3 w' b p x := ⟨(hk _).trans h.c0, (hk _).trans h.c1, (hk _).trans h.c2⟩
/-- A slice at A holds the codespaces l, below block B. -/
def Sr (w : World) (B : Nat) (A : Option Addr) (l : List Rc) : Prop :=
  0 < l.length → ∃ b o, A = some ⟨b, o, none⟩ ∧ b < B ∧ ∀ j x, l[j]? = some x → R3 w b (o + j * 3) x
section
variable {w w' : World} {B B' : Nat} {A : Option Addr} {l : List Rc}
theorem Sr.keep (h : Sr w B A l) (hk : ∀ p : Addr, p.block < B → w'.cell? p = w.cell? p) : Sr w' B A l := fun hn => by
  obtain ⟨b, o, e, hb, hc⟩ := h hn
  exact ⟨b, o, e, hb, fun j x hx => (hc j x hx).keep fun i => hk ⟨b, i, none⟩ hb⟩
theorem Sr.below (h : Sr w B A l) (hb : Below B w w') : Sr w' B A l := h.keep fun _ hp => hb.cell hp
theorem Sr.more (h : Sr w B A l) (hB : B ≤ B') : Sr w B' A l := fun hn => by
  obtain ⟨b, o, e, hb, hc⟩ := h hn
  exact ⟨b, o, e, by omega, hc⟩
theorem Sr.over (h : Sr w w.heap.size A l) (hb : Below w.heap.size w w') : Sr w' w'.heap.size A l := (h.below hb).more hb.size
theorem Sr.nil : Sr w B A [] := fun h => absurd h (by simp)
theorem Sr.at (h : Sr w B A l) {j : Nat} {x : Rc} (hx : l[j]? = some x) : ∃ b o, A = some ⟨b, o, none⟩ ∧ b < B ∧ R3 w b (o + j * 3) x := by
  obtain ⟨b, o, e, hb, hc⟩ := h (by have := (List.getElem?_eq_some_iff.1 hx).1; omega)
  exact ⟨b, o, e, hb, hc j x hx⟩
theorem Sr.of_own {base : Nat} {e : TypeId} {v : Value} {n : Nat} (h : w.ownsRow base e 3 v n (rvs l)) : ∃ c, n = l.length ∧ n ≤ c ∧ ∃ A, v = .slice A l.length c ∧ Sr w w.heap.size A l := by
  have hl : n = l.length := by have := h.1; rw [rvs_length] at this; omega
  subst hl
  rcases h.2 with ⟨rfl, h0⟩ | ⟨g, cap, cur, rfl, hb, hg, hc, hm, hs, ht⟩
  · exact ⟨0, rfl, by omega, none, by rw [h0], fun hn => absurd hn (by omega)⟩
  · refine ⟨cap, rfl, hc, _, rfl, fun hn => ⟨g, 0, rfl, (Array.getElem?_eq_some_iff.1 hg).1, fun j x hx => ?_⟩⟩
    have key : ∀ i u, i < 3 → (rq x)[i]? = some u → w.cell? ⟨g, 0 + j * 3 + i, none⟩ = some u := fun i u hi hu => by
      have := h.cells (g := g) rfl (j * 3 + i) u ((rvs_get l j i x hx hi).trans hu)
      rwa [addr_add, ← Nat.add_assoc] at this
    exact ⟨key 0 _ (by omega) rfl, key 1 _ (by omega) rfl, key 2 _ (by omega) rfl⟩
end
theorem own_belowN {w w' : World} {base n b size : Nat} {e : TypeId} {v : Value} {xs : List Value} (h : w.ownsRow base e size v n xs) (hb : Below b w w') (hB : w.heap.size ≤ b) : w'.ownsRow base e size v n xs := by
  refine ⟨h.1, ?_⟩
  rcases h.2 with hn | ⟨g, cap, cur, rfl, h1, hg, rest⟩
  · exact .inl hn
  · refine .inr ⟨g, cap, cur, rfl, h1, ?_, rest⟩
    have hlt := (Array.getElem?_eq_some_iff.1 hg).1
    rw [hb.block g (by omega)]
    exact hg
theorem infoR : (Tryz.prog.info? 62).map (fun i => (i.zero, i.size, i.bytes)) = some (some (.agg #[.int .i64 0, .int .i64 0, .int .i64 0]), 3, 24) := by kernel_rfl
theorem drewN_cell (w : World) (n : Nat) (a : Addr) : (w.drewN n).cell? a = w.cell? a := rfl
/-- What a call hands back: a slice that holds codespaces. -/
def RetR (w : World) (l : List Rc) (e : Ending) (w' : World) : Prop :=
  ∃ A c, e = .returned (.slice A l.length c) ∧ l.length ≤ c ∧ Sr w' w'.heap.size A l ∧ Below w.heap.size w w'
set_option maxRecDepth 100000 in
set_option maxHeartbeats 1000000 in
/-- The document's own 'the same', at one list. -/
theorem rSame_yes {w : World} {A1 A2 : Option Addr} {c1 c2 : Nat} {l : List Rc} (ha : Sr w w.heap.size A1 l) (hb : Sr w w.heap.size A2 l) (hl : l.length ≤ 1048576) :
    Calls Tryz.prog 33 #[.slice A1 l.length c1, .slice A2 l.length c2] w fun r w' => r = .returned (.bool true) ∧ Below w.heap.size w w' := by
  have HA := Lib.hid ha
  have HB := Lib.hid hb
  clear ha hb
  generalize hn : l.length = n at *
  have HN := Lib.hid hn
  clear hn
  go_enter Tryz.func33, Tryz.ntmps33
  go_wp2
  go_loopw [5] (fun i wr => ∃ k m : Nat, k ≤ n ∧ i = .int .i64 (k : Int) ∧ Hid (wr = w.drewN m)) (fun i _ => n - (intOf i).toNat)
  case atStart => exact ⟨0, 0, Nat.zero_le _, rfl, Lib.hid rfl⟩
  case round =>
    obtain ⟨k, m, hk, rfl, HW⟩ := hrel
    by_cases hkl : k < n
    · have t0 : decide (k < n) = true := by simp; omega
      have hx := List.getElem?_eq_getElem (l := l) (i := k) (by have := HN.out; omega)
      generalize l[k]'(by have := HN.out; omega) = x at *
      obtain ⟨b1, o1, e1, _, q1⟩ := HA.out.at hx
      obtain ⟨b2, o2, e2, _, q2⟩ := HB.out.at hx
      subst e1 e2
      obtain ⟨y0, y1, y2⟩ : R3 wr b1 (o1 + k * 3) x := q1.keep fun i => by rw [HW.out, drewN_cell]
      obtain ⟨y3, y4, y5⟩ : R3 wr b2 (o2 + k * 3) x := q2.keep fun i => by rw [HW.out, drewN_cell]
      clear q1 q2 hx
      go_wp2
      go_quiet (fail)
      go_wp2
      refine ⟨⟨k + 1, _, by omega, by go_num, Lib.hid (by rw [HW.out]; exact World.drewN_drewN _ _ _)⟩, by simp [intOf]; omega⟩
    · have t0 : decide (k < n) = false := by simp; omega
      go_wp2
      go_ret
      exact ⟨rfl, by rw [HW.out]; exact below_drewN (Below.refl _ _) _⟩
end Go.Proofs.YtmjneokjgcgchaaGreat
/-
  slices.Compact at codespaces.
-/
namespace Go.Proofs.YtmjneokjgcgchaaGreat
open Go.RowKit Go.Lib

instance : Inhabited Rc := ⟨⟨0, 0, 0⟩⟩
/-- Three cells that may be written. -/
structure F3 (w : World) (b p : Nat) : Prop where
  f0 : w.frozen? ⟨b, p, none⟩ = false
  f1 : w.frozen? ⟨b, p + 1, none⟩ = false
  f2 : w.frozen? ⟨b, p + 2, none⟩ = false
/-- A row of codespaces that may be written. -/
def Ra (w : World) (b o : Nat) (d : Array Rc) : Prop := ∀ j, j < d.size → R3 w b (o + j * 3) d[j]! ∧ F3 w b (o + j * 3)
/-- A codespace put at a place. -/
def set3 (w : World) (b p : Nat) (x : Rc) : World := ((w.setCell ⟨b, p, none⟩ (.int .i64 x.n)).setCell ⟨b, p + 1, none⟩ (.int .i64 x.lo)).setCell ⟨b, p + 2, none⟩ (.int .i64 x.hi)
theorem set3_other (w : World) (b p : Nat) (x : Rc) (q : Nat) (h : q < p ∨ p + 2 < q) : (set3 w b p x).cell? ⟨b, q, none⟩ = w.cell? ⟨b, q, none⟩ := by
  have ne : ∀ i, i < 3 → (⟨b, p + i, none⟩ : Addr) ≠ ⟨b, q, none⟩ := fun i hi e => by injection e with _ e2; omega
  unfold set3
  rw [World.cell?_setCell_other _ _ _ _ (ne 2 (by omega)), World.cell?_setCell_other _ _ _ _ (ne 1 (by omega))]
  exact World.cell?_setCell_other _ _ _ _ (ne 0 (by omega))
theorem set3_same {w : World} {b p : Nat} {y : Rc} (h : R3 w b p y) (x : Rc) : R3 (set3 w b p x) b p x := by
  have ne : ∀ i j, i ≠ j → (⟨b, p + i, none⟩ : Addr) ≠ ⟨b, p + j, none⟩ := fun i j hi e => by injection e with _ e2; omega
  have ne' : ∀ i, i ≠ 0 → (⟨b, p, none⟩ : Addr) ≠ ⟨b, p + i, none⟩ := fun i hi e => by injection e with _ e2; omega
  have ne'' : ∀ i, i ≠ 0 → (⟨b, p + i, none⟩ : Addr) ≠ ⟨b, p, none⟩ := fun i hi e => by injection e with _ e2; omega
  unfold set3
  refine ⟨?_, ?_, ?_⟩
  · rw [World.cell?_setCell_other _ _ _ _ (ne'' 2 (by omega)), World.cell?_setCell_other _ _ _ _ (ne'' 1 (by omega))]
    exact World.cell?_setCell_same _ _ _ h.c0
  · rw [World.cell?_setCell_other _ _ _ _ (ne 2 1 (by omega))]
    exact World.cell?_setCell_same _ _ _ ((World.cell?_setCell_other _ _ _ _ (ne' 1 (by omega))).trans h.c1)
  · exact World.cell?_setCell_same _ _ _ ((World.cell?_setCell_other _ _ _ _ (ne 1 2 (by omega))).trans ((World.cell?_setCell_other _ _ _ _ (ne' 2 (by omega))).trans h.c2))
theorem set3_frozen (w : World) (b p : Nat) (x : Rc) (a : Addr) : (set3 w b p x).frozen? a = w.frozen? a := by
  unfold set3
  rw [World.frozen?_setCell, World.frozen?_setCell, World.frozen?_setCell]
theorem Ra.set {w : World} {b o : Nat} {d : Array Rc} (h : Ra w b o d) {k : Nat} (hk : k < d.size) (x : Rc) : Ra (set3 w b (o + k * 3) x) b o (d.setIfInBounds k x) := fun j hj => by
  rw [Array.size_setIfInBounds] at hj
  obtain ⟨h1, h2⟩ := h j hj
  refine ⟨?_, ⟨(set3_frozen _ _ _ _ _).trans h2.f0, (set3_frozen _ _ _ _ _).trans h2.f1, (set3_frozen _ _ _ _ _).trans h2.f2⟩⟩
  by_cases e : j = k
  · subst e
    rw [Sort.getElem!_set_same d j x hj]
    exact set3_same h1 x
  · rw [Sort.getElem!_set_other d k j x e]
    exact ⟨(set3_other _ _ _ _ _ (by omega)).trans h1.c0, (set3_other _ _ _ _ _ (by omega)).trans h1.c1, (set3_other _ _ _ _ _ (by omega)).trans h1.c2⟩
theorem Ra.below {w w' : World} {b o B : Nat} {d : Array Rc} (h : Ra w b o d) (hb : Below B w w') (hB : b < B) : Ra w' b o d := fun j hj => by
  obtain ⟨h1, h2⟩ := h j hj
  exact ⟨h1.keep fun i => hb.cell (p := ⟨b, i, none⟩) hB, ⟨(hb.frozen (p := ⟨b, _, none⟩) hB).trans h2.f0, (hb.frozen (p := ⟨b, _, none⟩) hB).trans h2.f1, (hb.frozen (p := ⟨b, _, none⟩) hB).trans h2.f2⟩⟩
theorem Ra.drewN {w : World} {b o : Nat} {d : Array Rc} (h : Ra w b o d) (n : Nat) : Ra (w.drewN n) b o d := fun j hj => ⟨(h j hj).1.keep fun _ => rfl, ⟨(h j hj).2.f0, (h j hj).2.f1, (h j hj).2.f2⟩⟩
theorem below_setCells (b B : Nat) (hB : B ≤ b) : ∀ (vs : List Value) (o : Nat) (a w : World), Below B a w → Below B a (w.setCells b o vs)
  | [], _, _, _, h => h
  | v :: vs, o, a, _, h => below_setCells b B hB vs (o + 1) a _ (h.setCell hB v)
theorem zero3_len (n : Nat) : (Builtin.zeroCells #[.int .i64 0, .int .i64 0, .int .i64 0] n).toList.length = n * 3 := by
  simp [Builtin.zeroCells]
theorem zero3_one (n : Nat) : ∀ v ∈ (Builtin.zeroCells #[.int .i64 0, .int .i64 0, .int .i64 0] n).toList, v.oneCell' = true := by
  intro v hv
  rw [Array.mem_toList_iff, Builtin.zeroCells, Array.mem_map] at hv
  obtain ⟨i, _, rfl⟩ := hv
  have h3 : i % 3 < 3 := Nat.mod_lt _ (by decide)
  show Value.oneCell' (#[Value.int .i64 0, Value.int .i64 0, Value.int .i64 0][i % 3]!) = true
  rcases (show i % 3 = 0 ∨ i % 3 = 1 ∨ i % 3 = 2 by omega) with e | e | e <;> rw [e] <;> rfl
/-- clear at a slice of codespaces. -/
theorem run_clear3 (w : World) (b o n c : Nat) (hc : ∀ j, j < n * 3 → (w.cell? ⟨b, o + j, none⟩).isSome = true) (hf : ∀ j, j < n * 3 → w.frozen? ⟨b, o + j, none⟩ = false) :
    ∃ vs, ∀ ty, (Builtin.clear_ #[23] ty #[.slice (some ⟨b, o, none⟩) n c]).run Tryz.prog w = .ok (.tuple #[]) (w.setCells b o vs) := by
  cases n with
  | zero => exact ⟨[], fun ty => by simp [Builtin.clear_, run_underlying Tryz.underlying23]; rfl⟩
  | succ m =>
    have hst := run_storeCells_cells (P := Tryz.prog) b o (Builtin.zeroCells #[.int .i64 0, .int .i64 0, .int .i64 0] (m + 1)).toList 0 w
      (by rw [zero3_len]; simpa using hc) (by rw [zero3_len]; simpa using hf) (zero3_one _)
    rw [Nat.add_zero] at hst
    refine ⟨(Builtin.zeroCells #[.int .i64 0, .int .i64 0, .int .i64 0] (m + 1)).toList, fun ty => ?_⟩
    simp [Builtin.clear_, run_underlying Tryz.underlying23, Tryz.zeroValue62, Value.cells, hst]
end Go.Proofs.YtmjneokjgcgchaaGreat
/-
  slices.Compact at codespaces: each run of the same ones becomes one.
-/
namespace Go.Proofs.YtmjneokjgcgchaaGreat
open Go.RowKit Go.Lib

theorem run_eq_rc (x y : Rc) (w : World) : (binOp .eql 62 (.agg #[.int .i64 x.n, .int .i64 x.lo, .int .i64 x.hi]) (.agg #[.int .i64 y.n, .int .i64 y.lo, .int .i64 y.hi])).run Tryz.prog w = .ok (.bool (decide (x = y))) w := by
  by_cases h : x = y
  · subst h
    rw [decide_eq_true rfl]
    go_simp
  · rw [decide_eq_false h]
    go_simp
    intro h1 h2 h3
    obtain ⟨xn, xl, xh⟩ := x
    obtain ⟨yn, yl, yh⟩ := y
    simp only at h1 h2 h3
    exact h (by rw [h1, h2, h3])
theorem run_ne_rc (x y : Rc) (w : World) : (binOp .neq 62 (.agg #[.int .i64 x.n, .int .i64 x.lo, .int .i64 x.hi]) (.agg #[.int .i64 y.n, .int .i64 y.lo, .int .i64 y.hi])).run Tryz.prog w = .ok (.bool (!decide (x = y))) w := by
  by_cases h : x = y
  · subst h
    rw [decide_eq_true rfl]
    go_simp
  · rw [decide_eq_false h]
    go_simp
    intro h1 h2 h3
    obtain ⟨xn, xl, xh⟩ := x
    obtain ⟨yn, yl, yh⟩ := y
    simp only at h1 h2 h3
    exact h (by rw [h1, h2, h3])
/-- What Compact leaves. -/
def Cp (w : World) (B b o c : Nat) (l : List Rc) (e : Ending) (w' : World) : Prop :=
  e = .returned (.slice (some ⟨b, o, none⟩) l.length c) ∧ (∀ j x, l[j]? = some x → R3 w' b (o + j * 3) x) ∧ Below B w w'
set_option maxRecDepth 100000 in
set_option maxHeartbeats 4000000 in
theorem Compact_any (b o c B : Nat) (d : Array Rc) (w : World) (hB : B ≤ b) (h : Ra w b o d) (hl : d.size ≤ 1000000) (hc : d.size ≤ c) :
    Calls Tryz.prog 122 #[.slice (some ⟨b, o, none⟩) d.size c] w (Cp w B b o c (compactUpTo d d.size)) := by
  have same : ∀ wr, Ra wr b o d → Below B w wr → (∀ j, j < d.size → keeps d j = true) → Cp w B b o c (compactUpTo d d.size) (.returned (.slice (some ⟨b, o, none⟩) d.size c)) wr := by
    intro wr hr hb hall
    have e : compactUpTo d d.size = d.toList := by rw [compactUpTo_all d _ hall, range_map_get]
    rw [e]
    refine ⟨by simp, fun j x hx => ?_, hb⟩
    have hj : j < d.size := by have := (List.getElem?_eq_some_iff.1 hx).1; simpa using this
    have := (hr j hj).1
    have e2 : d[j]! = x := by
      rw [getElem!_pos d j hj]
      rw [List.getElem?_eq_getElem (by simpa using hj)] at hx
      simpa using hx
    rwa [e2] at this
  have HS := Lib.hid same
  clear same
  generalize hn : d.size = n at *
  have HN := Lib.hid hn
  clear hn
  have HR := Lib.hid h
  clear h
  by_cases h2 : n < 2
  · have t0 : decide ((n : Int) < 2) = true := decide_eq_true (by omega)
    go_enter Tryz.func122, Tryz.ntmps122
    go_wp2
    go_ret
    exact HS.out w HR.out (Below.refl _ _) (fun j hj => keeps_lt_one d j (by omega))
  · have t0 : decide ((n : Int) < 2) = false := decide_eq_false (by omega)
    go_enter Tryz.func122, Tryz.ntmps122
    go_wp2
    go_loopw [3] (fun s3 wr => ∃ k : Nat, 1 ≤ k ∧ k ≤ n ∧ s3 = .int .i64 (k : Int) ∧ Hid (Ra wr b o d) ∧ Below B w wr ∧ Hid (∀ j, j < k → keeps d j = true)) (fun i _ => n - (intOf i).toNat)
    case atStart => exact ⟨1, Nat.le_refl _, by omega, rfl, HR, Below.refl _ _, Lib.hid (keeps_lt_one d)⟩
    case round =>
      obtain ⟨k, hk1, hk, rfl, HA, hbel, HK⟩ := hrel
      by_cases hlt : k < n
      · have t1 : decide (k < n) = true := decide_eq_true hlt
        obtain ⟨⟨y0, y1, y2⟩, _⟩ := HA.out k (by have := HN.out; omega)
        obtain ⟨⟨y3, y4, y5⟩, _⟩ := HA.out (k - 1) (by have := HN.out; omega)
        obtain ⟨m, hm⟩ : ∃ m : Nat, k = m + 1 := ⟨k - 1, by omega⟩
        subst hm
        rw [Nat.add_sub_cancel] at y3 y4 y5
        have em : ((m + 1 : Nat) : Int) - 1 = (m : Int) := by omega
        generalize hx : d[m + 1]! = x at y0 y1 y2
        generalize hy : d[m]! = y at y3 y4 y5
        have HX := Lib.hid hx
        have HY := Lib.hid hy
        clear hx hy
        by_cases hdup : x = y
        · subst hdup
          go_wp2_with fail
          go_quiet (fail)
          clear y0 y1 y2 y3 y4 y5
          have hci : CompInv d (m + 1 + 1) (m + 1) d := CompInv.start HK.out (keeps_neg (by omega) (by rw [Nat.add_sub_cancel, HX.out, HY.out]))
          have HCI := Lib.hid hci
          clear hci
          go_wp2
          go_loopw [3, 5] (fun s3 s5 wq => ∃ (kk p : Nat) (dk : Array Rc), s3 = .int .i64 (kk : Int) ∧ s5 = .int .i64 ((p + 1 : Nat) : Int) ∧ m + 1 + (p + 1) ≤ n ∧ kk < m + 1 + (p + 1) ∧ Hid (Ra wq b o dk) ∧ Below B w wq ∧ Hid (CompInv d (m + 1 + (p + 1)) kk dk)) (fun _ s5 _ => n - (intOf s5).toNat)
          case atStart => exact ⟨m + 1, 0, d, rfl, rfl, by omega, by omega, Lib.hid (HA.out.drewN _), below_drewN hbel _, HCI⟩
          case round =>
            clear hbel
            obtain ⟨kk, p, dk, rfl, rfl, hle, hkk, HQ, hbq, HI⟩ := hrel
            have hds : dk.size = n := by rw [HI.out.size]; exact HN.out
            by_cases hlt2 : m + 1 + (p + 1) < n
            · have t2 : decide (p + 1 < n - (m + 1)) = true := decide_eq_true (by omega)
              obtain ⟨⟨y0, y1, y2⟩, _⟩ := HQ.out (m + 1 + (p + 1)) (by omega)
              obtain ⟨⟨y3, y4, y5⟩, _⟩ := HQ.out (m + 1 + p) (by omega)
              obtain ⟨⟨y6, y7, y8⟩, ⟨y9, y10, y11⟩⟩ := HQ.out kk (by omega)
              have hu := HI.out.high (m + 1 + (p + 1)) (by omega)
              have hv := HI.out.high (m + 1 + p) (by omega)
              rw [show o + (m + 1 + (p + 1)) * 3 = o + (m + 1) * 3 + (p + 1) * 3 by omega] at y0 y1 y2
              rw [show o + (m + 1 + p) * 3 = o + (m + 1) * 3 + p * 3 by omega] at y3 y4 y5
              generalize dk[m + 1 + (p + 1)]! = u at *
              generalize dk[m + 1 + p]! = v at *
              generalize dk[kk]! = z at *
              have ep : ((p + 1 : Nat) : Int) - 1 = (p : Int) := by omega
              have HU := Lib.hid hu
              have HV := Lib.hid hv
              clear hu hv
              by_cases huv : u = v
              · subst huv
                go_wp2_with fail
                go_quiet (fail)
                go_wp2
                refine ⟨⟨kk, p + 1, dk, rfl, by go_num, by omega, by omega, Lib.hid (HQ.out.drewN _), below_drewN hbq _, Lib.hid (HI.out.skip (keeps_neg (by omega) ?_))⟩, by simp [intOf]; omega⟩
                rw [show m + 1 + (p + 1) - 1 = m + 1 + p by omega, ← HU.out, ← HV.out]
              · have he := run_ne_rc u v
                rw [decide_eq_false huv] at he
                have hk : keeps d (m + 1 + (p + 1)) = true := keeps_pos (by rw [show m + 1 + (p + 1) - 1 = m + 1 + p by omega, ← HU.out, ← HV.out]; exact huv)
                have HKE := Lib.hid hk
                clear huv hk
                go_wp2_with fail
                go_quiet (fail)
                go_wp2
                have hkp := HI.out.keep (by have := HN.out; omega) HKE.out
                rw [← HU.out] at hkp
                refine ⟨⟨kk + 1, p + 1, dk.setIfInBounds kk u, by go_num, by go_num, by omega, by omega, Lib.hid ((HQ.out.drewN _).set (by omega) u), (((below_drewN hbq _).setCell (by exact hB) _).setCell (by exact hB) _).setCell (by exact hB) _, Lib.hid hkp⟩, by simp [intOf]; omega⟩
            · have t2 : decide (p + 1 < n - (m + 1)) = false := decide_eq_false (by omega)
              have hend : m + 1 + (p + 1) = n := by omega
              obtain ⟨vs, hcl⟩ : ∃ vs, ∀ ty, (Builtin.clear_ #[23] ty #[.slice (some ⟨b, o + kk * 3, none⟩) (n - kk) (c - kk)]).run Tryz.prog wr = .ok (.tuple #[]) (wr.setCells b (o + kk * 3) vs) := by
                have key : ∀ j, j < (n - kk) * 3 → (wr.cell? ⟨b, o + kk * 3 + j, none⟩).isSome = true ∧ wr.frozen? ⟨b, o + kk * 3 + j, none⟩ = false := fun j hj => by
                  obtain ⟨⟨z0, z1, z2⟩, ⟨z3, z4, z5⟩⟩ := HQ.out (kk + j / 3) (by omega)
                  rcases (show j % 3 = 0 ∨ j % 3 = 1 ∨ j % 3 = 2 by omega) with e | e | e
                  · rw [show o + kk * 3 + j = o + (kk + j / 3) * 3 by omega, z0, z3]; exact ⟨rfl, rfl⟩
                  · rw [show o + kk * 3 + j = o + (kk + j / 3) * 3 + 1 by omega, z1, z4]; exact ⟨rfl, rfl⟩
                  · rw [show o + kk * 3 + j = o + (kk + j / 3) * 3 + 2 by omega, z2, z5]; exact ⟨rfl, rfl⟩
                exact run_clear3 wr b (o + kk * 3) (n - kk) (c - kk) (fun j hj => (key j hj).1) (fun j hj => (key j hj).2)
              have hlow : ∀ j x, (compactUpTo d n)[j]? = some x → R3 (wr.setCells b (o + kk * 3) vs) b (o + j * 3) x := fun j x hx => by
                have hI := HI.out
                rw [hend] at hI
                have hj : j < kk := by
                  have := (List.getElem?_eq_some_iff.1 hx).1
                  rw [hI.len] at this
                  exact this
                have hx2 := hI.low j hj
                rw [hx] at hx2
                have e := Option.some.inj hx2
                obtain ⟨⟨z0, z1, z2⟩, _⟩ := HQ.out j (by omega)
                rw [← e] at z0 z1 z2
                exact ⟨(World.cell?_setCells_out b _ _ _ _ (fun _ _ => .inl (by show o + j * 3 < o + kk * 3; omega))).trans z0, (World.cell?_setCells_out b _ _ _ _ (fun _ _ => .inl (by show o + j * 3 + 1 < o + kk * 3; omega))).trans z1, (World.cell?_setCells_out b _ _ _ _ (fun _ _ => .inl (by show o + j * 3 + 2 < o + kk * 3; omega))).trans z2⟩
              have hbe := below_setCells b B hB vs (o + kk * 3) w wr hbq
              have HL := Lib.hid hlow
              have hln : (compactUpTo d n).length = kk := by rw [← hend]; exact HI.out.len
              have HLN := Lib.hid hln
              have hE := Lib.hid hend
              clear hlow hln hend
              go_wp2
              go_ret
              exact ⟨by rw [HLN.out]; rfl, HL.out, hbe⟩
        · have he := run_eq_rc x y
          rw [decide_eq_false hdup] at he
          have HD := Lib.hid hdup
          clear hdup
          go_wp2_with fail
          go_quiet (fail)
          go_wp2
          refine ⟨⟨m + 2, by omega, by omega, by go_num, Lib.hid (HA.out.drewN _), below_drewN hbel _, Lib.hid (fun j hj => ?_)⟩, by simp [intOf]; omega⟩
          by_cases e : j = m + 1
          · subst e
            exact keeps_pos (by rw [Nat.add_sub_cancel, HX.out, HY.out]; exact HD.out)
          · exact HK.out j (by omega)
      · have t1 : decide (k < n) = false := decide_eq_false hlt
        obtain rfl : k = n := by omega
        go_wp2
        go_ret
        exact HS.out _ HA.out hbel HK.out
end Go.Proofs.YtmjneokjgcgchaaGreat
/-
  slices.SortFunc at codespaces, by the program's own compare: the same ones, in order.
-/
namespace Go.Proofs.YtmjneokjgcgchaaGreat
open Go.RowKit Go.Sort Go.Shelf

/-- A codespace of small numbers. -/
abbrev Sc := { r : Rc // Sml r }
instance : Inhabited Sc := ⟨⟨⟨0, 0, 0⟩, ⟨by decide, by decide, by decide, by decide, by decide, by decide⟩⟩⟩
def scEnc (x : Sc) : List Value := rq x.1
theorem ltOf_sc (x y : Sc) : ltOf (fun a b : Sc => cmpC a.1 b.1) x y = ltC x.1 y.1 := cmpC_lt x.1 y.1
theorem swo_sc : SWO (ltOf fun a b : Sc => cmpC a.1 b.1) where
  irrefl x := by rw [ltOf_sc]; exact hol.irr _
  trans x y z h1 h2 := by rw [ltOf_sc] at *; exact hol.ltr _ _ _ h1 h2
  ntrans x y z h1 h2 := by
    rw [ltOf_sc] at *
    cases h : ltC x.1 z.1 with
    | false => rfl
    | true =>
      have q := (ltC_iff _ _).1 h
      have q1 : ¬ _ := fun e => Bool.noConfusion (((ltC_iff x.1 y.1).2 e).symm.trans h1)
      have q2 : ¬ _ := fun e => Bool.noConfusion (((ltC_iff y.1 z.1).2 e).symm.trans h2)
      exact absurd q (by omega)
theorem compare_lays (b o n : Nat) (w : World) : CmpLays Tryz.prog 121 #[] scEnc 3 (fun a b : Sc => cmpC a.1 b.1) b o n w :=
  fun _ _ _ _ x y => compare_any x.1 y.1 _ x.2 y.2
theorem below_sortW {w : World} {b o n B : Nat} {d : Array Sc} {os : Array Obj} (hB : B ≤ b) (hb : b < w.heap.size) : Go.RowKit.Below B w (sortWorldK scEnc 3 w b o n d os) := by
  refine ⟨rfl, rfl, rfl, ?_, fun k hk => ?_⟩
  · unfold sortWorldK putRowK
    rw [size_grow, size_putRow]
    exact Nat.le_add_right _ _
  · unfold sortWorldK putRowK
    have h1 : k < (putRow id (Sort.ahead w n) b o (flatK scEnc 3 d)).heap.size := by rw [size_putRow]; exact Nat.lt_of_lt_of_le hk (Nat.le_trans hB (Nat.le_of_lt hb))
    rw [heap_grow_old _ _ h1]
    show (w.heap.modify b _)[k]? = _
    rw [Array.getElem?_modify, if_neg (by omega)]
set_option maxHeartbeats 1000000 in
theorem insSort_none (p : Option Addr) (c : Nat) (fv : Value) (w : World) :
    Calls Tryz.prog 159 #[.slice p 0 c, .int .i64 0, .int .i64 0, fv] w fun e w' => e = .returned (.tuple #[]) ∧ w' = w := by
  go_enter Tryz.func159, Tryz.ntmps159
  go_wp2
  go_rounds 1
  go_end0
  exact ⟨rfl, rfl⟩
set_option maxHeartbeats 1000000 in
theorem pdq_none (p : Option Addr) (c : Nat) (lim : Int) (fv : Value) (w : World) :
    Calls Tryz.prog 146 #[.slice p 0 c, .int .i64 0, .int .i64 0, .int .i64 lim, fv] w fun e w' => e = .returned (.tuple #[]) ∧ w' = w := by
  go_enter Tryz.func146, Tryz.ntmps146
  go_wp2
  refine wp_loop_rounds 1 ?_
  rw [rounds_succ]
  go_wp2_with (go_at_call 159; refine (insSort_none _ _ _ _).mono ?_; rintro e w' ⟨rfl, rfl⟩)
  (try simp only [Exit.inBlock, Exit.then]); refine bodyPost_ret (results_none rfl _ _ _) rfl ?_
  exact ⟨rfl, rfl⟩
theorem len_zero (w : World) : Calls Tryz.prog 147 #[.int .u64 0] w fun e w' => e = .returned (.int .i64 (Lib.bitLen 0 : Nat)) ∧ w' = w := by
  have h := Any.bits_Len (SlLaysF0.n15.bits (P := Tryz.prog) (ρ := sortRen) { sortLays with }) 0 w (by omega) (by omega)
  exact h
set_option maxHeartbeats 1000000 in
/-- SortFunc at nothing. -/
theorem Sort_none (p : Option Addr) (c : Nat) (fv : Value) (w : World) :
    Calls Tryz.prog 120 #[.slice p 0 c, fv] w fun e w' => e = .returned (.tuple #[]) ∧ w' = w := by
  go_enter Tryz.func120, Tryz.ntmps120
  go_wp2_with (first | (go_at_call 147; refine (len_zero _).mono ?_; rintro e w' ⟨rfl, rfl⟩) | (go_at_call 146; refine (pdq_none _ _ _ _ _).mono ?_; rintro e w' ⟨rfl, rfl⟩))
  go_end0
  exact ⟨rfl, rfl⟩
theorem HoldsK.to_ra {w : World} {b o : Nat} {d : Array Sc} (h : HoldsK scEnc 3 w b o d) : Ra w b o (d.map (·.1)) := fun j hj => by
  rw [Array.size_map] at hj
  have h0 := h.cell hj (c := 0) (by decide)
  have h1 := h.cell hj (c := 1) (by decide)
  have h2 := h.cell hj (c := 2) (by decide)
  have e : (d.map (·.1))[j]! = d[j]!.1 := by
    rw [getElem!_pos _ j (by simpa using hj), getElem!_pos d j hj, Array.getElem_map]
  rw [e]
  exact ⟨⟨h0.1, h1.1, h2.1⟩, ⟨h0.2, h1.2, h2.2⟩⟩
theorem holdsK_of_ra {w : World} {b o : Nat} {d : Array Sc} (h : Ra w b o (d.map (·.1))) : HoldsK scEnc 3 w b o d := fun t ht => by
  rw [size_flatK] at ht
  rw [get_flatK _ _ _ _ ht]
  have hj : t / 3 < d.size := by omega
  obtain ⟨⟨c0, c1, c2⟩, ⟨f0, f1, f2⟩⟩ := h (t / 3) (by simpa using hj)
  have e : (d.map (·.1))[t / 3]! = d[t / 3]!.1 := by
    rw [getElem!_pos _ _ (by simpa using hj), getElem!_pos d _ hj, Array.getElem_map]
  rw [e] at c0 c1 c2
  rcases (show t % 3 = 0 ∨ t % 3 = 1 ∨ t % 3 = 2 by omega) with e3 | e3 | e3
  · rw [e3, show o + t = o + t / 3 * 3 by omega]
    exact ⟨c0, f0⟩
  · rw [e3, show o + t = o + t / 3 * 3 + 1 by omega]
    exact ⟨c1, f1⟩
  · rw [e3, show o + t = o + t / 3 * 3 + 2 by omega]
    exact ⟨c2, f2⟩
/-- What SortFunc leaves. -/
theorem Sort_any (b o c B : Nat) (l : List Rc) (w : World) (hB : B ≤ b) (hb : b < w.heap.size) (hs : ∀ x ∈ l, Sml x) (h : Ra w b o l.toArray) (hl : l.length ≤ 1000000) :
    Calls Tryz.prog 120 #[.slice (some ⟨b, o, none⟩) l.length c, .func (.func 121) #[] #[]] w fun e w' => e = .returned (.tuple #[]) ∧ ∃ l' : List Rc, l'.Perm l ∧ l'.Pairwise (fun x y => ltC y x = false) ∧ Ra w' b o l'.toArray ∧ Go.RowKit.Below B w w' := by
  have eg : ∀ args w, (callFunc 121 args).run Tryz.prog w = .ok (.enter 121 args) w := enters_of Tryz.func121 (by kernel_rfl) rfl
  let d : Array Sc := (l.pmap Subtype.mk hs).toArray
  have hd : d.map (·.1) = l.toArray := by
    show ((l.pmap Subtype.mk hs).toArray).map _ = _
    rw [List.map_toArray, List.map_pmap]
    simp
  have hz : d.size = l.length := by show ((l.pmap Subtype.mk hs).toArray).size = _; simp
  have hcon := AnyQ.slices_SortFunc sortLays 3 Tryz.isAgg62 Tryz.sizeOf62 scEnc (fun _ => rfl) (fun x v hv => rvs_one [x.1] v (by simpa [rvs, scEnc] using hv)) (fun a b : Sc => cmpC a.1 b.1) swo_sc 121 #[] b o c d w eg (compare_lays b o d.size w) (holdsK_of_ra (by rw [hd]; exact h)) hb (by rw [hz]; omega)
  rw [hz] at hcon
  refine Calls.mono hcon ?_
  rintro e w' ⟨rfl, d', n, os, hp, hso, rfl⟩
  refine ⟨rfl, d'.toList.map (·.1), ?_, ?_, ?_, below_sortW hB hb⟩
  · have h3 := hp.2.2
    have e1 : (d'.extract 0 l.length).toList = d'.toList := by rw [← hz, ← hp.1]; simp
    have e2 : (d.extract 0 l.length).toList = d.toList := by rw [← hz]; simp
    rw [e1, e2] at h3
    have h4 := h3.map (·.1)
    rw [← Array.toList_map, ← Array.toList_map, hd] at h4
    simpa using h4
  · rw [List.pairwise_map, List.pairwise_iff_getElem]
    intro i j hi hj hij
    have hi' : i < d'.size := by simpa using hi
    have hj' : j < d'.size := by simpa using hj
    have := hso i j (Nat.zero_le _) hij (by rw [← hz, ← hp.1]; exact hj')
    rw [ltOf_sc, getElem!_pos d' i hi', getElem!_pos d' j hj'] at this
    simpa using this
  · have h5 : HoldsK scEnc 3 (sortWorldK scEnc 3 w b o n d' os) b o d' := (show SWK scEnc 3 w b o d' (sortWorldK scEnc 3 w b o n d' os) from ⟨n, os, rfl⟩).holds hb (holdsK_of_ra (d := d) (by rw [hd]; exact h)) hp.1
    have h6 := HoldsK.to_ra h5
    have e3 : (d'.toList.map (·.1)).toArray = d'.map (·.1) := by rw [← Array.toList_map, Array.toArray_toList]
    rw [e3]
    exact h6
end Go.Proofs.YtmjneokjgcgchaaGreat
/-
  Layer 6, plainly: what a list in order becomes where each run of the same ones is one; who may hold whom in it.
-/
namespace Go.Proofs.YtmjneokjgcgchaaGreat
open Go.Lib

theorem ltC_anti {a b : Rc} (h1 : ltC a b = false) (h2 : ltC b a = false) : a = b := by
  apply Classical.byContradiction
  intro h
  rcases hol.tot a b h with e | e
  · rw [h1] at e; cases e
  · rw [h2] at e; cases e
theorem ltC_le_trans {a b c : Rc} (h1 : ltC b a = false) (h2 : ltC c b = false) : ltC c a = false := by
  cases h : ltC c a with
  | false => rfl
  | true =>
    have q := (ltC_iff _ _).1 h
    have q1 : ¬ _ := fun e => Bool.noConfusion (((ltC_iff b a).2 e).symm.trans h1)
    have q2 : ¬ _ := fun e => Bool.noConfusion (((ltC_iff c b).2 e).symm.trans h2)
    exact absurd q (by omega)
theorem comp_ord (d : Array Rc) (hs : ∀ i j, i < j → j < d.size → ltC d[j]! d[i]! = false) : ∀ m, m ≤ d.size → (∀ x, x ∈ compactUpTo d m ↔ ∃ j, j < m ∧ d[j]! = x) ∧ (compactUpTo d m).Pairwise (fun a b => ltC a b = true)
  | 0, _ => ⟨fun x => by simp [compactUpTo], by simp [compactUpTo]⟩
  | m + 1, hm => by
    obtain ⟨h1, h2⟩ := comp_ord d hs m (by omega)
    rw [compactUpTo_succ]
    cases hk : keeps d m with
    | false =>
      have hk' : m ≠ 0 ∧ d[m]! = d[m - 1]! := by
        simp [keeps] at hk
        exact hk
      simp only [Bool.false_eq_true, if_false, List.append_nil]
      refine ⟨fun x => ?_, h2⟩
      rw [h1 x]
      constructor
      · rintro ⟨j, hj, e⟩
        exact ⟨j, by omega, e⟩
      · rintro ⟨j, hj, e⟩
        by_cases ej : j = m
        · subst ej
          exact ⟨j - 1, by omega, by rw [← hk'.2]; exact e⟩
        · exact ⟨j, by omega, e⟩
    | true =>
      simp only [if_true]
      refine ⟨fun x => ?_, ?_⟩
      · rw [List.mem_append, h1 x, List.mem_singleton]
        constructor
        · rintro (⟨j, hj, e⟩ | e)
          · exact ⟨j, by omega, e⟩
          · exact ⟨m, by omega, e.symm⟩
        · rintro ⟨j, hj, e⟩
          by_cases ej : j = m
          · subst ej
            exact .inr e.symm
          · exact .inl ⟨j, by omega, e⟩
      · rw [List.pairwise_append]
        refine ⟨h2, List.pairwise_singleton _ _, fun a ha b hb => ?_⟩
        rw [List.mem_singleton] at hb
        subst hb
        obtain ⟨j, hj, rfl⟩ := (h1 a).1 ha
        have hne : d[j]! ≠ d[m]! := fun e => by
          have hk' : d[m]! ≠ d[m - 1]! := by
            simp [keeps] at hk
            rcases hk with h | h
            · omega
            · exact h
          apply hk'
          have l1 : ltC d[m]! d[m - 1]! = false := hs (m - 1) m (by omega) (by omega)
          have l2 : ltC d[m - 1]! d[m]! = false := by
            rw [← e]
            by_cases ej : j = m - 1
            · subst ej; exact hol.irr _
            · exact hs j (m - 1) (by omega) (by omega)
          exact ltC_anti l1 l2
        rcases hol.tot _ _ hne with h | h
        · exact h
        · have := hs j m hj (by omega)
          rw [this] at h
          cases h
/-- Each run made one, of a list in order: in order, and the same ones. -/
theorem comp_list (l : List Rc) (hs : l.Pairwise (fun x y => ltC y x = false)) : (∀ x, x ∈ compactUpTo l.toArray l.toArray.size ↔ x ∈ l) ∧ (compactUpTo l.toArray l.toArray.size).Pairwise (fun a b => ltC a b = true) := by
  have h := comp_ord l.toArray (fun i j hij hj => by
    have hj' : j < l.length := by simpa using hj
    rw [getElem!_pos l.toArray j hj, getElem!_pos l.toArray i (by omega)]
    have := List.pairwise_iff_getElem.1 hs i j (by omega) hj' hij
    simpa using this) l.toArray.size (Nat.le_refl _)
  refine ⟨fun x => ?_, h.2⟩
  rw [h.1 x]
  constructor
  · rintro ⟨j, hj, e⟩
    rw [getElem!_pos l.toArray j hj] at e
    rw [← e]
    simp
  · intro hx
    obtain ⟨j, hj, e⟩ := List.getElem_of_mem hx
    refine ⟨j, by simpa using hj, ?_⟩
    rw [getElem!_pos l.toArray j (by simpa using hj)]
    simpa using e
/-- One that holds another one is as long, begins no later and ends no sooner. -/
theorem nuR_mono : ∀ {u v : List Nat}, u.length = v.length → (∀ (j : Nat) (a b : Nat), u[j]? = some a → v[j]? = some b → a ≤ b) → nuR u ≤ nuR v
  | [], [], _, _ => Nat.le_refl _
  | [], _ :: _, h, _ => by simp at h
  | _ :: _, [], h, _ => by simp at h
  | a :: u, b :: v, h, hj => by
    have h0 := hj 0 a b rfl rfl
    have ih := nuR_mono (u := u) (v := v) (by simpa using h) (fun j x y hx hy => hj (j + 1) x y (by rw [List.getElem?_cons_succ]; exact hx) (by rw [List.getElem?_cons_succ]; exact hy))
    rw [nuR, nuR]
    omega
theorem le_of_bytes {n a b : Int} (ha : saneB n a = true) (hb : saneB n b = true) (h : ∀ j, j < n.toNat → byJ a j ≤ byJ b j) : a ≤ b := by
  have e1 := code_nu ha
  have e2 := code_nu hb
  have := nuR_mono (u := revN (codeL n a)) (v := revN (codeL n b)) (by rw [revN_length, revN_length, code_len ha, code_len hb]) (fun j x y hx hy => by
    have hj : j < n.toNat := by
      have := (List.getElem?_eq_some_iff.1 hx).1
      rwa [revN_length, code_len ha] at this
    rw [code_at ha hj] at hx
    rw [code_at hb hj] at hy
    cases hx
    cases hy
    have := h j hj
    have := byJ_bnd a j
    omega)
  omega
theorem hoC_ends {a b : Rc} (h : hoC a b = true) : a.n = b.n ∧ a.lo ≤ b.lo ∧ b.hi ≤ a.hi := by
  have q := (hoC_iff a b).1 h
  rw [hoC_by, Bool.and_eq_true, Bool.and_eq_true] at h
  obtain ⟨⟨hs, h1⟩, h2⟩ := h
  have hb := (saneR_iff b).1 hs
  have ha := (saneR_iff a).1 q.1
  rw [← q.2.2.1] at h1 h2
  have s1 : saneB a.n b.lo = true := by rw [q.2.2.1]; exact hb.1
  have s2 : saneB a.n b.hi = true := by rw [q.2.2.1]; exact hb.2.1
  have b1 := (inC_by q.1 s1).1 h1
  have b2 := (inC_by q.1 s2).1 h2
  exact ⟨q.2.2.1, le_of_bytes ha.1 s1 (fun j hj => (b1 j hj).1), le_of_bytes s2 ha.2.1 (fun j hj => (b2 j hj).2)⟩
end Go.Proofs.YtmjneokjgcgchaaGreat
/-
  The program's own inOrder: those that may be, in order, each once.
-/
namespace Go.Proofs.YtmjneokjgcgchaaGreat
open Go.RowKit

theorem own_rc {w : World} {base : Nat} {e : TypeId} {v : Value} {n : Nat} {out : List Rc} {x : Rc} (h : w.ownsRow base e 3 v n (rvs out ++ rq x)) (hn : n = out.length + 1) : w.ownsRow base e 3 v (out ++ [x]).length (rvs (out ++ [x])) := by
  subst hn
  rw [rvs_append, List.length_append]
  simpa [rvs] using h
/-- An owned row may be written. -/
theorem own_ra {w : World} {base : Nat} {e : TypeId} {l : List Rc} {g c : Nat} (h : w.ownsRow base e 3 (.slice (some ⟨g, 0, none⟩) l.length c) l.length (rvs l)) : Ra w g 0 l.toArray ∧ base ≤ g ∧ g < w.heap.size := by
  rcases h.2 with ⟨hv, _⟩ | ⟨g', cap, cur, hv, hb, hg, hc, hm, hs, ht⟩
  · cases hv
  · injection hv with hv1 _ hv3
    injection hv1 with hv1
    injection hv1 with hv1
    subst hv1 hv3
    refine ⟨fun j hj => ?_, hb, (Array.getElem?_eq_some_iff.1 hg).1⟩
    have hj' : j < l.length := by simpa using hj
    have hx : l[j]? = some (l.toArray[j]!) := by
      rw [getElem!_pos l.toArray j hj, List.getElem?_eq_getElem hj']
      simp
    have key : ∀ i u, i < 3 → (rq (l.toArray[j]!))[i]? = some u → w.cell? ⟨g, 0 + j * 3 + i, none⟩ = some u := fun i u hi hu => by
      have := h.cells (g := g) rfl (j * 3 + i) u ((rvs_get l j i _ hx hi).trans hu)
      rwa [addr_add, ← Nat.add_assoc] at this
    have fz : ∀ q, q < l.length * 3 → w.frozen? ⟨g, 0 + q, none⟩ = false := fun q hq => by
      simp [World.frozen?, hg]
    exact ⟨⟨key 0 _ (by omega) rfl, key 1 _ (by omega) rfl, key 2 _ (by omega) rfl⟩, ⟨fz (j * 3) (by omega), by rw [Nat.add_assoc]; exact fz (j * 3 + 1) (by omega), by rw [Nat.add_assoc]; exact fz (j * 3 + 2) (by omega)⟩⟩
set_option maxHeartbeats 1000000 in
theorem Compact_none (p : Option Addr) (c : Nat) (w : World) :
    Calls Tryz.prog 122 #[.slice p 0 c] w fun e w' => e = .returned (.slice p 0 c) ∧ w' = w := by
  go_enter Tryz.func122, Tryz.ntmps122
  go_wp2
  go_ret
  exact ⟨rfl, rfl⟩
/-- What inOrder hands back. -/
def Ino (w : World) (l : List Rc) (e : Ending) (w' : World) : Prop :=
  ∃ m : List Rc, m.length ≤ l.length ∧ m.Pairwise (fun a b => ltC a b = true) ∧ (∀ x, x ∈ m ↔ x ∈ l ∧ saneR x = true) ∧ RetR w m e w'
theorem comp_len (d : Array Rc) : ∀ m, (Lib.compactUpTo d m).length ≤ m
  | 0 => by simp [Lib.compactUpTo]
  | m + 1 => by
    have := comp_len d m
    rw [Lib.compactUpTo_succ, List.length_append]
    split
    · simp only [List.length_cons, List.length_nil]; omega
    · simp only [List.length_nil]; omega
set_option maxRecDepth 100000 in
set_option maxHeartbeats 4000000 in
theorem inOrder_any (A : Option Addr) (c : Nat) (l : List Rc) (w : World) (hA : Sr w w.heap.size A l) (hl : l.length ≤ 1000) :
    Calls Tryz.prog 91 #[.slice A l.length c] w (Ino w l) := by
  obtain ⟨i0, hi, hz0, hz1, hz2⟩ := info_parts infoR
  have HA := Lib.hid hA
  clear hA
  generalize hn : l.length = n at *
  have HN := Lib.hid hn
  clear hn
  go_enter Tryz.func91, Tryz.ntmps91
  go_wp2
  go_loopw [3, 8] (fun v i wr => ∃ (k : Nat) (out : List Rc), k ≤ n ∧ out.length ≤ k ∧ i = .int .i64 (k : Int) ∧ Hid (out = (l.take k).filter (fun x => saneR x)) ∧ wr.ownsRow w.heap.size 62 3 v out.length (rvs out) ∧ Below w.heap.size w wr) (fun _ i _ => n - (intOf i).toNat)
  case atStart => exact ⟨0, [], Nat.zero_le _, Nat.le_refl _, rfl, Lib.hid (by simp), World.ownsRow_nil _ _ _ _, Below.refl _ _⟩
  case round =>
    obtain ⟨k, out, hk, hout, rfl, HE, hown, hbel⟩ := hrel
    have hsz := hbel.size
    by_cases hlt : k < n
    · have t0 : decide (k < n) = true := decide_eq_true hlt
      have hx := List.getElem?_eq_getElem (l := l) (i := k) (by have := HN.out; omega)
      generalize l[k]'(by have := HN.out; omega) = x at *
      obtain ⟨b, o, rfl, hb, ⟨y0, y1, y2⟩⟩ := (HA.out.below hbel).at hx
      have ht : l.take (k + 1) = l.take k ++ [x] := by rw [List.take_add_one, hx]; rfl
      have k1 := rcSane_any x
      have HX := Lib.hid ht
      clear hx ht
      cases hs : saneR x with
      | true =>
        rw [hs] at k1
        have K1 := Lib.hid k1
        have HS := Lib.hid hs
        clear k1 hs
        obtain ⟨c', _, hc', A', hv, hst⟩ := Sr.of_own hown
        subst hv
        clear hst
        go_wp2_with fail
        refine (K1.out _).mono ?_
        rintro e w2 ⟨rfl, hb2⟩
        have x2 : Bx w2 wr.heap.size x := (Bx.new wr x _).below hb2 (by simp)
        have hb2' := ((Below.refl wr.heap.size wr).alloc (Nat.le_refl _) _).trans (hb2.mono (by simp))
        have hown2 := own_belowN hown hb2' (Nat.le_refl _)
        have hbel2 := hbel.trans (hb2'.mono hsz)
        have hsz2 := hbel2.size
        clear y0 y1 y2 hb2
        obtain ⟨y0, y1, y2⟩ := x2
        go_wp2_with (at_builtin; refine wpList_append_lies _ rfl _ _ _ rfl w.heap.size 62 i0 (.agg #[.int .i64 0, .int .i64 0, .int .i64 0]) 3 24 Tryz.underlying23 hi hz0 hz1 hz2 rfl (by omega) _ _ _ rfl (hown2.alloc _) ⟨w2.heap.size, 0, none⟩ 1 1 (rq x) rfl rfl (World.news_of_block (heap_alloc_new w2 _)) (by intro u hu; exact rvs_one [x] u (by simpa [rvs] using hu)) (by omega) (by unfold maxLen; omega) (by omega) (by simp; omega) _ rfl ?_; intro g cap w3 hown3 hgrow hat hgl)
        refine ⟨⟨k + 1, out ++ [x], by omega, by simp; omega, by go_num, Lib.hid (by rw [HX.out, List.filter_append, ← HE.out]; simp [HS.out]), own_rc hown3 rfl, ?_⟩, by simp [intOf]; omega⟩
        exact (hbel2.alloc hsz2 _).grown hgrow (by simp; omega) (fun k hk => (hown2.lt k hk).1)
      | false =>
        rw [hs] at k1
        have K1 := Lib.hid k1
        have HS := Lib.hid hs
        clear k1 hs
        go_wp2_with fail
        refine (K1.out _).mono ?_
        rintro e w2 ⟨rfl, hb2⟩
        have hb2' := ((Below.refl wr.heap.size wr).alloc (Nat.le_refl _) _).trans (hb2.mono (by simp))
        have hown2 := own_belowN hown hb2' (Nat.le_refl _)
        have hbel2 := hbel.trans (hb2'.mono hsz)
        clear y0 y1 y2 hb2
        go_wp2
        refine ⟨⟨k + 1, out, by omega, by omega, by go_num, Lib.hid (by rw [HX.out, List.filter_append, ← HE.out]; simp [HS.out]), hown2, hbel2⟩, by simp [intOf]; omega⟩
    · have t0 : decide (k < n) = false := decide_eq_false hlt
      have hE : out = l.filter (fun x => saneR x) := by rw [HE.out, List.take_of_length_le (by have := HN.out; omega)]
      have HE2 := Lib.hid hE
      clear hE
      have hol' : out.length ≤ 1000 := by omega
      have hsm : ∀ x ∈ out, Sml x := fun x hx => by
        rw [HE2.out, List.mem_filter] at hx
        exact Sml.of_sane hx.2
      have HM := Lib.hid hsm
      clear hsm
      rcases hown.2 with ⟨hv, h0⟩ | ⟨g, cap, cur, hv, _, _, hcap, _, _, _⟩
      · subst hv
        clear hown
        have t1 := fun W => Sort_none none 0 (.func (.func 121) #[] #[]) W
        have T1 := Lib.hid t1
        clear t1
        have he : out = [] := List.length_eq_zero_iff.1 h0
        have HH := Lib.hid he
        clear he h0
        go_wp2_with (first | (go_at_call 120; refine (T1.out _).mono ?_; rintro e w2 ⟨rfl, rfl⟩) | (go_at_call 122; refine (Compact_none _ _ _).mono ?_; rintro e w2 ⟨rfl, rfl⟩))
        go_ret
        refine ⟨[], Nat.zero_le _, List.Pairwise.nil, fun x => ?_, none, 0, rfl, Nat.le_refl _, Sr.nil, hbel⟩
        have := HE2.out
        rw [HH.out] at this
        rw [← List.mem_filter (p := fun x => saneR x), ← this]
      · subst hv
        obtain ⟨hra, hb1, hb2⟩ := own_ra hown
        have s1 := Sort_any g 0 cap w.heap.size out wr hb1 hb2 HM.out hra (by omega)
        have S1 := Lib.hid s1
        have hle : out.length ≤ n := by omega
        clear s1 hra hown
        go_wp2_with fail
        refine S1.out.mono ?_
        rintro e w2 ⟨rfl, l', hp, ho, hr2, hbl2⟩
        have hpl := hp.length_eq
        have c1 := Compact_any g 0 cap w.heap.size l'.toArray w2 hb1 hr2 (by simp; omega) (by simp; omega)
        have q := comp_list l' ho
        have hcl := comp_len l'.toArray l'.toArray.size
        obtain ⟨M, hM⟩ : ∃ M, M = Lib.compactUpTo l'.toArray l'.toArray.size := ⟨_, rfl⟩
        rw [← hM] at c1 q hcl
        have hsz' : l'.toArray.size = out.length := by simp [hpl]
        rw [hsz'] at c1 hcl
        have hmem : ∀ x, x ∈ M ↔ x ∈ l ∧ saneR x = true := fun x => by
          rw [q.1 x, hp.mem_iff, HE2.out, List.mem_filter]
        have C1 := Lib.hid c1
        have HQ := Lib.hid q.2
        have HM2 := Lib.hid hmem
        have HL := Lib.hid hcl
        have hz2 : g < w2.heap.size := by
          have := hbl2.size
          omega
        clear c1 q hM hsz' hmem hcl hp ho hr2 hpl
        go_wp2_with fail
        refine C1.out.mono ?_
        rintro e w3 ⟨rfl, hcells, hbl3⟩
        have HC := Lib.hid hcells
        clear hcells
        go_wp2
        go_ret
        refine ⟨M, by have := HL.out; have := HN.out; omega, HQ.out, HM2.out, some ⟨g, 0, none⟩, cap, rfl, by have := HL.out; omega, fun _ => ⟨g, 0, rfl, by have := hbl3.size; omega, HC.out⟩, (hbel.trans hbl2).trans hbl3⟩
end Go.Proofs.YtmjneokjgcgchaaGreat
/-
  The program's own reach: for each of a list the highest code of it and of all ahead of it.
-/
namespace Go.Proofs.YtmjneokjgcgchaaGreat
open Go.RowKit Go.Sort

theorem infoZ : (Tryz.prog.info? 147).map (fun i => (i.zero, i.size, i.bytes)) = some (some (.complex .f64 0 0), 1, 16) := by kernel_rfl
/-- A slice at A holds codes as complex numbers. -/
def Sq (w : World) (B : Nat) (A : Option Addr) (F : List (Int × Int)) : Prop :=
  0 < F.length → ∃ b o, A = some ⟨b, o, none⟩ ∧ b < B ∧ ∀ (j : Nat) (p : Int × Int), F[j]? = some p → w.cell? ⟨b, o + j, none⟩ = some (.complex .f64 (flN p.1) (flN p.2))
theorem Sq.below {w w' : World} {B : Nat} {A : Option Addr} {F : List (Int × Int)} (h : Sq w B A F) (hb : Below B w w') : Sq w' B A F := fun hn => by
  obtain ⟨b, o, e, hlt, hc⟩ := h hn
  exact ⟨b, o, e, hlt, fun j p hp => (hb.cell (p := ⟨b, o + j, none⟩) hlt).trans (hc j p hp)⟩
theorem Sq.more {w : World} {B B' : Nat} {A : Option Addr} {F : List (Int × Int)} (h : Sq w B A F) (hB : B ≤ B') : Sq w B' A F := fun hn => by
  obtain ⟨b, o, e, hlt, hc⟩ := h hn
  exact ⟨b, o, e, by omega, hc⟩
theorem Sq.over {w w' : World} {A : Option Addr} {F : List (Int × Int)} (h : Sq w w.heap.size A F) (hb : Below w.heap.size w w') : Sq w' w'.heap.size A F := (h.below hb).more hb.size
theorem Sq.at {w : World} {B : Nat} {A : Option Addr} {F : List (Int × Int)} (h : Sq w B A F) {j : Nat} {p : Int × Int} (hp : F[j]? = some p) : ∃ b o, A = some ⟨b, o, none⟩ ∧ b < B ∧ w.cell? ⟨b, o + j, none⟩ = some (.complex .f64 (flN p.1) (flN p.2)) := by
  obtain ⟨b, o, e, hlt, hc⟩ := h (by have := (List.getElem?_eq_some_iff.1 hp).1; omega)
  exact ⟨b, o, e, hlt, hc j p hp⟩
theorem Gw.below {a b : World} (h : Gw a b) : Below a.heap.size a b := by
  obtain ⟨q, os, rfl⟩ := h
  exact ⟨rfl, rfl, rfl, by rw [size_grow]; exact Nat.le_add_right _ _, fun k hk => heap_grow_old _ _ hk⟩
/-- For each of a list, the highest code of it and of all ahead of it. -/
def Rch (F : List (Int × Int)) (l : List Rc) : Prop := ∀ (i : Nat) (p : Int × Int), F[i]? = some p →
  (∃ (j : Nat) (x : Rc), j ≤ i ∧ l[j]? = some x ∧ p = (x.n, x.hi)) ∧ ∀ (j : Nat) (x : Rc), j ≤ i → l[j]? = some x → ahR p.1 p.2 x.n x.hi = false
theorem ahB_iff (a b c d : Int) : ahR a b c d = true ↔ (a < c ∨ (a = c ∧ b < d)) := by unfold ahR; exact decide_eq_true_iff
theorem ahB_not (a b c d : Int) : ahR a b c d = false ↔ ¬ (a < c ∨ (a = c ∧ b < d)) := by unfold ahR; exact decide_eq_false_iff_not
theorem Rch.step {F : List (Int × Int)} {l : List Rc} {x : Rc} {p q : Int × Int} (h : Rch F l) (hl : F.length = l.length) (hp : F.length ≠ 0 → F[F.length - 1]? = some p) (hq : q = if F.length ≠ 0 ∧ ahR x.n x.hi p.1 p.2 = true then p else (x.n, x.hi)) : Rch (F ++ [q]) (l ++ [x]) := by
  intro i r hr
  have hi := (List.getElem?_eq_some_iff.1 hr).1
  rw [List.length_append, List.length_singleton] at hi
  by_cases e : i < F.length
  · rw [List.getElem?_append_left e] at hr
    obtain ⟨⟨j, y, hj, hy, ey⟩, h2⟩ := h i r hr
    refine ⟨⟨j, y, hj, by rw [List.getElem?_append_left (by omega)]; exact hy, ey⟩, fun j y hj hy => ?_⟩
    rw [List.getElem?_append_left (by omega)] at hy
    exact h2 j y hj hy
  · have ei : i = F.length := by omega
    subst ei
    rw [List.getElem?_append_right (Nat.le_refl _), Nat.sub_self, List.getElem?_cons_zero] at hr
    cases hr
    have hx : (l ++ [x])[F.length]? = some x := by rw [hl, List.getElem?_append_right (Nat.le_refl _), Nat.sub_self]; rfl
    by_cases hc : F.length ≠ 0 ∧ ahR x.n x.hi p.1 p.2 = true
    · rw [if_pos hc] at hq
      subst hq
      obtain ⟨⟨j, y, hj, hy, ey⟩, h2⟩ := h _ _ (hp hc.1)
      refine ⟨⟨j, y, by omega, by rw [List.getElem?_append_left (by omega)]; exact hy, ey⟩, fun j y hj hy => ?_⟩
      by_cases e2 : j < l.length
      · rw [List.getElem?_append_left e2] at hy
        exact h2 j y (by omega) hy
      · have : j = F.length := by omega
        subst this
        rw [hx] at hy
        cases hy
        have q1 := (ahB_iff _ _ _ _).1 hc.2
        exact (ahB_not _ _ _ _).2 (by omega)
    · rw [if_neg hc] at hq
      subst hq
      refine ⟨⟨F.length, x, Nat.le_refl _, hx, rfl⟩, fun j y hj hy => ?_⟩
      by_cases e2 : j < l.length
      · rw [List.getElem?_append_left e2] at hy
        have hn : F.length ≠ 0 := by omega
        have q1 : ahR x.n x.hi p.1 p.2 = false := by
          cases hb : ahR x.n x.hi p.1 p.2 with
          | false => rfl
          | true => exact absurd ⟨hn, hb⟩ hc
        have q2 := (h _ _ (hp hn)).2 j y (by omega) hy
        have r1 := (ahB_not _ _ _ _).1 q1
        have r2 := (ahB_not _ _ _ _).1 q2
        exact (ahB_not _ _ _ _).2 (by omega)
      · have : j = F.length := by omega
        subst this
        rw [hx] at hy
        cases hy
        exact (ahB_not _ _ _ _).2 (by simp)
theorem Rch.small {F : List (Int × Int)} {l : List Rc} (h : Rch F l) (hs : ∀ x ∈ l, Sml x) {i : Nat} {p : Int × Int} (hp : F[i]? = some p) : (0 ≤ p.1 ∧ p.1 < 4294967296) ∧ 0 ≤ p.2 ∧ p.2 < 4294967296 := by
  obtain ⟨⟨j, x, _, hx, rfl⟩, _⟩ := h i p hp
  have := hs x (List.mem_of_getElem? hx)
  exact ⟨⟨this.n0, this.n1⟩, this.h0, this.h1⟩
/-- What reach hands back. -/
def RetQ (w : World) (l : List Rc) (e : Ending) (w' : World) : Prop :=
  ∃ F A c, e = .returned (.slice A F.length c) ∧ F.length = l.length ∧ Rch F l ∧ Sq w' w'.heap.size A F ∧ Below w.heap.size w w'
/-- Cells of a block that may be written, the first ones known. -/
structure Qr (w : World) (g n : Nat) (F : List (Int × Int)) : Prop where
  sm : ∀ j, j < n → (w.cell? ⟨g, j, none⟩).isSome = true
  fz : ∀ j, j < n → w.frozen? ⟨g, j, none⟩ = false
  val : ∀ (j : Nat) (p : Int × Int), F[j]? = some p → w.cell? ⟨g, j, none⟩ = some (.complex .f64 (flN p.1) (flN p.2))
theorem Qr.below {w w' : World} {g n B : Nat} {F : List (Int × Int)} (h : Qr w g n F) (hb : Below B w w') (hB : g < B) : Qr w' g n F :=
  ⟨fun j hj => by rw [hb.cell (p := ⟨g, j, none⟩) hB]; exact h.sm j hj, fun j hj => (hb.frozen (p := ⟨g, j, none⟩) hB).trans (h.fz j hj), fun j p hp => (hb.cell (p := ⟨g, j, none⟩) hB).trans (h.val j p hp)⟩
theorem Qr.set {w : World} {g n : Nat} {F : List (Int × Int)} (h : Qr w g n F) (hn : F.length < n) (p : Int × Int) : Qr (w.setCell ⟨g, F.length, none⟩ (.complex .f64 (flN p.1) (flN p.2))) g n (F ++ [p]) := by
  have ne : ∀ j, j ≠ F.length → (⟨g, F.length, none⟩ : Addr) ≠ ⟨g, j, none⟩ := fun j hj e => by injection e with _ e2; exact hj e2.symm
  obtain ⟨u, hu⟩ := Option.isSome_iff_exists.1 (h.sm F.length hn)
  refine ⟨fun j hj => ?_, fun j hj => by rw [World.frozen?_setCell]; exact h.fz j hj, fun j q hq => ?_⟩
  · by_cases e : j = F.length
    · subst e
      rw [World.cell?_setCell_same _ _ _ hu]
      rfl
    · rw [World.cell?_setCell_other _ _ _ _ (ne j e)]
      exact h.sm j hj
  · by_cases e : j = F.length
    · subst e
      rw [List.getElem?_append_right (Nat.le_refl _), Nat.sub_self, List.getElem?_cons_zero] at hq
      cases hq
      exact World.cell?_setCell_same _ _ _ hu
    · rw [World.cell?_setCell_other _ _ _ _ (ne j e)]
      have hj := (List.getElem?_eq_some_iff.1 hq).1
      rw [List.length_append, List.length_singleton] at hj
      rw [List.getElem?_append_left (by omega)] at hq
      exact h.val j q hq
/-- The last one put anew. -/
theorem Qr.reset {w : World} {g n : Nat} {F : List (Int × Int)} {q : Int × Int} (h : Qr w g n (F ++ [q])) (hn : F.length < n) (p : Int × Int) : Qr (w.setCell ⟨g, F.length, none⟩ (.complex .f64 (flN p.1) (flN p.2))) g n (F ++ [p]) :=
  Qr.set (F := F) ⟨h.sm, h.fz, fun j r hr => h.val j r (by have := (List.getElem?_eq_some_iff.1 hr).1; rw [List.getElem?_append_left this]; exact hr)⟩ hn p
end Go.Proofs.YtmjneokjgcgchaaGreat
/-
  The walk of the program's own reach.
-/
namespace Go.Proofs.YtmjneokjgcgchaaGreat
open Go.RowKit Go.Sort
attribute [local go_sem ↓] Go.wp_at_zero Go.wp_at_succ

@[local go_sem] theorem run_store_cx (P : Program) (w : World) (a : Addr) (m : Mode) (k : FloatKind) (x y : Nat) : (store a (.complex k x y) m).run P w = stored P w a (.complex k x y) m := run_store P w a _ m rfl
set_option maxRecDepth 100000 in
set_option maxHeartbeats 4000000 in
theorem reach_any (A : Option Addr) (c : Nat) (l : List Rc) (w : World) (hA : Sr w w.heap.size A l) (hl : l.length ≤ 1000) (hs : ∀ x ∈ l, Sml x) :
    Calls Tryz.prog 92 #[.slice A l.length c] w (RetQ w l) := by
  obtain ⟨i0, hi, hz0, hz1, hz2⟩ := info_parts infoZ
  have HA := Lib.hid hA
  have HS := Lib.hid hs
  clear hA hs
  obtain ⟨n, hn⟩ : ∃ n, n = l.length := ⟨_, rfl⟩
  rw [← hn] at hl ⊢
  have HN := Lib.hid hn
  clear hn
  have hmk : (Instr.makeSlice 123 (.int .i64 (n : Int)) (.int .i64 (n : Int))).run Tryz.prog w = .ok (.slice (some ⟨w.heap.size, 0, none⟩) n n) (w.alloc (.cells (madeCells (Value.complex .f64 0 0).cells n) 147)) := by
    have h := run_make (P := Tryz.prog) w 123 147 i0 (.complex .f64 0 0) Tryz.underlying123 hi hz0 .i64 .i64 (n : Int) (n : Int) (by omega) (Int.le_refl _) (by rw [hz2]; omega) (by omega)
    rw [hz1] at h
    simpa using h
  have hq : Qr (w.alloc (.cells (madeCells (Value.complex .f64 0 0).cells n) 147)) w.heap.size n [] := by
    have hsz : (madeCells (Value.complex .f64 0 0).cells n).size = n := size_madeCells _ _
    refine ⟨fun j hj => ?_, fun j hj => by simp, fun j p hp => by simp at hp⟩
    have := World.news_of_block (heap_alloc_new w (.cells (madeCells (Value.complex .f64 0 0).cells n) 147)) j (madeCells (Value.complex .f64 0 0).cells n)[j] (by simp [hsz, hj])
    rw [addr_add, Nat.zero_add] at this
    rw [this]
    rfl
  have hb1 : Below w.heap.size w (w.alloc (.cells (madeCells (Value.complex .f64 0 0).cells n) 147)) := (Below.refl _ _).alloc (Nat.le_refl _) _
  have hz1' : w.heap.size < (w.alloc (.cells (madeCells (Value.complex .f64 0 0).cells n) 147)).heap.size := by simp
  generalize w.alloc (.cells (madeCells (Value.complex .f64 0 0).cells n) 147) = w1 at *
  obtain ⟨g, hg⟩ : ∃ g, g = w.heap.size := ⟨_, rfl⟩
  rw [← hg] at hmk hq hz1'
  have HG := Lib.hid hg
  have HQ := Lib.hid hq
  clear hq hg hi hz0 hz1 hz2
  go_enter Tryz.func92, Tryz.ntmps92
  go_wp2
  go_loopw [11] (fun i wr => ∃ (k : Nat) (F : List (Int × Int)), k ≤ n ∧ F.length = k ∧ i = .int .i64 (k : Int) ∧ Hid (Rch F (l.take k)) ∧ Hid (Qr wr g n F) ∧ Below w.heap.size w wr ∧ g < wr.heap.size) (fun i _ => n - (intOf i).toNat)
  case atStart => exact ⟨0, [], Nat.zero_le _, rfl, rfl, Lib.hid (fun i p hp => by simp at hp), HQ, hb1, hz1'⟩
  case round =>
    clear hmk hb1 hz1'
    obtain ⟨k, F, hk, hF, rfl, HR, HW, hbel, hgz⟩ := hrel
    have hsz := hbel.size
    by_cases hlt : k < n
    · have t0 : decide (k < n) = true := decide_eq_true hlt
      have hx := List.getElem?_eq_getElem (l := l) (i := k) (by have := HN.out; omega)
      generalize l[k]'(by have := HN.out; omega) = x at *
      obtain ⟨b, o, rfl, hb, ⟨y0, y1, y2⟩⟩ := (HA.out.below hbel).at hx
      have ht : l.take (k + 1) = l.take k ++ [x] := by rw [List.take_add_one, hx]; rfl
      have hxs := HS.out x (List.mem_of_getElem? hx)
      have K1 := Lib.hid (highest_any x.n x.lo x.hi)
      have HX := Lib.hid ht
      have HXS := Lib.hid hxs
      have hlk : (l.take k).length = k := by rw [List.length_take]; have := HN.out; omega
      have HLK := Lib.hid hlk
      clear hx ht hxs hlk
      go_wp2_with fail
      refine (K1.out _).mono ?_
      rintro e w2 ⟨rfl, hgw⟩
      have hb2 : Below wr.heap.size wr w2 := ((Below.refl _ _).alloc (Nat.le_refl _) _).trans ((Gw.below hgw).mono (by simp))
      have q2 := HW.out.below hb2 hgz
      have hbel2 := hbel.trans (hb2.mono hsz)
      have hgz2 : g < w2.heap.size := Nat.lt_of_lt_of_le hgz hb2.size
      obtain ⟨u, hu⟩ := Option.isSome_iff_exists.1 (q2.sm k hlt)
      have hf := q2.fz k hlt
      have q3 : Qr (w2.setCell ⟨g, k, none⟩ (.complex .f64 (flN x.n) (flN x.hi))) g n (F ++ [(x.n, x.hi)]) := by
        have := q2.set (by omega) (x.n, x.hi)
        rwa [hF] at this
      have hbel3 : Below w.heap.size w (w2.setCell ⟨g, k, none⟩ (.complex .f64 (flN x.n) (flN x.hi))) := hbel2.setCell (by rw [← HG.out]; exact Nat.le_refl _) _
      have hgz3 : g < (w2.setCell ⟨g, k, none⟩ (.complex .f64 (flN x.n) (flN x.hi))).heap.size := by simpa using hgz2
      clear hgw y0 y1 y2 hb2
      go_wp2_with fail
      clear hu hf q2
      generalize w2.setCell ⟨g, k, none⟩ (.complex .f64 (flN x.n) (flN x.hi)) = w3 at *
      have HQ3 := Lib.hid q3
      clear q3
      cases k with
      | zero =>
        have tk : decide ((0 : Int) < ((0 : Nat) : Int)) = false := rfl
        go_quiet (fail)
        go_wp2
        refine ⟨⟨1, F ++ [(x.n, x.hi)], by omega, by simp [hF], by go_num, Lib.hid ?_, Lib.hid (HQ3.out.below (below_drewN (Below.refl w3.heap.size _) _) hgz3), below_drewN hbel3 _, hgz3⟩, by simp [intOf]; omega⟩
        rw [HX.out]
        exact HR.out.step (p := (0, 0)) (by rw [hF, HLK.out]) (fun h => absurd hF h) (by rw [if_neg (fun h => h.1 hF)])
      | succ m =>
        have tk : decide ((0 : Int) < ((m + 1 : Nat) : Int)) = true := decide_eq_true (by omega)
        have em : ((m + 1 : Nat) : Int) - 1 = (m : Int) := by omega
        obtain ⟨p, hp⟩ : ∃ p, F[m]? = some p := ⟨_, List.getElem?_eq_getElem (by omega)⟩
        have hps := Rch.small HR.out (fun y hy => HS.out y (List.mem_of_mem_take hy)) hp
        have v0 : w3.cell? ⟨g, m + 1, none⟩ = some (.complex .f64 (flN x.n) (flN x.hi)) := HQ3.out.val (m + 1) (x.n, x.hi) (by rw [List.getElem?_append_right (by omega), hF, Nat.sub_self]; rfl)
        have v1 : w3.cell? ⟨g, m, none⟩ = some (.complex .f64 (flN p.1) (flN p.2)) := HQ3.out.val m p (by rw [List.getElem?_append_left (by omega)]; exact hp)
        have f1 := fun W => first_any x.n x.hi p.1 p.2 W HXS.out.n0 HXS.out.n1 HXS.out.h0 HXS.out.h1 hps.1.1 hps.1.2 hps.2.1 hps.2.2
        have HP := Lib.hid hp
        clear hps hp
        cases ta : ahR x.n x.hi p.1 p.2 with
        | false =>
          rw [ta] at f1
          have F1 := Lib.hid f1
          have TA := Lib.hid ta
          clear f1 ta
          go_quiet ((go_at_call 124; exact Calls.quiet_of_same (F1.out _)))
          go_wp2
          refine ⟨⟨m + 2, F ++ [(x.n, x.hi)], by omega, by simp [hF], by go_num, Lib.hid ?_, Lib.hid (HQ3.out.below (below_drewN (Below.refl w3.heap.size _) _) hgz3), below_drewN hbel3 _, hgz3⟩, by simp [intOf]; omega⟩
          rw [HX.out]
          exact HR.out.step (p := p) (by rw [hF, HLK.out]) (fun h => by rw [hF]; exact HP.out) (by rw [if_neg (fun h => by have := h.2; rw [TA.out] at this; cases this)])
        | true =>
          rw [ta] at f1
          have F1 := Lib.hid f1
          have TA := Lib.hid ta
          have hf := HQ3.out.fz (m + 1) hlt
          clear f1 ta
          go_quiet ((go_at_call 124; exact Calls.quiet_of_same (F1.out _)))
          go_wp2
          have q4 := (HQ3.out.below (below_drewN (Below.refl w3.heap.size w3) nq) hgz3).reset (by omega) p
          rw [hF] at q4
          refine ⟨⟨m + 2, F ++ [p], by omega, by simp [hF], by go_num, Lib.hid ?_, Lib.hid q4, (below_drewN hbel3 _).setCell (by rw [← HG.out]; exact Nat.le_refl _) _, by simpa using hgz3⟩, by simp [intOf]; omega⟩
          rw [HX.out]
          exact HR.out.step (p := p) (by rw [hF, HLK.out]) (fun h => by rw [hF]; exact HP.out) (by rw [if_pos ⟨by omega, TA.out⟩])
    · have t0 : decide (k < n) = false := decide_eq_false hlt
      have ek : F.length = n := by omega
      go_wp2
      go_ret
      refine ⟨F, some ⟨g, 0, none⟩, n, by rw [ek]; rfl, by rw [ek]; exact HN.out, ?_, fun _ => ⟨g, 0, rfl, hgz, fun j p hp => by rw [Nat.zero_add]; exact HW.out.val j p hp⟩, hbel⟩
      have := HR.out
      rwa [List.take_of_length_le (by have := HN.out; omega)] at this
end Go.Proofs.YtmjneokjgcgchaaGreat
/-
  The program's own heldAhead and heldBehind.
-/
namespace Go.Proofs.YtmjneokjgcgchaaGreat
open Go.RowKit Go.Sort
attribute [local go_sem ↓] Go.wp_at_zero Go.wp_at_succ

theorem any_false {l : List Rc} {f : Rc → Bool} (h : ∀ (j : Nat) (y : Rc), l[j]? = some y → f y = false) : l.any f = false := by
  cases e : l.any f with
  | false => rfl
  | true =>
    rw [List.any_eq_true] at e
    obtain ⟨y, hy, hf⟩ := e
    obtain ⟨j, hj, ey⟩ := List.getElem_of_mem hy
    have := h j y (by rw [List.getElem?_eq_getElem hj, ey])
    rw [this] at hf
    cases hf
theorem any_true {l : List Rc} {f : Rc → Bool} {j : Nat} {y : Rc} (h : l[j]? = some y) (hf : f y = true) : l.any f = true := List.any_eq_true.2 ⟨y, List.mem_of_getElem? h, hf⟩
set_option maxRecDepth 100000 in
set_option maxHeartbeats 4000000 in
theorem heldAhead_any (A A2 : Option Addr) (c c2 : Nat) (l : List Rc) (F : List (Int × Int)) (i : Nat) (x : Rc) (w : World) (hA : Sr w w.heap.size A l) (hQ : Sq w w.heap.size A2 F) (hl : l.length ≤ 1000) (hF : F.length = l.length) (hR : Rch F l) (hs : ∀ x ∈ l, Sml x) (hx : l[i]? = some x) :
    Calls Tryz.prog 93 #[.slice A l.length c, .slice A2 F.length c2, .int .i64 (i : Int)] w fun e w' => e = .returned (.bool ((l.take i).any fun y => hoC y x)) ∧ Below w.heap.size w w' := by
  have hil := (List.getElem?_eq_some_iff.1 hx).1
  obtain ⟨b, o, rfl, hb, ⟨y0, y1, y2⟩⟩ := hA.at hx
  have K1 := Lib.hid (highest_any x.n x.lo x.hi)
  have hxs := hs x (List.mem_of_getElem? hx)
  have HA := Lib.hid hA
  have HQ := Lib.hid hQ
  have HR := Lib.hid hR
  have HS := Lib.hid hs
  have HX := Lib.hid hx
  have HXS := Lib.hid hxs
  have HFL := Lib.hid hF
  rw [hF]
  obtain ⟨n, hn⟩ : ∃ n, n = l.length := ⟨_, rfl⟩
  rw [← hn] at hl hil ⊢
  have HN := Lib.hid hn
  clear hn hA hQ hR hs hx hxs hF
  obtain ⟨r, hr⟩ : ∃ r, r = (l.take i).any fun y => hoC y x := ⟨_, rfl⟩
  rw [← hr]
  have HRR := Lib.hid hr
  clear hr
  go_enter Tryz.func93, Tryz.ntmps93
  go_wp2_with fail
  refine (K1.out _).mono ?_
  rintro e w1 ⟨rfl, hgw⟩
  have hb1 : Below w.heap.size w w1 := Gw.below hgw
  clear hgw y0 y1 y2
  go_wp2
  go_loopw [8] (fun s wr => ∃ J : Nat, J ≤ i ∧ s = .int .i64 ((J : Int) - 1) ∧ Hid (∀ (t : Nat) (y : Rc), J ≤ t → t < i → l[t]? = some y → hoC y x = false) ∧ Below w.heap.size w wr) (fun s _ => (intOf s + 1).toNat)
  case atStart => exact ⟨i, Nat.le_refl _, rfl, Lib.hid (fun t y h1 h2 => by omega), hb1⟩
  case round =>
    clear hb1
    obtain ⟨J, hJ, rfl, HJ, hbel⟩ := hrel
    cases J with
    | zero =>
      have t0 : decide ((0 : Int) ≤ ((0 : Nat) : Int) - 1) = false := by decide
      go_wp2
      go_ret
      refine ⟨?_, hbel⟩
      have : r = false := by
        rw [HRR.out]
        refine any_false fun t y hy => ?_
        have ht := (List.getElem?_eq_some_iff.1 hy).1
        rw [List.length_take] at ht
        rw [List.getElem?_take_of_lt (by omega)] at hy
        exact HJ.out t y (by omega) (by omega) hy
      rw [this]
      rfl
    | succ j =>
      have ej : (((j + 1 : Nat) : Int) - 1) = (j : Int) := by omega
      rw [ej]
      have t0 : decide ((0 : Int) ≤ (j : Int)) = true := decide_eq_true (by omega)
      obtain ⟨p, hp⟩ : ∃ p, F[j]? = some p := ⟨_, List.getElem?_eq_getElem (by have := HFL.out; have := HN.out; omega)⟩
      obtain ⟨b2, o2, rfl, _, v0⟩ := (HQ.out.below hbel).at hp
      obtain ⟨y, hy⟩ : ∃ y, l[j]? = some y := ⟨_, List.getElem?_eq_getElem (by have := HN.out; omega)⟩
      have hps := Rch.small HR.out HS.out hp
      have f1 := fun W => first_any p.1 p.2 x.n x.hi W hps.1.1 hps.1.2 hps.2.1 hps.2.2 HXS.out.n0 HXS.out.n1 HXS.out.h0 HXS.out.h1
      have HP := Lib.hid hp
      have HY := Lib.hid hy
      clear hps hp hy ej
      cases ta : ahR p.1 p.2 x.n x.hi with
      | true =>
        rw [ta] at f1
        have F1 := Lib.hid f1
        have TA := Lib.hid ta
        clear f1 ta
        go_wp2_with (go_at_call 124; refine (F1.out _).mono ?_; rintro e w2 ⟨rfl, rfl⟩)
        go_ret
        refine ⟨?_, hbel⟩
        have : r = false := by
          rw [HRR.out]
          refine any_false fun t z hz => ?_
          have ht := (List.getElem?_eq_some_iff.1 hz).1
          rw [List.length_take] at ht
          rw [List.getElem?_take_of_lt (by omega)] at hz
          by_cases htj : t ≤ j
          · cases hh : hoC z x with
            | false => rfl
            | true =>
              have q1 := hoC_ends hh
              have q2 := (ahB_not _ _ _ _).1 ((HR.out j p HP.out).2 t z htj hz)
              have q3 := (ahB_iff _ _ _ _).1 TA.out
              omega
          · exact HJ.out t z (by omega) (by omega) hz
        rw [this]
        rfl
      | false =>
        rw [ta] at f1
        have F1 := Lib.hid f1
        clear f1 ta
        have k2 := Holds_any y x
        obtain ⟨b', o', eA, _, q1⟩ := (HA.out.below hbel).at HY.out
        obtain ⟨b'', o'', eA', _, q2⟩ := (HA.out.below hbel).at HX.out
        injection eA with eA
        injection eA with eA1 eA2
        subst eA1 eA2
        injection eA' with eA'
        injection eA' with eA1 eA2
        subst eA1 eA2
        have hbz : b < wr.heap.size := Nat.lt_of_lt_of_le hb hbel.size
        have hSS : ∀ w', Below wr.heap.size wr w' → w'.cell? ⟨b, o + j * 3, none⟩ = some (.int .i64 y.n) ∧ w'.cell? ⟨b, o + j * 3 + 1, none⟩ = some (.int .i64 y.lo) ∧ w'.cell? ⟨b, o + j * 3 + 2, none⟩ = some (.int .i64 y.hi) ∧ w'.cell? ⟨b, o + i * 3, none⟩ = some (.int .i64 x.n) ∧ w'.cell? ⟨b, o + i * 3 + 1, none⟩ = some (.int .i64 x.lo) ∧ w'.cell? ⟨b, o + i * 3 + 2, none⟩ = some (.int .i64 x.hi) := fun w' h => by
          have g1 := q1.keep (w' := w') fun t => h.cell (p := ⟨b, t, none⟩) hbz
          have g2 := q2.keep (w' := w') fun t => h.cell (p := ⟨b, t, none⟩) hbz
          exact ⟨g1.c0, g1.c1, g1.c2, g2.c0, g2.c1, g2.c2⟩
        have z0 : Below wr.heap.size wr wr.drew := (Below.refl _ _).drew
        have HH := Lib.hid hSS
        clear hSS q1 q2
        cases th : hoC y x with
        | true =>
          rw [th] at k2
          have K2 := Lib.hid k2
          have TH := Lib.hid th
          clear k2 th
          go_wp2_with (go_at_call 124; refine (F1.out _).mono ?_; rintro e w2 ⟨rfl, rfl⟩)
          go_region_held (fun w' => w'.cell? ⟨b, o + j * 3, none⟩ = some (.int .i64 y.n) ∧ w'.cell? ⟨b, o + j * 3 + 1, none⟩ = some (.int .i64 y.lo) ∧ w'.cell? ⟨b, o + j * 3 + 2, none⟩ = some (.int .i64 y.hi) ∧ w'.cell? ⟨b, o + i * 3, none⟩ = some (.int .i64 x.n) ∧ w'.cell? ⟨b, o + i * 3 + 1, none⟩ = some (.int .i64 x.lo) ∧ w'.cell? ⟨b, o + i * 3 + 2, none⟩ = some (.int .i64 x.hi))
            (first | with_reducible exact HH.out _ z8 | with_reducible exact HH.out _ z0)
            ((go_at_call 125; with_reducible refine (K2.out _).mono ?_; rintro e x2 ⟨rfl, y8⟩; have z8 := z0.trans (y8.mono z0.size)))
          all_goals
            go_wp2
            go_ret
            refine ⟨?_, hbel.trans (z8.mono hbel.size)⟩
            have : r = true := by
              rw [HRR.out]
              exact any_true (j := j) (by rw [List.getElem?_take_of_lt (by omega)]; exact HY.out) TH.out
            rw [this]
            rfl
        | false =>
          rw [th] at k2
          have K2 := Lib.hid k2
          have TH := Lib.hid th
          clear k2 th
          go_wp2_with (go_at_call 124; refine (F1.out _).mono ?_; rintro e w2 ⟨rfl, rfl⟩)
          go_region_held (fun w' => w'.cell? ⟨b, o + j * 3, none⟩ = some (.int .i64 y.n) ∧ w'.cell? ⟨b, o + j * 3 + 1, none⟩ = some (.int .i64 y.lo) ∧ w'.cell? ⟨b, o + j * 3 + 2, none⟩ = some (.int .i64 y.hi) ∧ w'.cell? ⟨b, o + i * 3, none⟩ = some (.int .i64 x.n) ∧ w'.cell? ⟨b, o + i * 3 + 1, none⟩ = some (.int .i64 x.lo) ∧ w'.cell? ⟨b, o + i * 3 + 2, none⟩ = some (.int .i64 x.hi))
            (first | with_reducible exact HH.out _ z8 | with_reducible exact HH.out _ z0)
            ((go_at_call 125; with_reducible refine (K2.out _).mono ?_; rintro e x2 ⟨rfl, y8⟩; have z8 := z0.trans (y8.mono z0.size)))
          all_goals
            go_wp2
            refine ⟨⟨j, by omega, by go_num, Lib.hid (fun t z h1 h2 hz => ?_), hbel.trans (z8.mono hbel.size)⟩, by simp [intOf]⟩
            by_cases e : t = j
            · subst e
              rw [HY.out] at hz
              cases hz
              exact TH.out
            · exact HJ.out t z (by omega) h2 hz
end Go.Proofs.YtmjneokjgcgchaaGreat
/-
  The program's own heldBehind.
-/
namespace Go.Proofs.YtmjneokjgcgchaaGreat
open Go.RowKit Go.Sort
attribute [local go_sem ↓] Go.wp_at_zero Go.wp_at_succ

theorem lowest_b (n lo hi : Int) (w : World) : Calls Tryz.prog 126 #[.agg #[.int .i64 n, .int .i64 lo, .int .i64 hi]] w fun e w' => e = .returned (.complex .f64 (flN n) (flN lo)) ∧ Go.RowKit.Below w.heap.size w w' := (lowest_any n lo hi w).mono fun _ _ h => ⟨h.1, Gw.below h.2⟩
set_option maxRecDepth 100000 in
set_option maxHeartbeats 4000000 in
theorem heldBehind_any (A : Option Addr) (c : Nat) (l : List Rc) (i : Nat) (x : Rc) (w : World) (hA : Sr w w.heap.size A l) (hl : l.length ≤ 1000) (ho : l.Pairwise (fun a b => ltC a b = true)) (hs : ∀ x ∈ l, Sml x) (hx : l[i]? = some x) :
    Calls Tryz.prog 94 #[.slice A l.length c, .int .i64 (i : Int)] w fun e w' => e = .returned (.bool ((l.drop (i + 1)).any fun y => hoC y x)) ∧ Below w.heap.size w w' := by
  have hil := (List.getElem?_eq_some_iff.1 hx).1
  obtain ⟨b, o, rfl, hb, _⟩ := hA.at hx
  have hxs := hs x (List.mem_of_getElem? hx)
  have HO : Hid (∀ (s t : Nat) (y z : Rc), s < t → l[s]? = some y → l[t]? = some z → ltC y z = true) := Lib.hid (fun s t y z hst hy hz => by
    obtain ⟨h1, e1⟩ := List.getElem?_eq_some_iff.1 hy
    obtain ⟨h2, e2⟩ := List.getElem?_eq_some_iff.1 hz
    have := List.pairwise_iff_getElem.1 ho s t h1 h2 hst
    rwa [e1, e2] at this)
  have HA := Lib.hid hA
  have HS := Lib.hid hs
  have HX := Lib.hid hx
  have HXS := Lib.hid hxs
  obtain ⟨n, hn⟩ : ∃ n, n = l.length := ⟨_, rfl⟩
  rw [← hn] at hl hil ⊢
  have HN := Lib.hid hn
  clear hn hA hs hx hxs ho
  obtain ⟨r, hr⟩ : ∃ r, r = (l.drop (i + 1)).any fun y => hoC y x := ⟨_, rfl⟩
  rw [← hr]
  have HRR := Lib.hid hr
  clear hr
  go_enter Tryz.func94, Tryz.ntmps94
  go_wp2
  go_loopw [5] (fun s wr => ∃ J : Nat, i < J ∧ J ≤ n ∧ s = .int .i64 (J : Int) ∧ Hid (∀ (t : Nat) (y : Rc), i < t → t < J → l[t]? = some y → hoC y x = false) ∧ Below w.heap.size w wr) (fun s _ => n - (intOf s).toNat)
  case atStart => exact ⟨i + 1, by omega, by omega, by go_num, Lib.hid (fun t y h1 h2 => by omega), Below.refl _ _⟩
  case round =>
    obtain ⟨J, hJ, hJn, rfl, HJ, hbel⟩ := hrel
    by_cases hlt : J < n
    · have t0 : decide (J < n) = true := decide_eq_true hlt
      obtain ⟨y, hy⟩ : ∃ y, l[J]? = some y := ⟨_, List.getElem?_eq_getElem (by have := HN.out; omega)⟩
      have hys := HS.out y (List.mem_of_getElem? hy)
      obtain ⟨b', o', eA, _, q1⟩ := (HA.out.below hbel).at hy
      obtain ⟨b'', o'', eA', _, q2⟩ := (HA.out.below hbel).at HX.out
      injection eA with eA
      injection eA with eA1 eA2
      subst eA1 eA2
      injection eA' with eA'
      injection eA' with eA1 eA2
      subst eA1 eA2
      have hbz : b < wr.heap.size := Nat.lt_of_lt_of_le hb hbel.size
      have hlt' := HO.out i J x y hJ HX.out hy
      have L1 := Lib.hid (lowest_b y.n y.lo y.hi)
      have L2 := Lib.hid (lowest_b x.n x.lo x.hi)
      have o1 := flN_order hys.n0 hys.n1 HXS.out.n0 HXS.out.n1
      have o2 := flN_order hys.l0 hys.l1 HXS.out.l0 HXS.out.l1
      have e3 : ((FloatKind.f64.format.order (flN y.n) (flN x.n) == some Ordering.eq) && (FloatKind.f64.format.order (flN y.lo) (flN x.lo) == some Ordering.eq)) = decide (y.n = x.n ∧ y.lo = x.lo) := by rw [o1, o2, cmp_eq, cmp_eq]; exact (Bool.decide_and _ _).symm
      have hSS : ∀ w', Below wr.heap.size wr w' → w'.cell? ⟨b, o + J * 3, none⟩ = some (.int .i64 y.n) ∧ w'.cell? ⟨b, o + J * 3 + 1, none⟩ = some (.int .i64 y.lo) ∧ w'.cell? ⟨b, o + J * 3 + 2, none⟩ = some (.int .i64 y.hi) ∧ w'.cell? ⟨b, o + i * 3, none⟩ = some (.int .i64 x.n) ∧ w'.cell? ⟨b, o + i * 3 + 1, none⟩ = some (.int .i64 x.lo) ∧ w'.cell? ⟨b, o + i * 3 + 2, none⟩ = some (.int .i64 x.hi) := fun w' h => by
        have g1 := q1.keep (w' := w') fun t => h.cell (p := ⟨b, t, none⟩) hbz
        have g2 := q2.keep (w' := w') fun t => h.cell (p := ⟨b, t, none⟩) hbz
        exact ⟨g1.c0, g1.c1, g1.c2, g2.c0, g2.c1, g2.c2⟩
      have z0 : Below wr.heap.size wr wr.drew := (Below.refl _ _).drew
      have HH := Lib.hid hSS
      have HY := Lib.hid hy
      have HLT := Lib.hid hlt'
      clear hSS q1 q2 hy hys o1 o2 hlt'
      by_cases h : y.n = x.n ∧ y.lo = x.lo
      · rw [decide_eq_true h] at e3
        have HE := Lib.hid h
        have k2 := Holds_any y x
        clear h
        cases th : hoC y x with
        | true =>
          rw [th] at k2
          have K2 := Lib.hid k2
          have TH := Lib.hid th
          clear k2 th
          go_wp2_with fail
          go_region_held (fun w' => w'.cell? ⟨b, o + J * 3, none⟩ = some (.int .i64 y.n) ∧ w'.cell? ⟨b, o + J * 3 + 1, none⟩ = some (.int .i64 y.lo) ∧ w'.cell? ⟨b, o + J * 3 + 2, none⟩ = some (.int .i64 y.hi) ∧ w'.cell? ⟨b, o + i * 3, none⟩ = some (.int .i64 x.n) ∧ w'.cell? ⟨b, o + i * 3 + 1, none⟩ = some (.int .i64 x.lo) ∧ w'.cell? ⟨b, o + i * 3 + 2, none⟩ = some (.int .i64 x.hi))
            (first | with_reducible exact HH.out _ z2 | with_reducible exact HH.out _ z1 | with_reducible exact HH.out _ z0)
            (first
              | (go_at_call 126; with_reducible refine (L1.out _).mono ?_; rintro e x1 ⟨rfl, g1⟩; have z1 := z0.trans (g1.mono z0.size))
              | (go_at_call 126; with_reducible refine (L2.out _).mono ?_; rintro e x2 ⟨rfl, g2⟩; have z2 := z1.trans (g2.mono z1.size)))
          all_goals
            go_wp2_with fail
            have w0 : Below wr.heap.size wr (x2.drew) := z2.drew
            go_region_held (fun w' => w'.cell? ⟨b, o + J * 3, none⟩ = some (.int .i64 y.n) ∧ w'.cell? ⟨b, o + J * 3 + 1, none⟩ = some (.int .i64 y.lo) ∧ w'.cell? ⟨b, o + J * 3 + 2, none⟩ = some (.int .i64 y.hi) ∧ w'.cell? ⟨b, o + i * 3, none⟩ = some (.int .i64 x.n) ∧ w'.cell? ⟨b, o + i * 3 + 1, none⟩ = some (.int .i64 x.lo) ∧ w'.cell? ⟨b, o + i * 3 + 2, none⟩ = some (.int .i64 x.hi))
              (first | with_reducible exact HH.out _ z8 | with_reducible exact HH.out _ w0)
              ((go_at_call 125; with_reducible refine (K2.out _).mono ?_; rintro e x3 ⟨rfl, y8⟩; have z8 := w0.trans (y8.mono w0.size)))
            all_goals
              go_wp2
              go_ret
              refine ⟨?_, hbel.trans (z8.mono hbel.size)⟩
              have : r = true := by
                rw [HRR.out]
                exact any_true (j := J - (i + 1)) (by rw [List.getElem?_drop, show i + 1 + (J - (i + 1)) = J by omega]; exact HY.out) TH.out
              rw [this]
              rfl
        | false =>
          rw [th] at k2
          have K2 := Lib.hid k2
          have TH := Lib.hid th
          clear k2 th
          go_wp2_with fail
          go_region_held (fun w' => w'.cell? ⟨b, o + J * 3, none⟩ = some (.int .i64 y.n) ∧ w'.cell? ⟨b, o + J * 3 + 1, none⟩ = some (.int .i64 y.lo) ∧ w'.cell? ⟨b, o + J * 3 + 2, none⟩ = some (.int .i64 y.hi) ∧ w'.cell? ⟨b, o + i * 3, none⟩ = some (.int .i64 x.n) ∧ w'.cell? ⟨b, o + i * 3 + 1, none⟩ = some (.int .i64 x.lo) ∧ w'.cell? ⟨b, o + i * 3 + 2, none⟩ = some (.int .i64 x.hi))
            (first | with_reducible exact HH.out _ z2 | with_reducible exact HH.out _ z1 | with_reducible exact HH.out _ z0)
            (first
              | (go_at_call 126; with_reducible refine (L1.out _).mono ?_; rintro e x1 ⟨rfl, g1⟩; have z1 := z0.trans (g1.mono z0.size))
              | (go_at_call 126; with_reducible refine (L2.out _).mono ?_; rintro e x2 ⟨rfl, g2⟩; have z2 := z1.trans (g2.mono z1.size)))
          all_goals
            go_wp2_with fail
            have w0 : Below wr.heap.size wr (x2.drew) := z2.drew
            go_region_held (fun w' => w'.cell? ⟨b, o + J * 3, none⟩ = some (.int .i64 y.n) ∧ w'.cell? ⟨b, o + J * 3 + 1, none⟩ = some (.int .i64 y.lo) ∧ w'.cell? ⟨b, o + J * 3 + 2, none⟩ = some (.int .i64 y.hi) ∧ w'.cell? ⟨b, o + i * 3, none⟩ = some (.int .i64 x.n) ∧ w'.cell? ⟨b, o + i * 3 + 1, none⟩ = some (.int .i64 x.lo) ∧ w'.cell? ⟨b, o + i * 3 + 2, none⟩ = some (.int .i64 x.hi))
              (first | with_reducible exact HH.out _ z8 | with_reducible exact HH.out _ w0)
              ((go_at_call 125; with_reducible refine (K2.out _).mono ?_; rintro e x3 ⟨rfl, y8⟩; have z8 := w0.trans (y8.mono w0.size)))
            all_goals
              go_wp2
              refine ⟨⟨J + 1, by omega, by omega, by go_num, Lib.hid (fun t z h1 h2 hz => ?_), hbel.trans (z8.mono hbel.size)⟩, by simp [intOf]; omega⟩
              by_cases e : t = J
              · subst e
                rw [HY.out] at hz
                cases hz
                exact TH.out
              · exact HJ.out t z h1 (by omega) hz
      · rw [decide_eq_false h] at e3
        have HE := Lib.hid h
        clear h
        · skip
          go_wp2_with fail
          go_region_held (fun w' => w'.cell? ⟨b, o + J * 3, none⟩ = some (.int .i64 y.n) ∧ w'.cell? ⟨b, o + J * 3 + 1, none⟩ = some (.int .i64 y.lo) ∧ w'.cell? ⟨b, o + J * 3 + 2, none⟩ = some (.int .i64 y.hi) ∧ w'.cell? ⟨b, o + i * 3, none⟩ = some (.int .i64 x.n) ∧ w'.cell? ⟨b, o + i * 3 + 1, none⟩ = some (.int .i64 x.lo) ∧ w'.cell? ⟨b, o + i * 3 + 2, none⟩ = some (.int .i64 x.hi))
            (first | with_reducible exact HH.out _ z2 | with_reducible exact HH.out _ z1 | with_reducible exact HH.out _ z0)
            (first
              | (go_at_call 126; with_reducible refine (L1.out _).mono ?_; rintro e x1 ⟨rfl, g1⟩; have z1 := z0.trans (g1.mono z0.size))
              | (go_at_call 126; with_reducible refine (L2.out _).mono ?_; rintro e x2 ⟨rfl, g2⟩; have z2 := z1.trans (g2.mono z1.size)))
          all_goals
            go_wp2
            go_ret
            refine ⟨?_, hbel.trans (z2.mono hbel.size)⟩
            have : r = false := by
              rw [HRR.out]
              refine any_false fun t z hz => ?_
              rw [List.getElem?_drop] at hz
              cases hh : hoC z x with
              | false => rfl
              | true =>
                by_cases htJ : i + 1 + t < J
                · have := HJ.out (i + 1 + t) z (by omega) htJ hz
                  rw [this] at hh
                  cases hh
                · have q1 := hoC_ends hh
                  have q2 := (ltC_iff _ _).1 (HO.out i (i + 1 + t) x z (by omega) HX.out hz)
                  have q3 := (ltC_iff _ _).1 HLT.out
                  have q4 := HE.out
                  by_cases htE : i + 1 + t = J
                  · rw [htE, HY.out] at hz
                    cases hz
                    omega
                  · have q5 := (ltC_iff _ _).1 (HO.out J (i + 1 + t) y z (by omega) HY.out hz)
                    omega
            rw [this]
            rfl
    · have t0 : decide (J < n) = false := decide_eq_false hlt
      go_wp2
      go_quiet (fail)
      go_wp2
      go_ret
      refine ⟨?_, below_drewN hbel _⟩
      have : r = false := by
        rw [HRR.out]
        refine any_false fun t z hz => ?_
        rw [List.getElem?_drop] at hz
        have ht := (List.getElem?_eq_some_iff.1 hz).1
        exact HJ.out (i + 1 + t) z (by omega) (by have := HN.out; omega) hz
      rw [this]
      rfl
end Go.Proofs.YtmjneokjgcgchaaGreat
/-
  The program's own Canon: those that stay, each once, in order.
-/
namespace Go.Proofs.YtmjneokjgcgchaaGreat
open Go.RowKit

/-- Does one of a list stay? -/
def stB (m : List Rc) (x : Rc) : Bool := !(m.any fun y => decide (y ≠ x) && hoC y x)
theorem stB_at {m : List Rc} {i : Nat} {x : Rc} (ho : m.Pairwise (fun a b => ltC a b = true)) (hx : m[i]? = some x) : (!((m.take i).any fun y => hoC y x) && !((m.drop (i + 1)).any fun y => hoC y x)) = stB m x := by
  have hm : m = m.take i ++ x :: m.drop (i + 1) := by rw [← drop_cons hx, List.take_append_drop]
  have key : ∀ y, (y ∈ m.take i ∨ y ∈ m.drop (i + 1)) → y ≠ x := fun y hy e => by
    subst e
    rw [hm, List.pairwise_append, List.pairwise_cons] at ho
    rcases hy with h | h
    · have := ho.2.2 y h y List.mem_cons_self
      rw [hol.irr] at this
      cases this
    · have := ho.2.1.1 y h
      rw [hol.irr] at this
      cases this
  have e1 : ∀ l : List Rc, (∀ y ∈ l, y ≠ x) → (l.any fun y => decide (y ≠ x) && hoC y x) = l.any fun y => hoC y x := fun l h => by
    induction l with
    | nil => rfl
    | cons a l ih =>
      rw [List.any_cons, List.any_cons, ih (fun y hy => h y (List.mem_cons_of_mem _ hy)), decide_eq_true (h a List.mem_cons_self), Bool.true_and]
  unfold stB
  have e2 : (m.any fun y => decide (y ≠ x) && hoC y x) = (((m.take i).any fun y => hoC y x) || ((m.drop (i + 1)).any fun y => hoC y x)) := by
    rw [← e1 _ (fun y hy => key y (.inl hy)), ← e1 _ (fun y hy => key y (.inr hy))]
    conv => lhs; rw [hm]
    rw [List.any_append, List.any_cons]
    simp
  rw [e2, Bool.not_or]
/-- Those that stay of what inOrder tells. -/
theorem stays_cnn {l m : List Rc} (ho : m.Pairwise (fun a b => ltC a b = true)) (hm : ∀ x, x ∈ m ↔ x ∈ l ∧ saneR x = true) : Cnn saneR hoC ltC l (m.filter (stB m)) := by
  refine ⟨ho.sublist List.filter_sublist, fun r => ?_⟩
  rw [List.mem_filter, hm r]
  unfold stB Sty
  rw [Bool.not_eq_true', List.any_eq_false]
  constructor
  · rintro ⟨⟨h1, h2⟩, h3⟩
    refine ⟨h1, h2, fun s hs hne => ?_⟩
    cases hh : hoC s r with
    | false => rfl
    | true =>
      have := h3 s ((hm s).2 ⟨hs, ((hoC_iff s r).1 hh).1⟩)
      rw [decide_eq_true hne, hh] at this
      exact absurd rfl this
  · rintro ⟨h1, h2, h3⟩
    refine ⟨⟨h1, h2⟩, fun s hs e => ?_⟩
    rw [Bool.and_eq_true, decide_eq_true_eq] at e
    have := h3 s ((hm s).1 hs).1 e.1
    rw [this] at e
    cases e.2
/-- What Canon hands back. -/
def Rcn (w : World) (l : List Rc) (e : Ending) (w' : World) : Prop := ∃ m : List Rc, Cnn saneR hoC ltC l m ∧ m.length ≤ l.length ∧ RetR w m e w'
set_option maxRecDepth 100000 in
set_option maxHeartbeats 4000000 in
theorem Canon_any (A : Option Addr) (c : Nat) (l : List Rc) (w : World) (hA : Sr w w.heap.size A l) (hl : l.length ≤ 1000) :
    Calls Tryz.prog 46 #[.slice A l.length c] w (Rcn w l) := by
  obtain ⟨i0, hi, hz0, hz1, hz2⟩ := info_parts infoR
  have K1 := Lib.hid (inOrder_any A c l w hA hl)
  have HLL := Lib.hid hl
  clear hA hl
  go_enter Tryz.func46, Tryz.ntmps46
  go_wp2_with fail
  refine K1.out.mono ?_
  rintro e w1 ⟨m, hml, hmo, hmm, A1, c1, rfl, hc1, hs1, hb1⟩
  have hl : m.length ≤ 1000 := by have := HLL.out; omega
  have hsm : ∀ x ∈ m, Sml x := fun x hx => Sml.of_sane ((hmm x).1 hx).2
  have K2 := Lib.hid (reach_any A1 c1 m w1 hs1 hl hsm)
  have HCN := Lib.hid (stays_cnn hmo hmm)
  have HML := Lib.hid hml
  have HMO := Lib.hid hmo
  have HSM := Lib.hid hsm
  have HS1 := Lib.hid hs1
  obtain ⟨n, hn⟩ : ∃ n, n = m.length := ⟨_, rfl⟩
  have HN := Lib.hid hn
  rw [← hn] at K2 hl hc1 ⊢
  clear hn hmm hml hmo hsm hs1
  go_wp2_with fail
  refine K2.out.mono ?_
  rintro e w2 ⟨F, A2, c2, rfl, hfl, hrc, hsq, hb2⟩
  have hb12 := hb1.trans (hb2.mono hb1.size)
  have HSR : Hid (Sr w2 w2.heap.size A1 m) := Lib.hid (HS1.out.over hb2)
  have HSQ := Lib.hid hsq
  have HRC := Lib.hid hrc
  have HFL := Lib.hid hfl
  obtain ⟨f, hf⟩ : ∃ f, f = F.length := ⟨_, rfl⟩
  have HF := Lib.hid hf
  rw [← hf]
  clear hf hfl hrc hsq hb1 hb2
  go_wp2
  go_loopw [4, 13] (fun v i wr => ∃ (k : Nat) (out : List Rc), k ≤ n ∧ out.length ≤ k ∧ i = .int .i64 (k : Int) ∧ Hid (out = (m.take k).filter (stB m)) ∧ wr.ownsRow w2.heap.size 62 3 v out.length (rvs out) ∧ Below w2.heap.size w2 wr) (fun _ i _ => n - (intOf i).toNat)
  case atStart => exact ⟨0, [], Nat.zero_le _, Nat.le_refl _, rfl, Lib.hid (by simp), World.ownsRow_nil _ _ _ _, Below.refl _ _⟩
  case round =>
    obtain ⟨k, out, hk, hout, rfl, HE, hown, hbel⟩ := hrel
    have hsz := hbel.size
    by_cases hlt : k < n
    · have t0 : decide (k < n) = true := decide_eq_true hlt
      have hx := List.getElem?_eq_getElem (l := m) (i := k) (by have := HN.out; omega)
      generalize m[k]'(by have := HN.out; omega) = x at *
      obtain ⟨b, o, rfl, hb, ⟨y0, y1, y2⟩⟩ := (HSR.out.below hbel).at hx
      have ht : m.take (k + 1) = m.take k ++ [x] := by rw [List.take_add_one, hx]; rfl
      have hst := stB_at HMO.out hx
      have hK3 : ∀ W, Below w2.heap.size w2 W → Calls Tryz.prog 93 #[.slice (some ⟨b, o, none⟩) n c1, .slice A2 f c2, .int .i64 (k : Int)] W fun e w' => e = .returned (.bool ((m.take k).any fun y => hoC y x)) ∧ Below W.heap.size W w' := fun W hW => by
        have := heldAhead_any (some ⟨b, o, none⟩) A2 c1 c2 m F k x W (HSR.out.over hW) (HSQ.out.over hW) (by have := HN.out; omega) HFL.out HRC.out HSM.out hx
        rwa [← HN.out, ← HF.out] at this
      have hK4 : ∀ W, Below w2.heap.size w2 W → Calls Tryz.prog 94 #[.slice (some ⟨b, o, none⟩) n c1, .int .i64 (k : Int)] W fun e w' => e = .returned (.bool ((m.drop (k + 1)).any fun y => hoC y x)) ∧ Below W.heap.size W w' := fun W hW => by
        have := heldBehind_any (some ⟨b, o, none⟩) c1 m k x W (HSR.out.over hW) (by have := HN.out; omega) HMO.out HSM.out hx
        rwa [← HN.out] at this
      generalize ((m.take k).any fun y => hoC y x) = q1 at *
      generalize ((m.drop (k + 1)).any fun y => hoC y x) = q2 at *
      have K3 := Lib.hid hK3
      have K4 := Lib.hid hK4
      have HX := Lib.hid ht
      have HST := Lib.hid hst
      clear hx ht hK3 hK4 hst
      have hbA : Below w2.heap.size w2 (wr.alloc (.cells #[.int .i64 x.n, .int .i64 x.lo, .int .i64 x.hi] 62)) := hbel.alloc hsz _
      cases q1 with
      | true =>
        go_wp2_with fail
        refine (K3.out _ hbA).mono ?_
        rintro e w3 ⟨rfl, hb3⟩
        have hb3' := ((Below.refl wr.heap.size wr).alloc (Nat.le_refl _) _).trans (hb3.mono (by simp))
        have hown3 := own_belowN hown hb3' (Nat.le_refl _)
        have hbel3 := hbel.trans (hb3'.mono hsz)
        clear y0 y1 y2 hb3
        go_wp2
        refine ⟨⟨k + 1, out, by omega, by omega, by go_num, Lib.hid (by rw [HX.out, List.filter_append, ← HE.out]; have := HST.out; simp at this; simp [← this]), hown3, hbel3⟩, by simp [intOf]; omega⟩
      | false =>
        go_wp2_with fail
        refine (K3.out _ hbA).mono ?_
        rintro e w3 ⟨rfl, hb3⟩
        have x3 : Bx w3 wr.heap.size x := (Bx.new wr x _).below hb3 (by simp)
        have z3 : wr.heap.size < w3.heap.size := by have := hb3.size; simp at this; omega
        have hb3' := ((Below.refl wr.heap.size wr).alloc (Nat.le_refl _) _).trans (hb3.mono (by simp))
        have hown3 := own_belowN hown hb3' (Nat.le_refl _)
        have hbel3 := hbel.trans (hb3'.mono hsz)
        clear y0 y1 y2 hb3
        go_wp2_with fail
        refine (K4.out _ hbel3).mono ?_
        rintro e w4 ⟨rfl, hb4⟩
        have x4 := x3.below hb4 z3
        have hown4 := own_belowN hown3 hb4 (Nat.le_refl _)
        have hbel4 := hbel3.trans (hb4.mono hbel3.size)
        have hsz4 := hbel4.size
        clear x3 hown3 hb4 hb3'
        cases q2 with
        | true =>
          go_wp2
          refine ⟨⟨k + 1, out, by omega, by omega, by go_num, Lib.hid (by rw [HX.out, List.filter_append, ← HE.out]; have := HST.out; simp at this; simp [← this]), hown4, hbel4⟩, by simp [intOf]; omega⟩
        | false =>
          obtain ⟨y0, y1, y2⟩ := x4
          obtain ⟨c', _, hc', A', hv, hst⟩ := Sr.of_own hown4
          subst hv
          clear hst hown
          go_wp2_with (at_builtin; refine wpList_append_lies _ rfl _ _ _ rfl w2.heap.size 62 i0 (.agg #[.int .i64 0, .int .i64 0, .int .i64 0]) 3 24 Tryz.underlying23 hi hz0 hz1 hz2 rfl (by omega) _ _ _ rfl (hown4.alloc _) ⟨w4.heap.size, 0, none⟩ 1 1 (rq x) rfl rfl (World.news_of_block (heap_alloc_new w4 _)) (by intro u hu; exact rvs_one [x] u (by simpa [rvs] using hu)) (by omega) (by unfold maxLen; omega) (by omega) (by simp; omega) _ rfl ?_; intro g cap w5 hown5 hgrow hat hgl)
          refine ⟨⟨k + 1, out ++ [x], by omega, by simp; omega, by go_num, Lib.hid (by rw [HX.out, List.filter_append, ← HE.out]; have := HST.out; simp at this; simp [← this]), own_rc hown5 rfl, ?_⟩, by simp [intOf]; omega⟩
          exact (hbel4.alloc hsz4 _).grown hgrow (by simp; omega) (fun k hk => (hown4.lt k hk).1)
    · have t0 : decide (k < n) = false := decide_eq_false hlt
      have hE : out = m.filter (stB m) := by rw [HE.out, List.take_of_length_le (by have := HN.out; omega)]
      obtain ⟨c', _, hc', A', hv, hst⟩ := Sr.of_own hown
      subst hv
      have HE2 := Lib.hid hE
      clear hE hown
      go_wp2
      go_ret
      refine ⟨out, by rw [HE2.out]; exact HCN.out, by have := HML.out; have := HN.out; omega, A', c', rfl, hc', hst, hb12.trans (hbel.mono hb12.size)⟩
end Go.Proofs.YtmjneokjgcgchaaGreat
/-
  Plain laws of layer 6 that more than one statement needs.
-/
namespace Go.Proofs.YtmjneokjgcgchaaGreat
open Go.RowKit

theorem i64_mask32 (n : Int) : bits .and .i64 n 4294967295 = n % 4294967296 := by
  have h127 : (BitVec.ofInt 64 4294967295).toNat = 2 ^ 32 - 1 := by decide
  have key : (BitVec.ofInt 64 n &&& BitVec.ofInt 64 4294967295).toNat = (n % ((2 ^ 64 : Nat) : Int)).toNat % 2 ^ 32 := by
    rw [BitVec.toNat_and, BitVec.toNat_ofInt, h127, Nat.and_two_pow_sub_one_eq_mod]
  show IntKind.i64.wrap ((BitVec.ofInt 64 n &&& BitVec.ofInt 64 4294967295).toNat : Nat) = n % 4294967296
  rw [key, IntKind.wrap_i64]
  omega
theorem hoC_refl (a : Rc) : hoC a a = saneR a := by
  cases h : saneR a with
  | true => exact hol.refl a h
  | false => unfold hoC; rw [h]; rfl
end Go.Proofs.YtmjneokjgcgchaaGreat
