/-
  The tables out of the rows' list; a world for the witness (layer 5).
-/
import Derived.Test.YthcnjiigkmljnaaGreatDoorCards
import Derived.Test.YthcnjiigkmljnaaGreatDoorTie
import Derived.Test.YthcnjiigkmljnaaGreatDoorSynTs
import Derived.Test.YthcnjiigkmljnaaGreatDoorPart1
import Derived.ProofKit
import Derived.OpenShut
import Derived.Deep.DeepHandedRow
import Derived.Lib.LaidTab
import Derived.Lib.SmallJoins
import Derived.LaidSub
import Derived.Carry
namespace Go.Proofs.YthcnjiigkmljnaaGreatDoor
open Go.ChangeShapes Go.WideShapes Go.ChangeAt Go.RowKit

theorem own : ownKnob Tryz.prog.godebug = none := by kernel_rfl
theorem laidOut : laidOutB Tryz.prog = true := by kernel_rfl

/-! ### A table of strings -/
def strData {H : Type} (zs : List (List UInt8)) : DataW H := .agg (zs.map fun z => .lit (.string z))
theorem cells_of_strs {H : Type} {enc : TypeId × Value → H} {P : Program} {w : World} {base : Nat} {sp : Nat → Bool} {held : Bool} {fuel : Nat} {t e : TypeId} {n : Nat} {cs : List Value} {zs : List (List UInt8)} {p : List MemPlace}
    (ht : P.underlying t = some (.array n e)) (he : P.underlying e = some .string) (hce : P.cellsOf e = 1) (hct : P.cellsOf t = n)
    (h : DataW.trod enc P w base sp held fuel t cs = some (strData zs, p)) : cs = zs.map fun z => Value.string (str z) := by
  cases fuel with
  | zero => simp [DataW.trod] at h
  | succ fuel =>
    simp only [DataW.trod, ht, hce, hct, Nat.mul_one] at h
    split at h
    · rename_i hl
      obtain ⟨xs, hm, hx⟩ := Option.map_eq_some_iff.1 h
      have hxs : xs.map (·.1) = zs.map fun z => (DataW.lit (.string z) : DataW H) := by
        have := congrArg Prod.fst hx
        simpa [strData] using this
      have hxl : xs.length = n := by simpa using Lib.mapM_length hm
      have hzl : zs.length = n := by
        have := congrArg List.length hxs
        simp at this
        omega
      apply List.ext_getElem?
      intro i
      by_cases hi : i < n
      · obtain ⟨b, hb, hf⟩ := Lib.mapM_at hm i i (by simp [hi])
        obtain ⟨s, hc, rfl, _⟩ := DataW.trod_string he hf
        have h1 : cs[i]? = some (.string s) := by
          have := congrArg (·[0]?) hc
          simpa [List.getElem?_take, List.getElem?_drop] using this
        have h2 : (xs.map (·.1))[i]? = some (DataW.lit (.string s.data.toList) : DataW H) := by simp [hb]
        rw [hxs] at h2
        simp only [List.getElem?_map, Option.map_eq_some_iff, DataW.lit.injEq, Lit.string.injEq] at h2
        obtain ⟨z', hz', rfl⟩ := h2
        have e2 : str s.data.toList = s := by cases s; simp [str]
        simp [h1, hz', e2]
      · rw [List.getElem?_eq_none (by omega), List.getElem?_eq_none (by simp; omega)]
    · cases h

/-! ### The tables -/
theorem gTab : Tryz.prog.globalNamed "hornbook/hex.kinds" = some 2 := by kernel_rfl
theorem gTabType : (Tryz.prog.globals[2]?).map (·.type) = some 134 := by kernel_rfl
theorem cellsTab : Tryz.prog.cellsOf 134 = 103 := by kernel_rfl
theorem cells8 : Tryz.prog.cellsOf 5 = 1 := by kernel_rfl
theorem gMks : Tryz.prog.globalNamed "hornbook/tok.marks" = some 1 := by kernel_rfl
theorem gMksType : (Tryz.prog.globals[1]?).map (·.type) = some 79 := by kernel_rfl
theorem cellsMks : Tryz.prog.cellsOf 79 = 12 := by kernel_rfl
theorem cellsStr : Tryz.prog.cellsOf 9 = 1 := by kernel_rfl
theorem gSec : Tryz.prog.globalNamed "hornbook/syn.sections" = some 0 := by kernel_rfl
theorem gSecType : (Tryz.prog.globals[0]?).map (·.type) = some 64 := by kernel_rfl
theorem cellsSec : Tryz.prog.cellsOf 64 = 9 := by kernel_rfl
def tabL : List Int := (List.range 103).map tabAt
theorem laid_eq {H : Type} : (Rows.laid_hornbook_hex_kinds : DataW H) = Lib.tabData .u8 tabL := by
  have h : tabL = [1, 0, 0, 0, 0, 0, 0, 0, 0, 1, 1, 0, 1, 1, 0, 0, 0, 0, 0, 0, 0, 0, 0, 0, 0, 0, 0, 0, 0, 0, 0, 0, 1, 0, 0, 0, 0, 0, 0, 0, 0, 0, 0, 0, 0, 0, 0, 0, 2, 3, 4, 5, 6, 7, 8, 9, 10, 11, 0, 0, 0, 0, 0, 0, 0, 12, 13, 14, 15, 16, 17, 0, 0, 0, 0, 0, 0, 0, 0, 0, 0, 0, 0, 0, 0, 0, 0, 0, 0, 0, 0, 0, 0, 0, 0, 0, 0, 12, 13, 14, 15, 16, 17] := by decide
  rw [h]
  rfl
theorem laid_mks {H : Type} : (Rows.laid_hornbook_tok_marks : DataW H) = strData ((List.range 12).map mkL) := rfl
theorem laid_sec {H : Type} : (Rows.laid_hornbook_syn_sections : DataW H) = strData ((List.range 9).map fun k : Nat => wordL (k : Int)) := rfl
/-- The row's list. -/
def laid3 : List (String × DataW Unit) := [("hornbook/hex.kinds", Rows.laid_hornbook_hex_kinds), ("hornbook/tok.marks", Rows.laid_hornbook_tok_marks), ("hornbook/syn.sections", Rows.laid_hornbook_syn_sections)]
theorem one_of {W : World} (h : laidMetH Tryz.prog laid3 W) (s : String) : laidMetH Tryz.prog (laid3.filter fun x => x.1 == s) W := h.filter _
theorem tab_of {W : World} (h : laidMetH Tryz.prog laid3 W) : Ts W := by
  refine ⟨?_, ?_, ?_⟩
  · have h1 : laidMet Tryz.prog [("hornbook/hex.kinds", Rows.laid_hornbook_hex_kinds)] W := one_of h "hornbook/hex.kinds"
    rw [laid_eq] at h1
    have ht : Lib.TabIs Tryz.prog W "hornbook/hex.kinds" .u8 tabL := Lib.tabIs_of_head (rest := []) gTab gTabType Tryz.underlying134 Tryz.underlying5 cells8 cellsTab h1
    intro i hi
    have hl : i < tabL.length := by simp [tabL]; exact hi
    have := ht.cell gTab i hl
    simpa [tabL, List.getElem?_range hi] using this
  · have h1 : laidMet Tryz.prog [("hornbook/tok.marks", Rows.laid_hornbook_tok_marks)] W := one_of h "hornbook/tok.marks"
    rw [laid_mks] at h1
    obtain ⟨ps, ⟨g', t', cs, fuel, p, q, hg', ht', hvar, hd, _, _⟩, _⟩ := h1
    obtain rfl := Option.some.inj (gMks.symm.trans hg')
    obtain rfl := Option.some.inj (gMksType.symm.trans ht')
    have hc := cells_of_strs Tryz.underlying79 Tryz.underlying9 cellsStr cellsMks hd
    intro i hi
    have hv := World.var?_cell gMks hvar i
    rw [hv]
    have : cs.toList[i]? = some (.string (str (mkL i))) := by rw [hc]; simp [List.getElem?_range hi]
    simpa using this
  · have h1 : laidMet Tryz.prog [("hornbook/syn.sections", Rows.laid_hornbook_syn_sections)] W := one_of h "hornbook/syn.sections"
    rw [laid_sec] at h1
    obtain ⟨ps, ⟨g', t', cs, fuel, p, q, hg', ht', hvar, hd, _, _⟩, _⟩ := h1
    obtain rfl := Option.some.inj (gSec.symm.trans hg')
    obtain rfl := Option.some.inj (gSecType.symm.trans ht')
    have hc := cells_of_strs Tryz.underlying64 Tryz.underlying9 cellsStr cellsSec hd
    intro i hi
    have hv := World.var?_cell gSec hvar i
    rw [hv]
    have : cs.toList[i]? = some (.string (str (wordL (i : Int)))) := by rw [hc]; simp [List.getElem?_range hi]
    simpa using this

/-- A WORLD FOR THE WITNESS: the settled one, each table (its block) holding what its initialiser lays. -/
def put (c : Array Value) : Obj → Obj
  | .cells _ t frozen => .cells c t frozen
  | o => o
def litsOf : DataW Unit → Array Value
  | .agg l => (l.map fun d => match d with | .lit (.int k z) => Value.int k z | .lit (.string s) => Value.string (str s) | _ => undef).toArray
  | _ => #[]
noncomputable def laidWorld (os : Os) : World :=
  { World.holding Tryz.prog os ⟨#[], #[], []⟩ with heap := (((World.holding Tryz.prog os ⟨#[], #[], []⟩).heap.modify 2 (put (litsOf Rows.laid_hornbook_hex_kinds))).modify 1 (put (litsOf Rows.laid_hornbook_tok_marks))).modify 0 (put (litsOf Rows.laid_hornbook_syn_sections)) }
end Go.Proofs.YthcnjiigkmljnaaGreatDoor
