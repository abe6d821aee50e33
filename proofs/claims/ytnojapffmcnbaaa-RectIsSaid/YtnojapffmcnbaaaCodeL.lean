/-
  A code's bytes, the highest first, as a plain list; nothing of a code that is not Sane.
-/
import Derived.Test.YtnojapffmcnbaaaHexSane
import Derived.Deep.AppendLies
import Derived.Handy
namespace Go.Proofs.Ytnojapffmcnbaaa
open Go.RowKit

/-- So many bytes of a number, the highest first. -/
def beL : Nat → Int → List UInt8
  | 0, _ => []
  | n + 1, v => beL n (v / 256) ++ [UInt8.ofNat (v % 256).toNat]
theorem beL_length (n : Nat) (v : Int) : (beL n v).length = n := by
  induction n generalizing v with
  | zero => rfl
  | succ n ih => simp [beL, ih]
theorem low_byte (v : Int) : ((UInt8.ofNat (v % 256).toNat).toNat : Int) = v % 256 := by
  have h : (v % 256).toNat < 256 := by omega
  rw [UInt8.toNat_ofNat_of_lt' h]; omega

theorem ret_lit {w w1 : World} {O : Obj} {t : TypeId} (hb : Below (w.alloc O).heap.size (w.alloc O) w1) (l : List UInt8) (cs : List Value) (hcs : cs = bvs l) (n : Nat) (hn : n = l.length) :
    RetSl w l (.returned (.slice (some ⟨w1.heap.size, 0, none⟩) n n)) (w1.alloc (.cells cs.toArray t)) := by
  subst hcs hn
  have h1 : w.heap.size ≤ w1.heap.size := by have := hb.size; simp at this; omega
  refine ⟨some ⟨w1.heap.size, 0, none⟩, l.length, rfl, Nat.le_refl _, fun _ => ⟨w1.heap.size, 0, rfl, by simp, fun j hj => ?_⟩, ?_⟩
  · have := World.news_of_block (heap_alloc_new w1 (.cells (bvs l).toArray t)) j _ (bvs_get l j hj)
    rwa [addr_add] at this
  · exact (((Below.refl _ _).alloc (Nat.le_refl _) O).trans (hb.mono (by simp))).alloc h1 _

/-- What Bytes hands back. -/
def codeL (n v : Int) : List UInt8 := if saneB n v then beL n.toNat v else []
end Go.Proofs.Ytnojapffmcnbaaa
