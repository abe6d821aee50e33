/-
  The document's example, which each statement of layer 2 asks first: it comes out true in every world. And calls on lists that a statement lays itself.
-/
import Derived.Test.YtclehobammhjmaaUtfDec
import Derived.Test.YtclehobammhjmaaUtfBytes
import Derived.Test.YtclehobammhjmaaUtfUnits
import Derived.Test.YtclehobammhjmaaUtfText
import Derived.Test.YtclehobammhjmaaUtfWholeFn
namespace Go.Proofs.Ytclehobammhjmaa
open Go.RowKit

theorem Si.new (w : World) (l : List Int) (t : TypeId) : Si (w.alloc (.cells (ivs l).toArray t)) (w.alloc (.cells (ivs l).toArray t)).heap.size (some ⟨w.heap.size, 0, none⟩) l := fun _ => ⟨w.heap.size, 0, rfl, by simp, fun j hj => by
  have := World.news_of_block (heap_alloc_new w (.cells (ivs l).toArray t)) j _ (ivs_get l j hj)
  rwa [addr_add] at this⟩
theorem new_below (w : World) (o : Obj) {w' : World} (h : Below (w.alloc o).heap.size (w.alloc o) w') : Below w.heap.size w w' := ((Below.refl _ _).alloc (Nat.le_refl _) o).trans (h.mono (by simp))
theorem Enc16_one (x : Int) (w : World) : Calls Try.prog 15 #[.slice (some ⟨w.heap.size, 0, none⟩) 1 1] (w.alloc (.cells #[.int .i64 x] 3)) fun e w' => ∃ A c, e = .returned (.slice A (enc16 [x]).length c) ∧ Si w' w'.heap.size A (enc16 [x]) ∧ Below w.heap.size w w' :=
  (Enc16_any _ 1 [x] _ (Si.new w [x] _) (by simp)).mono fun _ _ ⟨A, c, he, _, hs, hb⟩ => ⟨A, c, he, hs, new_below w _ hb⟩
theorem Dec16_one (x : Int) (w : World) : Calls Try.prog 17 #[.slice (some ⟨w.heap.size, 0, none⟩) 1 1] (w.alloc (.cells #[.int .i64 x] 3)) fun e w' => ∃ A c, e = .returned (.slice A 1 c) ∧ Si w' w'.heap.size A [one16 x] ∧ Below w.heap.size w w' :=
  (Dec16_any _ 1 [x] _ (Si.new w [x] _) (by simp)).mono fun _ _ ⟨A, c, he, _, hs, hb⟩ => ⟨A, c, he, hs, new_below w _ hb⟩
theorem Dec16_two (x y : Int) (w : World) : Calls Try.prog 17 #[.slice (some ⟨w.heap.size, 0, none⟩) 2 2] (w.alloc (.cells #[.int .i64 x, .int .i64 y] 3)) fun e w' => ∃ A c, e = .returned (.slice A (dec16 [x, y]).length c) ∧ Si w' w'.heap.size A (dec16 [x, y]) ∧ Below w.heap.size w w' :=
  (Dec16_any _ 2 [x, y] _ (Si.new w [x, y] _) (by simp)).mono fun _ _ ⟨A, c, he, _, hs, hb⟩ => ⟨A, c, he, hs, new_below w _ hb⟩
theorem Text_one (x : Int) (w : World) : Calls Try.prog 21 #[.slice (some ⟨w.heap.size, 0, none⟩) 1 1] (w.alloc (.cells #[.int .i64 x] 3)) fun e w' => e = .returned (.string (str (form x))) ∧ Below w.heap.size w w' :=
  (Text_any _ 1 [x] _ (Si.new w [x] _) (by simp)).mono fun _ _ ⟨he, hb⟩ => ⟨by rw [he]; simp [textL], new_below w _ hb⟩
theorem Whole_eg (w : World) : Calls Try.prog 25 #[.string ⟨#[97]⟩] w fun e w' => e = .returned (.bool true) ∧ Below w.heap.size w w' := by
  have h := Whole_any [97] w
  have e : whole [97] = true := by
    rw [whole_step (by simp) (by decide), show dec [97] = (97, 1) by decide]
    exact whole_nil
  rw [e] at h
  exact h

set_option maxHeartbeats 1000000 in
theorem awake_any (w : World) : Calls Try.prog 9 #[] w fun e w' => e = .returned (.bool true) ∧ Below w.heap.size w w' := by
  have e1 : enc16 [128512] = [55357, 56832] := by decide
  have e2 : form 128512 = [240, 159, 152, 128] := by decide
  have hE := Enc16_one 128512
  have hT := Text_one 128512
  rw [e1] at hE
  rw [e2] at hT
  have HE := Lib.hid hE
  have HT := Lib.hid hT
  have hg : goodB 65 = true := by decide
  clear hE hT e1 e2
  go_enter Try.func9, Try.ntmps9
  go_wp2_with fail
  refine (HE.out _).mono ?_
  rintro e w1 ⟨A, c, rfl, hs1, hb1⟩
  obtain ⟨b, o, rfl, hbl, hc⟩ := hs1 (by simp)
  have c0 : w1.cell? ⟨b, o, none⟩ = some (.int .i64 55357) := hc 0 (by simp)
  have c1 : w1.cell? ⟨b, o + 1, none⟩ = some (.int .i64 56832) := hc 1 (by simp)
  clear hc
  go_wp2_with fail
  refine (HT.out _).mono ?_
  rintro e w2 ⟨rfl, hb2⟩
  go_wp2_with fail
  refine (Good_any _ _).mono ?_
  rintro e w2' ⟨rfl, rfl⟩
  go_wp2_with fail
  refine (Whole_eg _).mono ?_
  rintro e w3 ⟨rfl, hb3⟩
  have hs3 : Si w3 w3.heap.size (some ⟨b, o, none⟩) [55357, 56832] := (hs1.over hb2).over hb3
  have hb3' : Below w.heap.size w w3 := (hb1.trans (hb2.mono hb1.size)).trans (hb3.mono (by have := hb1.size; have := hb2.size; omega))
  go_wp2_with fail
  refine (Bytes_any _ c [55357, 56832] _ hs3 (by decide)).mono ?_
  rintro e w4 ⟨A4, c4, rfl, hc4, hs4, hb4⟩
  go_wp2
  go_ret
  exact ⟨rfl, hb3'.trans (hb4.mono hb3'.size)⟩
end Go.Proofs.Ytclehobammhjmaa
