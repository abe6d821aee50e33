/-
  The document's example is as it says.
-/
import Derived.Test.YtdlkgcbiekilhaaSpanFind2
import Derived.Test.YtdlkgcbiekilhaaSpanBuild
namespace Go.Proofs.Ytdlkgcbiekilhaa
open Go.RowKit
attribute [local go_sem ↓] Go.wp_at_zero Go.wp_at_succ

instance rqDec (st : Bool) (a b : Sp) : Decidable (Rq st a b) := inferInstanceAs (Decidable (_ ∧ _))
def exL : List Sp := [⟨1, 10, 20, 5⟩, ⟨1, 15, 15, 99⟩]
def exM : List Sp := [⟨1, 10, 14, 5⟩, ⟨1, 15, 15, 99⟩, ⟨1, 16, 20, 11⟩]
theorem exM_cn : Cn true exM := ⟨by decide +kernel, by decide +kernel⟩
theorem exM_last (n v : Int) : lastS true exM n v = lastS true exL n v := by
  have a1 : Sn true ⟨1, 10, 20, 5⟩ := by decide +kernel
  have a2 : Sn true ⟨1, 15, 15, 99⟩ := by decide +kernel
  have a3 : Sn true ⟨1, 10, 14, 5⟩ := by decide +kernel
  have a4 : Sn true ⟨1, 16, 20, 11⟩ := by decide +kernel
  simp only [exM, exL, lastS, toS, a1, a2, a3, a4, true_and, goesS, if_true]
  repeat' split
  all_goals first | rfl | omega | (simp only [Option.none_or, Option.or_none, Option.some.injEq]; omega)
theorem exM_find : findS true exM 1 16 = some 11 := by
  rw [findS, if_pos exM_cn]
  decide +kernel
/-- Two spans in a new block. -/
theorem ss_two (W : World) (x y : Sp) (t : TypeId) : Ss (W.alloc (.cells #[.int .i64 x.n, .int .i64 x.lo, .int .i64 x.hi, .int .i64 x.to, .int .i64 y.n, .int .i64 y.lo, .int .i64 y.hi, .int .i64 y.to] t)) (W.alloc (.cells #[.int .i64 x.n, .int .i64 x.lo, .int .i64 x.hi, .int .i64 x.to, .int .i64 y.n, .int .i64 y.lo, .int .i64 y.hi, .int .i64 y.to] t)).heap.size (some ⟨W.heap.size, 0, none⟩) [x, y] := fun _ => by
  refine ⟨W.heap.size, 0, rfl, by simp, fun j z hz => ?_⟩
  have key := World.news_of_block (heap_alloc_new W (.cells (svs [x, y]).toArray t))
  have hj : j < 2 := by have := (List.getElem?_eq_some_iff.1 hz).1; simpa using this
  have g : ∀ i u, i < 4 → (sq z)[i]? = some u → (W.alloc (.cells (svs [x, y]).toArray t)).cell? ⟨W.heap.size, 0 + j * 4 + i, none⟩ = some u := fun i u hi hu => by
    have := key (j * 4 + i) u (by simpa using (svs_get [x, y] j i z hz hi).trans hu)
    rwa [addr_add, ← Nat.add_assoc] at this
  exact ⟨g 0 _ (by omega) rfl, g 1 _ (by omega) rfl, g 2 _ (by omega) rfl, g 3 _ (by omega) rfl⟩
set_option maxHeartbeats 4000000 in
theorem awake_any (w : World) : Calls Try.prog 9 #[] w fun e w' => e = .returned (.bool true) ∧ Below w.heap.size w w' := by
  have hs0 := ss_two w ⟨1, 10, 20, 5⟩ ⟨1, 15, 15, 99⟩ 24
  have K1 := Lib.hid (Build_any true exL (by decide) (some ⟨w.heap.size, 0, none⟩) 2 _ hs0)
  have hb0 : Below w.heap.size w (w.alloc (.cells #[.int .i64 1, .int .i64 10, .int .i64 20, .int .i64 5, .int .i64 1, .int .i64 15, .int .i64 15, .int .i64 99] 24)) := (Below.refl _ _).alloc (Nat.le_refl _) _
  clear hs0
  go_enter Try.func9, Try.ntmps9
  go_wp2_with fail
  refine K1.out.mono ?_
  rintro e w1 ⟨m, p1, p2, A1, c1, rfl, h2, h3, h4, h5⟩
  obtain rfl : m = exM := p1.one exM_cn fun n v => (p2 n v).trans (exM_last n v).symm
  have hb1 := hb0.trans (h5.mono hb0.size)
  have K2 := Lib.hid (fun W (hW : Below w1.heap.size w1 W) => Find_any true A1 c1 exM 1 16 W (h4.over hW) (by decide))
  have K3 := Lib.hid (fun W (hW : Below w1.heap.size w1 W) => Canon_any true A1 c1 exM W (h4.over hW) (by decide))
  rw [exM_find, decide_eq_true exM_cn] at *
  have el : exM.length = 3 := rfl
  rw [el] at K2 K3 ⊢
  unfold oV at K2
  clear p1 p2 h2 h3 h4 h5 hb0 K1 el
  go_wp2_with fail
  refine (K2.out _ (Below.refl _ _)).mono ?_
  rintro e w2 ⟨rfl, hb2⟩
  go_wp2_with fail
  refine (K3.out _ hb2).mono ?_
  rintro e w3 ⟨rfl, hb3⟩
  go_wp2
  go_ret
  exact ⟨rfl, (hb1.trans (hb2.mono hb1.size)).trans (hb3.mono (Nat.le_trans hb1.size hb2.size))⟩
end Go.Proofs.Ytdlkgcbiekilhaa
