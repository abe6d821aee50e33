/-
  tok.wordAt: an Int or a Word.
-/
import Derived.Test.YtjlecollphgmcaaDoorTokVal
import Derived.Test.YtjlecollphgmcaaDoorLexWord
import Derived.Test.YtjlecollphgmcaaDoorLexInt
namespace Go.Proofs.YtjlecollphgmcaaDoor
open Go.RowKit

set_option maxRecDepth 100000 in
set_option maxHeartbeats 2000000 in
theorem wordAt_any (l : List UInt8) (p : Nat) (w : World) (ht : Tab w) (hp : p ≤ l.length) (hl : l.length ≤ 1073741824) :
    Calls Tryd.prog 23 #[.string (str l), .int .i64 (p : Int)] w fun e w' => e = .returned (rv p (tkWord (l.drop p))) ∧ Below w.heap.size w w' := by
  have hw1 : wdL l (p : Int) = (l.drop p).take (wn (l.drop p)) := by unfold wdL; rw [pl_of _ _ hp]
  have hw2 : wdN l (p : Int) = p + wn (l.drop p) := by unfold wdN; rw [pl_of _ _ hp]
  have hW : ∀ w, Tab w → Calls Tryd.prog 19 #[.string (str l), .int .i64 (p : Int)] w fun e w' => e = .returned (.tuple #[.string (str (wdL l p)), .int .i64 (wdN l p : Nat)]) ∧ w = w' := fun w ht => Word_any l p w ht (by omega)
  have hwl := wn_le (l.drop p)
  rw [List.length_drop] at hwl
  rw [hw1, hw2] at hW
  unfold tkWord
  have hdl : ((l.drop p).take (wn (l.drop p))).length ≤ l.length := by simp; omega
  generalize wn (l.drop p) = k at *
  generalize (l.drop p).take k = d at *
  have hI : ∀ w, Calls Tryd.prog 40 #[.string (str d)] w fun e w' => e = .returned (.tuple #[.int .i64 (inN d), .int .i64 (inE d)]) ∧ Below w.heap.size w w' := fun w => Int_any d w (by omega)
  generalize inN d = rN at *
  have HW := Lib.hid hW
  have hta := ht.below' ((Below.refl _ _).alloc (Nat.le_refl _) tok0)
  unfold tok0 at hta
  clear hw1 hw2 hW
  generalize inE d = E at *
  have HI := Lib.hid hI
  clear hI
  have hcase : E = 0 ∨ E = 3 ∨ ((E == 0) = false ∧ (E == 3) = false) := by simp only [beq_eq_false_iff_ne]; omega
  rcases hcase with rfl | rfl | ⟨h0, h3⟩
  · rw [if_pos rfl, rv_ok]
    go_enter Tryd.func23, Tryd.ntmps23
    go_wp2_with (first | (go_at_call 19; refine (HW.out _ hta).mono ?_; rintro e w' ⟨rfl, rfl⟩) | (go_at_call 40; refine (HI.out _).mono ?_; rintro e w2 ⟨rfl, hb2⟩; obtain ⟨⟨c0, c1, c2, c3⟩, ⟨z0, z1, z2, z3⟩, hlt, hB⟩ := res_of hb2; clear hb2))
    refine bodyPost_ret (v := _) (by simp [results, Tryd.results23, go_sem, c0, c1, c2, c3]; try rfl) rfl ⟨rfl, below_4 hB (Nat.le_refl _) _ _ _ _⟩
  · rw [if_neg (by decide), if_pos rfl, rv_ok]
    go_enter Tryd.func23, Tryd.ntmps23
    go_wp2_with (first | (go_at_call 19; refine (HW.out _ hta).mono ?_; rintro e w' ⟨rfl, rfl⟩) | (go_at_call 40; refine (HI.out _).mono ?_; rintro e w2 ⟨rfl, hb2⟩; obtain ⟨⟨c0, c1, c2, c3⟩, ⟨z0, z1, z2, z3⟩, hlt, hB⟩ := res_of hb2; clear hb2))
    refine bodyPost_ret (v := _) (by simp [results, Tryd.results23, go_sem, c0, c1, c2, c3]; try rfl) rfl ⟨rfl, below_4 hB (Nat.le_refl _) _ _ _ _⟩
  · rw [if_neg (by simpa using h0), if_neg (by simpa using h3), rv_no _ _ _ (by simpa using h0)]
    go_enter Tryd.func23, Tryd.ntmps23
    go_wp2_with (first | (go_at_call 19; refine (HW.out _ hta).mono ?_; rintro e w' ⟨rfl, rfl⟩) | (go_at_call 40; refine (HI.out _).mono ?_; rintro e w2 ⟨rfl, hb2⟩; obtain ⟨⟨c0, c1, c2, c3⟩, ⟨z0, z1, z2, z3⟩, hlt, hB⟩ := res_of hb2; clear hb2))
    refine bodyPost_ret (v := _) (by simp [results, Tryd.results23, go_sem, c0, c1, c2, c3]; try rfl) rfl ⟨rfl, below_4 hB (Nat.le_refl _) _ _ _ _⟩
end Go.Proofs.YtjlecollphgmcaaDoor
