/-
  The document's own 'the same', of lists that are the same.
-/
import Derived.Test.YtdlkgcbiekilhaaSpanMem
import Derived.Handy
namespace Go.Proofs.Ytdlkgcbiekilhaa
open Go.RowKit

set_option maxHeartbeats 4000000 in
theorem rSame_yes {w : World} {A1 A2 : Option Addr} {c1 c2 : Nat} {l : List Sp} (ha : Ss w w.heap.size A1 l) (hb : Ss w w.heap.size A2 l) (hl : l.length ≤ 1048576) :
    Calls Try.prog 20 #[.slice A1 l.length c1, .slice A2 l.length c2] w fun r w' => r = .returned (.bool true) ∧ Below w.heap.size w w' := by
  have HA := Lib.hid ha
  have HB := Lib.hid hb
  clear ha hb
  generalize hn : l.length = n at *
  have HN := Lib.hid hn
  clear hn
  go_enter Try.func20, Try.ntmps20
  go_wp2
  go_loopw [5] (fun i wr => ∃ k m : Nat, k ≤ n ∧ i = .int .i64 (k : Int) ∧ Hid (wr = w.drewN m)) (fun i _ => n - (intOf i).toNat)
  case atStart => exact ⟨0, 0, Nat.zero_le _, rfl, Lib.hid rfl⟩
  case round =>
    obtain ⟨k, m, hk, rfl, HW⟩ := hrel
    by_cases hkl : k < n
    · have t0 : decide (k < n) = true := by simp; omega
      have hx := List.getElem?_eq_getElem (l := l) (i := k) (by have := HN.out; omega)
      generalize l[k]'(by have := HN.out; omega) = x at *
      obtain ⟨b1, o1, e1, _, q1⟩ := HA.out.at hx
      obtain ⟨b2, o2, e2, _, q2⟩ := HB.out.at hx
      subst e1 e2
      obtain ⟨y0, y1, y2, y3⟩ : S4 wr b1 (o1 + k * 4) x := q1.keep fun i => by rw [HW.out, drewN_cellS]
      obtain ⟨y4, y5, y6, y7⟩ : S4 wr b2 (o2 + k * 4) x := q2.keep fun i => by rw [HW.out, drewN_cellS]
      clear q1 q2 hx
      go_wp2
      go_quiet (fail)
      go_wp2
      refine ⟨⟨k + 1, _, by omega, by go_num, Lib.hid (by rw [HW.out]; exact World.drewN_drewN _ _ _)⟩, by simp [intOf]; omega⟩
    · have t0 : decide (k < n) = false := by simp; omega
      go_wp2
      go_ret
      exact ⟨rfl, by rw [HW.out]; exact below_drewN (Below.refl _ _) _⟩
end Go.Proofs.Ytdlkgcbiekilhaa
