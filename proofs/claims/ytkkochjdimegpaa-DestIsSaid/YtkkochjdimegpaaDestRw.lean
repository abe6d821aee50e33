/-
  The program's own room, rowEnd.
-/
import Derived.Test.YtkkochjdimegpaaDestRowP
import Derived.Test.YtkkochjdimegpaaDestTo
namespace Go.Proofs.Ytkkochjdimegpaa
open Go.RowKit
attribute [local go_sem ↓] Go.wp_at_zero Go.wp_at_succ

set_option maxHeartbeats 1000000 in
theorem room_any (v : Int) (w : World) (h0 : 0 ≤ v) :
    Calls Try.prog 56 #[.int .i64 v] w fun e w' => e = .returned (.int .i64 (255 - v % 256)) ∧ Below w.heap.size w w' := by
  have e1 : v.tmod 256 = v % 256 := Int.tmod_eq_emod_of_nonneg h0
  go_enter Try.func56, Try.ntmps56
  go_wp2
  go_ret
  exact ⟨by first | rfl | (rw [e1]) | (simp [e1]), Below.refl _ _⟩
set_option maxRecDepth 100000 in
set_option maxHeartbeats 4000000 in
theorem rowEnd_any (x : Me) (w : World) (hu : Un w x.a x.c x.b.u) (hs : Sb x.b) :
    Calls Try.prog 51 #[fv x] w fun e w' => e = .returned (.int .i64 (rowE x.b)) ∧ Below w.heap.size w w' := by
  have p1 := saneB_top hs.1
  have p2 := saneB_top hs.2.1
  have hl := hs.2.2.2.1.last
  have hk := hs.2.2.2.1
  have K1 : Hid (∀ W, Calls Try.prog 56 #[.int .i64 x.b.lo] W fun e w' => e = .returned (.int .i64 (255 - x.b.lo % 256)) ∧ Below W.heap.size W w') := Lib.hid fun W => room_any x.b.lo W p1.1
  have K2 : Hid (∀ W, Below w.heap.size w W → Calls Try.prog 36 #[fv x, .int .i64 x.b.lo] W fun e w' => e = .returned (.int .i64 (lastU x.b.u)) ∧ Below W.heap.size W w') := Lib.hid fun W hW => by
    have := lastUnit_any x x.b.lo W (hu.over hW).si hk p1.1 p1.2.1 p1.1 (by omega)
    rwa [Int.sub_self, Int.add_zero] at this
  have K3 : Hid (∀ W, Calls Try.prog 56 #[.int .i64 (lastU x.b.u)] W fun e w' => e = .returned (.int .i64 (255 - lastU x.b.u % 256)) ∧ Below W.heap.size W w') := Lib.hid fun W => room_any (lastU x.b.u) W hl.1
  have w1 : IntKind.i64.wrap (x.b.lo + (255 - x.b.lo % 256)) = x.b.lo + (255 - x.b.lo % 256) := IntWalk.i64_in _ (by omega)
  have w2 : IntKind.i64.wrap (x.b.lo + (255 - lastU x.b.u % 256)) = x.b.lo + (255 - lastU x.b.u % 256) := IntWalk.i64_in _ (by omega)
  have hmn : ∀ ts t wx, (Builtin.min_ ts t #[.int .i64 x.b.hi, .int .i64 (x.b.lo + (255 - x.b.lo % 256)), .int .i64 (x.b.lo + (255 - lastU x.b.u % 256))]).run Try.prog wx = .ok (.int .i64 (rowE x.b)) wx := fun ts t wx => by
    rw [run_min_int3]
    congr 2
    unfold rowE
    split <;> split <;> omega
  generalize lastU x.b.u = L at *
  generalize 255 - x.b.lo % 256 = R1 at *
  generalize 255 - L % 256 = R2 at *
  generalize rowE x.b = RE at *
  have HH : Hid (∀ w', Below (w.alloc (.cells #[.int .i64 x.b.n, .int .i64 x.b.lo, .int .i64 x.b.hi, .slice x.a x.b.u.length x.c] 25)).heap.size (w.alloc (.cells #[.int .i64 x.b.n, .int .i64 x.b.lo, .int .i64 x.b.hi, .slice x.a x.b.u.length x.c] 25)) w' → (w'.cell? ⟨w.heap.size, 0, none⟩ = some (.int .i64 x.b.n) ∧ w'.cell? ⟨w.heap.size, 1, none⟩ = some (.int .i64 x.b.lo) ∧ w'.cell? ⟨w.heap.size, 2, none⟩ = some (.int .i64 x.b.hi) ∧ w'.cell? ⟨w.heap.size, 3, none⟩ = some (.slice x.a x.b.u.length x.c)) ∧ Below w.heap.size w w') := Lib.hid fun w' hb => by
    obtain ⟨q0, q1, q2, q3⟩ := Fb.below (Fb.new w x 25) hb (by simp)
    simp only [Nat.zero_add] at q1 q2 q3
    exact ⟨⟨q0, q1, q2, q3⟩, (al_below w _).trans (hb.mono (by simp))⟩
  unfold fv at *
  clear p1 p2 hl hk hu hs
  go_enter Try.func51, Try.ntmps51
  go_wp2_with fail
  generalize w.alloc (.cells #[.int .i64 x.b.n, .int .i64 x.b.lo, .int .i64 x.b.hi, .slice x.a x.b.u.length x.c] 25) = wr at *
  have z0 : Below wr.heap.size wr wr.drew := (Below.refl _ _).drew
  go_region_held (fun w' => w'.cell? ⟨w.heap.size, 0, none⟩ = some (.int .i64 x.b.n) ∧ w'.cell? ⟨w.heap.size, 1, none⟩ = some (.int .i64 x.b.lo) ∧ w'.cell? ⟨w.heap.size, 2, none⟩ = some (.int .i64 x.b.hi) ∧ w'.cell? ⟨w.heap.size, 3, none⟩ = some (.slice x.a x.b.u.length x.c))
    (first | with_reducible exact (HH.out _ z3).1 | with_reducible exact (HH.out _ z2).1 | with_reducible exact (HH.out _ z1).1 | with_reducible exact (HH.out _ z0).1)
    (first
      | (go_at_call 56; (with_reducible refine (K1.out _).mono ?_); rintro e x1 ⟨rfl, y1⟩; have z1 := z0.trans (y1.mono z0.size))
      | (go_at_call 36; (with_reducible refine (K2.out _ (HH.out _ z1).2).mono ?_); rintro e x2 ⟨rfl, y2⟩; have z2 := z1.trans (y2.mono z1.size))
      | (go_at_call 56; (with_reducible refine (K3.out _).mono ?_); rintro e x3 ⟨rfl, y3⟩; have z3 := z2.trans (y3.mono z2.size)))
  all_goals
    go_wp2
    go_ret
    exact ⟨rfl, (HH.out _ z3).2⟩
end Go.Proofs.Ytkkochjdimegpaa
