/-
  The program's own goes, Sane, To, ahead, joins, part, compare.
-/
import Derived.Test.YtdlkgcbiekilhaaSpanMem
import Derived.Deep.RegionHeld
import Derived.Deep.DrawnRows
namespace Go.Proofs.Ytdlkgcbiekilhaa
open Go.RowKit
attribute [local go_sem ↓] Go.wp_at_zero Go.wp_at_succ

/-- Small numbers. -/
structure Nr (s : Sp) : Prop where
  l0 : 0 ≤ s.lo
  l1 : s.lo < 4294967296
  h0 : 0 ≤ s.hi
  h1 : s.hi < 4294967296
  t0 : 0 ≤ s.to
  t1 : s.to ≤ 65535
theorem Sn.nr {st : Bool} {s : Sp} (h : Sn st s) : Nr s := by
  obtain ⟨h1, h2, h3, h4, h5, _⟩ := h
  have a := saneB_top h1
  have b := saneB_top h2
  exact ⟨a.1, a.2.1, b.1, b.2.1, h4, h5⟩
set_option maxHeartbeats 1000000 in
theorem goes_any (st : Bool) (s : Sp) (v : Int) (w : World) (h0 : 0 ≤ s.lo) (h1 : s.lo < 4294967296) (h2 : 0 ≤ s.to) (h3 : s.to ≤ 65535) (h4 : 0 ≤ v) (h5 : v ≤ 4294967296) :
    Calls Try.prog 25 #[sv s, .int .i64 v, .bool st] w fun e w' => e = .returned (.int .i64 (goesS st s v)) ∧ Below w.heap.size w w' := by
  unfold sv
  cases st with
  | true =>
    go_enter Try.func25, Try.ntmps25
    go_wp2
    go_ret
    exact ⟨by simp only [goesS, if_true]; go_num, (Below.refl _ _).alloc (Nat.le_refl _) _⟩
  | false =>
    go_enter Try.func25, Try.ntmps25
    go_wp2
    go_ret
    exact ⟨rfl, (Below.refl _ _).alloc (Nat.le_refl _) _⟩
theorem ahS_eq (a b : Sp) : decide (ahS a b) = (decide (a.n < b.n) || ((a.n == b.n) && decide (a.hi < b.lo))) := by
  show decide (a.n < b.n ∨ (a.n = b.n ∧ a.hi < b.lo)) = _
  rw [Bool.eq_iff_iff]
  simp
theorem jnS_eq (st : Bool) (a b : Sp) : decide (jnS st a b) = (((a.n == b.n) && (b.lo == a.hi + 1)) && (b.to == goesS st a b.lo)) := by
  show decide (a.n = b.n ∧ b.lo = a.hi + 1 ∧ b.to = goesS st a b.lo) = _
  rw [Bool.eq_iff_iff]
  simp [and_assoc]
set_option maxHeartbeats 1000000 in
theorem ahead_any (a b : Sp) (w : World) :
    Calls Try.prog 39 #[sv a, sv b] w fun e w' => e = .returned (.bool (decide (ahS a b))) ∧ Below w.heap.size w w' := by
  rw [ahS_eq]
  unfold sv
  cases d1 : decide (a.n < b.n) with
  | true =>
    go_enter Try.func39, Try.ntmps39
    go_wp2
    go_ret
    exact ⟨rfl, ((Below.refl _ _).alloc (Nat.le_refl _) _).alloc (by simp) _⟩
  | false =>
    cases d2 : (a.n == b.n) with
    | true =>
      go_enter Try.func39, Try.ntmps39
      go_wp2
      go_ret
      exact ⟨rfl, ((Below.refl _ _).alloc (Nat.le_refl _) _).alloc (by simp) _⟩
    | false =>
      go_enter Try.func39, Try.ntmps39
      go_wp2
      go_ret
      exact ⟨rfl, ((Below.refl _ _).alloc (Nat.le_refl _) _).alloc (by simp) _⟩
set_option maxHeartbeats 2000000 in
theorem joins_any (st : Bool) (a b : Sp) (w : World) (ha : Nr a) (hb : Nr b) :
    Calls Try.prog 40 #[sv a, sv b, .bool st] w fun e w' => e = .returned (.bool (decide (jnS st a b))) ∧ Below w.heap.size w w' := by
  have K1 := Lib.hid (fun W => goes_any st a b.lo W ha.l0 ha.l1 ha.t0 ha.t1 hb.l0 (by have := hb.l1; omega))
  rw [jnS_eq]
  obtain ⟨_, _, h0, h1, _, _⟩ := ha
  clear hb
  generalize goesS st a b.lo = g at *
  unfold sv at *
  cases d2 : (a.n == b.n) with
  | true =>
    cases d3 : (b.lo == a.hi + 1) with
    | true =>
      have hwr : IntKind.i64.wrap (a.hi + 1) = a.hi + 1 := IntWalk.i64_in _ (by omega)
      go_enter Try.func40, Try.ntmps40
      go_wp2_with fail
      have xa : Bs ((w.alloc (.cells #[.int .i64 a.n, .int .i64 a.lo, .int .i64 a.hi, .int .i64 a.to] 24)).alloc (.cells #[.int .i64 b.n, .int .i64 b.lo, .int .i64 b.hi, .int .i64 b.to] 24)) w.heap.size a := ⟨by simp, by simp, by simp, by simp⟩
      have xb : Bs ((w.alloc (.cells #[.int .i64 a.n, .int .i64 a.lo, .int .i64 a.hi, .int .i64 a.to] 24)).alloc (.cells #[.int .i64 b.n, .int .i64 b.lo, .int .i64 b.hi, .int .i64 b.to] 24)) (w.heap.size + 1) b := ⟨by simp, by simp, by simp, by simp⟩
      have b1 : Below w.heap.size w ((w.alloc (.cells #[.int .i64 a.n, .int .i64 a.lo, .int .i64 a.hi, .int .i64 a.to] 24)).alloc (.cells #[.int .i64 b.n, .int .i64 b.lo, .int .i64 b.hi, .int .i64 b.to] 24)) := ((Below.refl _ _).alloc (Nat.le_refl _) _).alloc (by simp) _
      have z1 : w.heap.size + 1 < ((w.alloc (.cells #[.int .i64 a.n, .int .i64 a.lo, .int .i64 a.hi, .int .i64 a.to] 24)).alloc (.cells #[.int .i64 b.n, .int .i64 b.lo, .int .i64 b.hi, .int .i64 b.to] 24)).heap.size := by simp
      generalize (w.alloc (.cells #[.int .i64 a.n, .int .i64 a.lo, .int .i64 a.hi, .int .i64 a.to] 24)).alloc (.cells #[.int .i64 b.n, .int .i64 b.lo, .int .i64 b.hi, .int .i64 b.to] 24) = wr at *
      have hS : ∀ w', Below wr.heap.size wr w' → (w'.cell? ⟨w.heap.size, 0, none⟩ = some (.int .i64 a.n) ∧ w'.cell? ⟨w.heap.size, 1, none⟩ = some (.int .i64 a.lo) ∧ w'.cell? ⟨w.heap.size, 2, none⟩ = some (.int .i64 a.hi) ∧ w'.cell? ⟨w.heap.size, 3, none⟩ = some (.int .i64 a.to)) ∧ w'.cell? ⟨w.heap.size + 1, 0, none⟩ = some (.int .i64 b.n) ∧ w'.cell? ⟨w.heap.size + 1, 1, none⟩ = some (.int .i64 b.lo) ∧ w'.cell? ⟨w.heap.size + 1, 3, none⟩ = some (.int .i64 b.to) := fun w' hb => by
        have p := Bs.below xa hb (by omega)
        have q := Bs.below xb hb (by omega)
        exact ⟨⟨p.c0, p.c1, p.c2, p.c3⟩, q.c0, q.c1, q.c3⟩
      have HS := Lib.hid hS
      clear hS
      have z0 : Below wr.heap.size wr wr.drew := (Below.refl _ _).drew
      go_region_held (fun w' => (w'.cell? ⟨w.heap.size, 0, none⟩ = some (.int .i64 a.n) ∧ w'.cell? ⟨w.heap.size, 1, none⟩ = some (.int .i64 a.lo) ∧ w'.cell? ⟨w.heap.size, 2, none⟩ = some (.int .i64 a.hi) ∧ w'.cell? ⟨w.heap.size, 3, none⟩ = some (.int .i64 a.to)) ∧ w'.cell? ⟨w.heap.size + 1, 0, none⟩ = some (.int .i64 b.n) ∧ w'.cell? ⟨w.heap.size + 1, 1, none⟩ = some (.int .i64 b.lo) ∧ w'.cell? ⟨w.heap.size + 1, 3, none⟩ = some (.int .i64 b.to))
        (first | with_reducible exact HS.out _ z8 | with_reducible exact HS.out _ z0)
        ((go_at_call 25; with_reducible refine (K1.out _).mono ?_; rintro e x1 ⟨rfl, y8⟩; have z8 := z0.trans (y8.mono z0.size)))
      all_goals
        go_wp2
        go_ret
        exact ⟨rfl, b1.trans (z8.mono (by omega))⟩
    | false =>
      go_enter Try.func40, Try.ntmps40
      go_wp2
      go_quiet (fail)
      go_wp2
      go_ret
      exact ⟨rfl, below_drewN (((Below.refl _ _).alloc (Nat.le_refl _) _).alloc (by simp) _) _⟩
  | false =>
    go_enter Try.func40, Try.ntmps40
    go_wp2
    go_quiet (fail)
    go_wp2
    go_ret
    exact ⟨rfl, below_drewN (((Below.refl _ _).alloc (Nat.le_refl _) _).alloc (by simp) _) _⟩
end Go.Proofs.Ytdlkgcbiekilhaa
