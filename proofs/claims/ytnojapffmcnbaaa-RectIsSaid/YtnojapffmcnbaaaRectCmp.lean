/-
  The program's own compare: which of two codespaces goes ahead.
-/
import Derived.Test.YtnojapffmcnbaaaRectPro6
import Derived.Test.YtnojapffmcnbaaaShelfSort
namespace Go.Proofs.Ytnojapffmcnbaaa
open Go.RowKit Go.Sort Go.Shelf

/-- Numbers that a float holds as they are. -/
structure Sml (r : Rc) : Prop where
  n0 : 0 ≤ r.n
  n1 : r.n < 4294967296
  l0 : 0 ≤ r.lo
  l1 : r.lo < 4294967296
  h0 : 0 ≤ r.hi
  h1 : r.hi < 4294967296
theorem sane_lt {n v : Int} (h : saneB n v = true) : 0 ≤ v ∧ v < 4294967296 ∧ 1 ≤ n ∧ n ≤ 4 := by
  obtain ⟨h1, h2, h3, h4⟩ := (saneB_iff n v).1 h
  rcases (show n = 1 ∨ n = 2 ∨ n = 3 ∨ n = 4 by omega) with rfl | rfl | rfl | rfl
  all_goals
    simp at h4
    omega
theorem Sml.of_sane {r : Rc} (h : saneR r = true) : Sml r := by
  have h0 := (saneR_iff r).1 h
  have a := sane_lt h0.1
  have b := sane_lt h0.2.1
  exact ⟨by omega, by omega, a.1, a.2.1, b.1, b.2.1⟩
/-- What compare answers. -/
def cmpC (a b : Rc) : Int := if ltC a b = true then -1 else if ltC b a = true then 1 else 0
theorem cmpC_lt (a b : Rc) : decide (cmpC a b < 0) = ltC a b := by
  unfold cmpC
  cases ltC a b with
  | true => rfl
  | false => cases ltC b a <;> rfl
theorem ltC_low {a b : Rc} (h : ¬ (a.n = b.n ∧ a.lo = b.lo)) : ltC a b = ahB a.n a.lo b.n b.lo := by
  unfold ltC ahB
  exact decide_eq_decide.2 (by omega)
theorem ltC_high {a b : Rc} (h : a.n = b.n ∧ a.lo = b.lo) : ltC a b = ahB a.n a.hi b.n b.hi := by
  unfold ltC ahB
  exact decide_eq_decide.2 (by omega)
/-- A world that is another one, after draws, with blocks behind it. -/
def Gw (w w' : World) : Prop := ∃ q os, w' = grow (w.drewN q) os
theorem Gw.refl (w : World) : Gw w w := ⟨0, #[], by rw [grow_empty]; rfl⟩
theorem Gw.trans {a b c : World} (h : Gw a b) (k : Gw b c) : Gw a c := by
  obtain ⟨q, os, rfl⟩ := h
  obtain ⟨p, os', rfl⟩ := k
  exact ⟨q + p, os ++ os', by show grow (grow ((a.drewN q).drewN p) os) os' = _; rw [grow_grow, World.drewN_drewN]⟩
theorem Gw.alloc {a b : World} (h : Gw a b) (o : Obj) : Gw a (b.alloc o) := h.trans ⟨0, _, by rw [alloc_eq_grow]; rfl⟩
theorem Gw.cell {a b : World} (h : Gw a b) {p : Addr} (hp : p.block < a.heap.size) : b.cell? p = a.cell? p := by
  obtain ⟨q, os, rfl⟩ := h
  rw [cell?_grow _ _ _ (by exact hp)]
  rfl
theorem Gw.size {a b : World} (h : Gw a b) : a.heap.size ≤ b.heap.size := by
  obtain ⟨q, os, rfl⟩ := h
  rw [size_grow]
  exact Nat.le_add_right _ _
theorem Gw.bx {a b : World} {k : Nat} {r : Rc} (h : Gw a b) (x : Bx a k r) (hk : k < a.heap.size) : Bx b k r :=
  ⟨(h.cell (p := ⟨k, 0, none⟩) hk).trans x.c0, (h.cell (p := ⟨k, 1, none⟩) hk).trans x.c1, (h.cell (p := ⟨k, 2, none⟩) hk).trans x.c2⟩
theorem Gw.gr (a : World) (n : Nat) (os : Array Obj) : Gw a (grow (a.drewN n) os) := ⟨n, os, rfl⟩
set_option maxHeartbeats 2000000 in
theorem compare_any (a b : Rc) (w : World) (ha : Sml a) (hb : Sml b) :
    Calls Try.prog 44 #[.agg #[.int .i64 a.n, .int .i64 a.lo, .int .i64 a.hi], .agg #[.int .i64 b.n, .int .i64 b.lo, .int .i64 b.hi]] w fun e w' => e = .returned (.int .i64 (cmpC a b)) ∧ ∃ q os, w' = grow (w.drewN q) os := by
  have K1 := Lib.hid (lowest_any a.n a.lo a.hi)
  have K2 := Lib.hid (lowest_any b.n b.lo b.hi)
  have K3 := Lib.hid (highest_any a.n a.lo a.hi)
  have K4 := Lib.hid (highest_any b.n b.lo b.hi)
  have HA := Lib.hid ha
  have HB := Lib.hid hb
  have o1 := flN_order ha.n0 ha.n1 hb.n0 hb.n1
  have o2 := flN_order ha.l0 ha.l1 hb.l0 hb.l1
  have e1 : (FloatKind.f64.format.order (flN a.n) (flN b.n) == some Ordering.eq) = decide (a.n = b.n) := by rw [o1, cmp_eq]
  have e2 : (FloatKind.f64.format.order (flN a.lo) (flN b.lo) == some Ordering.eq) = decide (a.lo = b.lo) := by rw [o2, cmp_eq]
  have e3 : ((FloatKind.f64.format.order (flN a.n) (flN b.n) == some Ordering.eq) && (FloatKind.f64.format.order (flN a.lo) (flN b.lo) == some Ordering.eq)) = decide (a.n = b.n ∧ a.lo = b.lo) := by rw [e1, e2]; exact (Bool.decide_and _ _).symm
  clear o1 o2 e1 e2 ha hb
  go_enter Try.func44, Try.ntmps44
  go_wp2_with fail
  have xa : Bx ((w.alloc (.cells #[.int .i64 a.n, .int .i64 a.lo, .int .i64 a.hi] 23)).alloc (.cells #[.int .i64 b.n, .int .i64 b.lo, .int .i64 b.hi] 23)) w.heap.size a := ⟨by simp, by simp, by simp⟩
  have xb : Bx ((w.alloc (.cells #[.int .i64 a.n, .int .i64 a.lo, .int .i64 a.hi] 23)).alloc (.cells #[.int .i64 b.n, .int .i64 b.lo, .int .i64 b.hi] 23)) (w.heap.size + 1) b := ⟨by simp, by simp, by simp⟩
  have g1 : Gw w ((w.alloc (.cells #[.int .i64 a.n, .int .i64 a.lo, .int .i64 a.hi] 23)).alloc (.cells #[.int .i64 b.n, .int .i64 b.lo, .int .i64 b.hi] 23)) := ((Gw.refl w).alloc _).alloc _
  have z1 : w.heap.size + 1 < ((w.alloc (.cells #[.int .i64 a.n, .int .i64 a.lo, .int .i64 a.hi] 23)).alloc (.cells #[.int .i64 b.n, .int .i64 b.lo, .int .i64 b.hi] 23)).heap.size := by simp
  have zA : w.heap.size < ((w.alloc (.cells #[.int .i64 a.n, .int .i64 a.lo, .int .i64 a.hi] 23)).alloc (.cells #[.int .i64 b.n, .int .i64 b.lo, .int .i64 b.hi] 23)).heap.size := by omega
  generalize (w.alloc (.cells #[.int .i64 a.n, .int .i64 a.lo, .int .i64 a.hi] 23)).alloc (.cells #[.int .i64 b.n, .int .i64 b.lo, .int .i64 b.hi] 23) = w1 at *
  generalize hB : w.heap.size + 1 = B at *
  clear hB
  have mixed : Try.prog.follows .mixedOrders = true := by kernel_rfl
  have ya0 := fun n os => ((Gw.gr w1 n os).bx xa zA).c0
  have ya1 := fun n os => ((Gw.gr w1 n os).bx xa zA).c1
  have ya2 := fun n os => ((Gw.gr w1 n os).bx xa zA).c2
  have yb0 := fun n os => ((Gw.gr w1 n os).bx xb z1).c0
  have yb1 := fun n os => ((Gw.gr w1 n os).bx xb z1).c1
  have yb2 := fun n os => ((Gw.gr w1 n os).bx xb z1).c2
  go_quiet_grown ((go_at_call 48; first | with_reducible exact Calls.grown_of (K1.out _) | with_reducible exact Calls.grown_of (K2.out _)))
  have g2 := g1.trans (Gw.gr w1 nq osq)
  have xa2 := (Gw.gr w1 nq osq).bx xa zA
  have xb2 := (Gw.gr w1 nq osq).bx xb z1
  have zA2 := Nat.lt_of_lt_of_le zA (Gw.gr w1 nq osq).size
  have zB2 := Nat.lt_of_lt_of_le z1 (Gw.gr w1 nq osq).size
  generalize grow (w1.drewN nq) osq = w2 at *
  clear ya0 ya1 ya2 yb0 yb1 yb2 xa xb z1 zA g1
  by_cases h : a.n = b.n ∧ a.lo = b.lo
  · rw [decide_eq_true h] at e3
    have l1 := ltC_high h
    have l2 := ltC_high (a := b) (b := a) ⟨h.1.symm, h.2.symm⟩
    have F1 := Lib.hid (fun W => first_any a.n a.hi b.n b.hi W HA.out.n0 HA.out.n1 HA.out.h0 HA.out.h1 HB.out.n0 HB.out.n1 HB.out.h0 HB.out.h1)
    have F2 := Lib.hid (fun W => first_any b.n b.hi a.n a.hi W HB.out.n0 HB.out.n1 HB.out.h0 HB.out.h1 HA.out.n0 HA.out.n1 HA.out.h0 HA.out.h1)
    rw [← l1] at F1
    rw [← l2] at F2
    have HH := Lib.hid h
    clear h l1 l2
    go_wp2_with fail
    have ya0 := fun n os => ((Gw.gr w2 n os).bx xa2 zA2).c0
    have ya1 := fun n os => ((Gw.gr w2 n os).bx xa2 zA2).c1
    have ya2 := fun n os => ((Gw.gr w2 n os).bx xa2 zA2).c2
    have yb0 := fun n os => ((Gw.gr w2 n os).bx xb2 zB2).c0
    have yb1 := fun n os => ((Gw.gr w2 n os).bx xb2 zB2).c1
    have yb2 := fun n os => ((Gw.gr w2 n os).bx xb2 zB2).c2
    go_quiet_grown ((go_at_call 46; first | with_reducible exact Calls.grown_of (K3.out _) | with_reducible exact Calls.grown_of (K4.out _)))
    have g3 := g2.trans (Gw.gr w2 nq osq)
    generalize grow (w2.drewN nq) osq = w3 at *
    clear ya0 ya1 ya2 yb0 yb1 yb2 xa2 xb2 zA2 zB2 g2
    cases t1 : ltC a b with
    | true =>
      rw [t1] at F1
      go_wp2_with (go_at_call 47; with_reducible refine (F1.out _).mono ?_; rintro e x1 ⟨rfl, rfl⟩)
      go_ret
      refine ⟨?_, g3⟩
      unfold cmpC
      rw [t1]
      rfl
    | false =>
      rw [t1] at F1
      cases t2 : ltC b a with
      | true =>
        rw [t2] at F2
        go_wp2_with (first | (go_at_call 47; with_reducible refine (F1.out _).mono ?_; rintro e x1 ⟨rfl, rfl⟩) | (go_at_call 47; with_reducible refine (F2.out _).mono ?_; rintro e x1 ⟨rfl, rfl⟩))
        go_ret
        refine ⟨?_, g3⟩
        unfold cmpC
        rw [t1, t2]
        rfl
      | false =>
        rw [t2] at F2
        go_wp2_with (first | (go_at_call 47; with_reducible refine (F1.out _).mono ?_; rintro e x1 ⟨rfl, rfl⟩) | (go_at_call 47; with_reducible refine (F2.out _).mono ?_; rintro e x1 ⟨rfl, rfl⟩))
        go_ret
        refine ⟨?_, g3⟩
        unfold cmpC
        rw [t1, t2]
        rfl
  · rw [decide_eq_false h] at e3
    have l1 := ltC_low h
    have l2 := ltC_low (a := b) (b := a) (fun e => h ⟨e.1.symm, e.2.symm⟩)
    have F1 := Lib.hid (fun W => first_any a.n a.lo b.n b.lo W HA.out.n0 HA.out.n1 HA.out.l0 HA.out.l1 HB.out.n0 HB.out.n1 HB.out.l0 HB.out.l1)
    have F2 := Lib.hid (fun W => first_any b.n b.lo a.n a.lo W HB.out.n0 HB.out.n1 HB.out.l0 HB.out.l1 HA.out.n0 HA.out.n1 HA.out.l0 HA.out.l1)
    rw [← l1] at F1
    rw [← l2] at F2
    have HH := Lib.hid h
    clear h l1 l2
    cases t1 : ltC a b with
    | true =>
      rw [t1] at F1
      go_wp2_with (go_at_call 47; with_reducible refine (F1.out _).mono ?_; rintro e x1 ⟨rfl, rfl⟩)
      go_ret
      refine ⟨?_, g2⟩
      unfold cmpC
      rw [t1]
      rfl
    | false =>
      rw [t1] at F1
      cases t2 : ltC b a with
      | true =>
        rw [t2] at F2
        go_wp2_with (first | (go_at_call 47; with_reducible refine (F1.out _).mono ?_; rintro e x1 ⟨rfl, rfl⟩) | (go_at_call 47; with_reducible refine (F2.out _).mono ?_; rintro e x1 ⟨rfl, rfl⟩))
        go_ret
        refine ⟨?_, g2⟩
        unfold cmpC
        rw [t1, t2]
        rfl
      | false =>
        rw [t2] at F2
        go_wp2_with (first | (go_at_call 47; with_reducible refine (F1.out _).mono ?_; rintro e x1 ⟨rfl, rfl⟩) | (go_at_call 47; with_reducible refine (F2.out _).mono ?_; rintro e x1 ⟨rfl, rfl⟩))
        go_ret
        refine ⟨?_, g2⟩
        unfold cmpC
        rw [t1, t2]
        rfl
end Go.Proofs.Ytnojapffmcnbaaa
