/-
  slices.Equal at ints; the program's own joins.
-/
import Derived.Test.YtkkochjdimegpaaDestTo
namespace Go.Proofs.Ytkkochjdimegpaa
open Go.RowKit
attribute [local go_sem ↓] Go.wp_at_zero Go.wp_at_succ

theorem Si.take {w : World} {B : Nat} {A : Option Addr} {l : List Int} (h : Si w B A l) (k : Nat) : Si w B A (l.take k) := fun hn => by
  obtain ⟨b, o, e, hb, hc⟩ := h (by simp at hn; omega)
  refine ⟨b, o, e, hb, fun j hj => ?_⟩
  rw [List.length_take] at hj
  rw [List.getElem?_take, if_pos (by omega)]
  exact hc j (by omega)
theorem eq_take {α : Type} {l m : List α} {k : Nat} {x y : α} (hx : l[k]? = some x) (hy : m[k]? = some y) (h : l.take k = m.take k) (e : x = y) : l.take (k + 1) = m.take (k + 1) := by
  rw [List.take_add_one, List.take_add_one, hx, hy, h, e]
set_option maxRecDepth 100000 in
set_option maxHeartbeats 4000000 in
theorem Equal_any (A B : Option Addr) (c c' n : Nat) (l m : List Int) (w : World) (hl : n = l.length) (hm : n = m.length) (h64 : n ≤ 1000) (h1 : Si w w.heap.size A l) (h2 : Si w w.heap.size B m) :
    Calls Try.prog 55 #[.slice A n c, .slice B n c'] w fun e w' => e = .returned (.bool (decide (l = m))) ∧ Below w.heap.size w w' := by
  have HL := Lib.hid hl
  have HM := Lib.hid hm
  have H1 := Lib.hid h1
  have H2 := Lib.hid h2
  obtain ⟨r, hr⟩ : ∃ r, r = decide (l = m) := ⟨_, rfl⟩
  have HR := Lib.hid hr
  rw [← hr]
  clear hl hm h1 h2 hr
  go_enter Try.func55, Try.ntmps55
  go_wp2
  go_loopw [13] (fun i wr => ∃ k : Nat, k ≤ n ∧ i = .int .i64 (k : Int) ∧ Hid (l.take k = m.take k) ∧ Below w.heap.size w wr) (fun i _ => n - (intOf i).toNat)
  case atStart => exact ⟨0, Nat.zero_le _, rfl, Lib.hid (by simp), Below.refl _ _⟩
  case round =>
    obtain ⟨k, hk, rfl, HK, hbel⟩ := hrel
    by_cases hlt : k < n
    · have t0 : decide (k < n) = true := decide_eq_true hlt
      obtain ⟨b1, o1, rfl, hb1, hc1⟩ := (H1.out.below hbel) (by have := HL.out; omega)
      obtain ⟨b2, o2, rfl, hb2, hc2⟩ := (H2.out.below hbel) (by have := HM.out; omega)
      have x1 := List.getElem?_eq_getElem (l := l) (i := k) (by have := HL.out; omega)
      have x2 := List.getElem?_eq_getElem (l := m) (i := k) (by have := HM.out; omega)
      have e1 := hc1 k (by have := HL.out; omega)
      have e2 := hc2 k (by have := HM.out; omega)
      rw [x1] at e1
      rw [x2] at e2
      generalize l[k]'(by have := HL.out; omega) = x at *
      generalize m[k]'(by have := HM.out; omega) = y at *
      have g1 : wr.cell? ⟨b1, o1 + k, none⟩ = some (.int .i64 x) := e1
      have g2 : wr.cell? ⟨b2, o2 + k, none⟩ = some (.int .i64 y) := e2
      have X1 := Lib.hid x1
      have X2 := Lib.hid x2
      clear x1 x2 e1 e2 hc1 hc2 H1 H2
      have f1 : (0 : Int) ≤ (k : Int) := by omega
      have f2 : (k : Int) < (n : Int) := by omega
      by_cases hxy : x = y
      · have d1 : (x != y) = false := by simp [hxy]
        have K2 := Lib.hid (eq_take X1.out X2.out HK.out hxy)
        clear hxy
        go_wp2
        go_quiet (fail)
        go_wp2
        exact ⟨⟨k + 1, by omega, by first | rfl | go_num, K2, below_drewN hbel _⟩, by simp [intOf]; omega⟩
      · have d1 : (x != y) = true := by simp [hxy]
        have e : r = false := by
          rw [HR.out]
          refine decide_eq_false fun e => hxy ?_
          have a := X1.out
          rw [e, X2.out] at a
          injection a with a
          exact a.symm
        subst e
        clear hxy
        go_wp2
        go_quiet (fail)
        go_wp2
        go_ret
        exact ⟨rfl, below_drewN hbel _⟩
    · have t0 : decide (k < n) = false := decide_eq_false hlt
      obtain rfl : k = n := by omega
      have e : r = true := by
        rw [HR.out]
        refine decide_eq_true ?_
        have := HK.out
        rwa [List.take_of_length_le (by have := HL.out; omega), List.take_of_length_le (by have := HM.out; omega)] at this
      subst e
      go_wp2
      go_ret
      exact ⟨rfl, hbel⟩
/-- Two could be one: part by part. -/
theorem jnB_eq {a b : Bp} (ha : okU a.u) (hb : okU b.u) : decide (jnB a b) = ((a.n == b.n) && ((b.lo == a.hi + 1) && ((a.u.length == b.u.length) && ((lastU b.u == lastU a.u + (b.lo - a.lo)) && decide (a.u.take (a.u.length - 1) = b.u.take (a.u.length - 1)))))) := by
  rcases List.eq_nil_or_concat a.u with e1 | ⟨p, x, e1⟩
  · exact absurd e1 ha.ne
  · rcases List.eq_nil_or_concat b.u with e2 | ⟨q, y, e2⟩
    · exact absurd e2 hb.ne
    · rw [List.concat_eq_append] at e1 e2
      show decide (a.n = b.n ∧ b.lo = a.hi + 1 ∧ b.u = addU a.u (b.lo - a.lo)) = _
      rw [e1, e2, addU_snoc, lastU_snoc, lastU_snoc, Bool.eq_iff_iff]
      simp only [decide_eq_true_eq, Bool.and_eq_true, beq_iff_eq, List.length_append, List.length_cons, List.length_nil, Nat.zero_add, Nat.add_sub_cancel, List.take_left']
      constructor
      · rintro ⟨h1, h2, h3⟩
        obtain ⟨h4, h5⟩ := List.append_inj' h3 rfl
        subst h4
        injection h5 with h5
        exact ⟨h1, h2, rfl, h5, by simp⟩
      · rintro ⟨h1, h2, h3, h4, h5⟩
        refine ⟨h1, h2, ?_⟩
        rw [List.take_left' (l₁ := q) (by omega)] at h5
        rw [h4, h5]
set_option maxRecDepth 100000 in
set_option maxHeartbeats 4000000 in
theorem dJoins_any (a b : Me) (w : World) (hua : Un w a.a a.c a.b.u) (hub : Un w b.a b.c b.b.u) (ha : Sb a.b) (hb : Sb b.b) :
    Calls Try.prog 49 #[fv a, fv b] w fun e w' => e = .returned (.bool (decide (jnB a.b b.b))) ∧ Below w.heap.size w w' := by
  obtain ⟨s1, s2, s3, s4, s5⟩ := ha
  obtain ⟨r1, r2, r3, r4, r5⟩ := hb
  have a1 := saneB_top s1
  have a2 := saneB_top s2
  have b1 := saneB_top r1
  have K1 := Lib.hid (fun W (hW : Below w.heap.size w W) => lastUnit_any a b.b.lo W (hua.over hW).si s4 a1.1 a1.2.1 b1.1 (by omega))
  rw [jnB_eq s4 r4]
  have hh : 0 ≤ a.b.hi ∧ a.b.hi < 4294967296 := ⟨a2.1, a2.2.1⟩
  obtain ⟨q, hq⟩ : ∃ q, a.b.u.length = q + 1 := ⟨a.b.u.length - 1, by have := s4.1; omega⟩
  have hq64 : q < 64 := by have := s4.2.1; omega
  obtain ⟨m, hm⟩ : ∃ m, m = b.b.u.length := ⟨_, rfl⟩
  have hLb : b.b.u.length = q + 1 → b.b.u[q]? = some (lastU b.b.u) := fun e => lastU_at e
  generalize lastU a.b.u + (b.b.lo - a.b.lo) = La at *
  generalize lastU b.b.u = Lb at *
  have hac := hua.c0
  have hbc := hub.c0
  have HQ := Lib.hid hq
  have HM := Lib.hid hm
  have HUA := Lib.hid hua
  have HUB := Lib.hid hub
  have HLB := Lib.hid hLb
  unfold fv at *
  rw [hq] at K1 hac ⊢
  rw [← hm] at hbc ⊢
  rw [Nat.add_sub_cancel]
  clear s1 s2 s3 s4 s5 r1 r2 r3 r4 r5 a1 a2 b1 hq hm hua hub hLb
  cases d1 : (a.b.n == b.b.n) with
  | false =>
    have d1' : (a.b.n != b.b.n) = true := by simp [bne, d1]
    go_enter Try.func49, Try.ntmps49
    go_wp2
    go_ret
    exact ⟨rfl, ((Below.refl _ _).alloc (Nat.le_refl _) _).alloc (by simp) _⟩
  | true =>
    have d1' : (a.b.n != b.b.n) = false := by simp [bne, d1]
    have hwr : IntKind.i64.wrap (a.b.hi + 1) = a.b.hi + 1 := IntWalk.i64_in _ (by omega)
    cases d2 : (b.b.lo == a.b.hi + 1) with
    | false =>
      have d2' : (b.b.lo != a.b.hi + 1) = true := by simp [bne, d2]
      go_enter Try.func49, Try.ntmps49
      go_wp2
      go_ret
      exact ⟨rfl, ((Below.refl _ _).alloc (Nat.le_refl _) _).alloc (by simp) _⟩
    | true =>
      have d2' : (b.b.lo != a.b.hi + 1) = false := by simp [bne, d2]
      by_cases hmq : m = q + 1
      · subst hmq
        have HLB2 := Lib.hid (HLB.out HM.out.symm)
        obtain ⟨ba, oa, ea, hba, hca⟩ := HUA.out.si (by have := HQ.out; omega)
        obtain ⟨bb, ob, eb, hbb, hcb⟩ := HUB.out.si (by have := HM.out; omega)
        have hcell := hcb q (by have := HM.out; omega)
        rw [HLB2.out] at hcell
        have hcell2 : w.cell? ⟨bb, ob + q, none⟩ = some (.int .i64 Lb) := hcell
        clear hcell hca hcb hba
        have f0 : ((q + 1 == q + 1) = true) := by simp
        rw [f0, Bool.true_and]
        have wa : Below w.heap.size w ((w.alloc (.cells #[.int .i64 a.b.n, .int .i64 a.b.lo, .int .i64 a.b.hi, .slice (some ⟨ba, oa, none⟩) (q + 1) a.c] 25)).alloc (.cells #[.int .i64 b.b.n, .int .i64 b.b.lo, .int .i64 b.b.hi, .slice (some ⟨bb, ob, none⟩) (q + 1) b.c] 25)) := ((Below.refl _ _).alloc (Nat.le_refl _) _).alloc (by simp) _
        have hzw : w.heap.size + 1 < ((w.alloc (.cells #[.int .i64 a.b.n, .int .i64 a.b.lo, .int .i64 a.b.hi, .slice (some ⟨ba, oa, none⟩) (q + 1) a.c] 25)).alloc (.cells #[.int .i64 b.b.n, .int .i64 b.b.lo, .int .i64 b.b.hi, .slice (some ⟨bb, ob, none⟩) (q + 1) b.c] 25)).heap.size := by simp
        have xc : (fun w' => (w'.cell? ⟨w.heap.size, 0, none⟩ = some (.int .i64 a.b.n) ∧ w'.cell? ⟨w.heap.size, 1, none⟩ = some (.int .i64 a.b.lo) ∧ w'.cell? ⟨w.heap.size, 2, none⟩ = some (.int .i64 a.b.hi) ∧ w'.cell? ⟨w.heap.size, 3, none⟩ = some (.slice (some ⟨ba, oa, none⟩) (q + 1) a.c)) ∧ (w'.cell? ⟨w.heap.size + 1, 0, none⟩ = some (.int .i64 b.b.n) ∧ w'.cell? ⟨w.heap.size + 1, 1, none⟩ = some (.int .i64 b.b.lo) ∧ w'.cell? ⟨w.heap.size + 1, 2, none⟩ = some (.int .i64 b.b.hi) ∧ w'.cell? ⟨w.heap.size + 1, 3, none⟩ = some (.slice (some ⟨bb, ob, none⟩) (q + 1) b.c)) ∧ w'.cell? ⟨bb, ob + q, none⟩ = some (.int .i64 Lb)) ((w.alloc (.cells #[.int .i64 a.b.n, .int .i64 a.b.lo, .int .i64 a.b.hi, .slice (some ⟨ba, oa, none⟩) (q + 1) a.c] 25)).alloc (.cells #[.int .i64 b.b.n, .int .i64 b.b.lo, .int .i64 b.b.hi, .slice (some ⟨bb, ob, none⟩) (q + 1) b.c] 25)) := ⟨⟨by simp, by simp, by simp, by simp⟩, ⟨by simp, by simp, by simp, by simp⟩, (wa.cell (p := ⟨bb, ob + q, none⟩) hbb).trans hcell2⟩
        have HH : Hid (∀ w', Below ((w.alloc (.cells #[.int .i64 a.b.n, .int .i64 a.b.lo, .int .i64 a.b.hi, .slice (some ⟨ba, oa, none⟩) (q + 1) a.c] 25)).alloc (.cells #[.int .i64 b.b.n, .int .i64 b.b.lo, .int .i64 b.b.hi, .slice (some ⟨bb, ob, none⟩) (q + 1) b.c] 25)).heap.size ((w.alloc (.cells #[.int .i64 a.b.n, .int .i64 a.b.lo, .int .i64 a.b.hi, .slice (some ⟨ba, oa, none⟩) (q + 1) a.c] 25)).alloc (.cells #[.int .i64 b.b.n, .int .i64 b.b.lo, .int .i64 b.b.hi, .slice (some ⟨bb, ob, none⟩) (q + 1) b.c] 25)) w' → (fun w' => (w'.cell? ⟨w.heap.size, 0, none⟩ = some (.int .i64 a.b.n) ∧ w'.cell? ⟨w.heap.size, 1, none⟩ = some (.int .i64 a.b.lo) ∧ w'.cell? ⟨w.heap.size, 2, none⟩ = some (.int .i64 a.b.hi) ∧ w'.cell? ⟨w.heap.size, 3, none⟩ = some (.slice (some ⟨ba, oa, none⟩) (q + 1) a.c)) ∧ (w'.cell? ⟨w.heap.size + 1, 0, none⟩ = some (.int .i64 b.b.n) ∧ w'.cell? ⟨w.heap.size + 1, 1, none⟩ = some (.int .i64 b.b.lo) ∧ w'.cell? ⟨w.heap.size + 1, 2, none⟩ = some (.int .i64 b.b.hi) ∧ w'.cell? ⟨w.heap.size + 1, 3, none⟩ = some (.slice (some ⟨bb, ob, none⟩) (q + 1) b.c)) ∧ w'.cell? ⟨bb, ob + q, none⟩ = some (.int .i64 Lb)) w') := Lib.hid fun w' hb => by
          have k0 : ∀ i, w'.cell? ⟨w.heap.size, i, none⟩ = ((w.alloc (.cells #[.int .i64 a.b.n, .int .i64 a.b.lo, .int .i64 a.b.hi, .slice (some ⟨ba, oa, none⟩) (q + 1) a.c] 25)).alloc (.cells #[.int .i64 b.b.n, .int .i64 b.b.lo, .int .i64 b.b.hi, .slice (some ⟨bb, ob, none⟩) (q + 1) b.c] 25)).cell? ⟨w.heap.size, i, none⟩ := fun i => hb.cell (p := ⟨w.heap.size, i, none⟩) (by show w.heap.size < _; omega)
          have k1 : ∀ i, w'.cell? ⟨w.heap.size + 1, i, none⟩ = ((w.alloc (.cells #[.int .i64 a.b.n, .int .i64 a.b.lo, .int .i64 a.b.hi, .slice (some ⟨ba, oa, none⟩) (q + 1) a.c] 25)).alloc (.cells #[.int .i64 b.b.n, .int .i64 b.b.lo, .int .i64 b.b.hi, .slice (some ⟨bb, ob, none⟩) (q + 1) b.c] 25)).cell? ⟨w.heap.size + 1, i, none⟩ := fun i => hb.cell (p := ⟨w.heap.size + 1, i, none⟩) hzw
          obtain ⟨⟨p0, p1, p2, p3⟩, ⟨q0, q1, q2, q3⟩, u0⟩ := xc
          exact ⟨⟨(k0 _).trans p0, (k0 _).trans p1, (k0 _).trans p2, (k0 _).trans p3⟩, ⟨(k1 _).trans q0, (k1 _).trans q1, (k1 _).trans q2, (k1 _).trans q3⟩, (hb.cell (p := ⟨bb, ob + q, none⟩) (by show bb < _; omega)).trans u0⟩
        clear xc
        have KB : Hid (∀ W, Below ((w.alloc (.cells #[.int .i64 a.b.n, .int .i64 a.b.lo, .int .i64 a.b.hi, .slice (some ⟨ba, oa, none⟩) (q + 1) a.c] 25)).alloc (.cells #[.int .i64 b.b.n, .int .i64 b.b.lo, .int .i64 b.b.hi, .slice (some ⟨bb, ob, none⟩) (q + 1) b.c] 25)).heap.size ((w.alloc (.cells #[.int .i64 a.b.n, .int .i64 a.b.lo, .int .i64 a.b.hi, .slice (some ⟨ba, oa, none⟩) (q + 1) a.c] 25)).alloc (.cells #[.int .i64 b.b.n, .int .i64 b.b.lo, .int .i64 b.b.hi, .slice (some ⟨bb, ob, none⟩) (q + 1) b.c] 25)) W → Below w.heap.size w W) := Lib.hid fun W hW => wa.trans (hW.mono (by omega))
        have z0 : Below ((w.alloc (.cells #[.int .i64 a.b.n, .int .i64 a.b.lo, .int .i64 a.b.hi, .slice (some ⟨ba, oa, none⟩) (q + 1) a.c] 25)).alloc (.cells #[.int .i64 b.b.n, .int .i64 b.b.lo, .int .i64 b.b.hi, .slice (some ⟨bb, ob, none⟩) (q + 1) b.c] 25)).heap.size ((w.alloc (.cells #[.int .i64 a.b.n, .int .i64 a.b.lo, .int .i64 a.b.hi, .slice (some ⟨ba, oa, none⟩) (q + 1) a.c] 25)).alloc (.cells #[.int .i64 b.b.n, .int .i64 b.b.lo, .int .i64 b.b.hi, .slice (some ⟨bb, ob, none⟩) (q + 1) b.c] 25)) ((w.alloc (.cells #[.int .i64 a.b.n, .int .i64 a.b.lo, .int .i64 a.b.hi, .slice (some ⟨ba, oa, none⟩) (q + 1) a.c] 25)).alloc (.cells #[.int .i64 b.b.n, .int .i64 b.b.lo, .int .i64 b.b.hi, .slice (some ⟨bb, ob, none⟩) (q + 1) b.c] 25)).drew := (Below.refl _ _).drew
        have K3 : Hid (∀ W, Below w.heap.size w W → Calls Try.prog 55 #[.slice (some ⟨ba, oa, none⟩) q a.c, .slice (some ⟨bb, ob, none⟩) q b.c] W fun e w' => e = .returned (.bool (decide (a.b.u.take q = b.b.u.take q))) ∧ Below W.heap.size W w') := Lib.hid fun W hW => by
          have h1 := ((HUA.out.over hW).si).take q
          have h2 := ((HUB.out.over hW).si).take q
          rw [ea] at h1
          rw [eb] at h2
          exact Equal_any _ _ _ _ q _ _ W (by rw [List.length_take, HQ.out]; omega) (by rw [List.length_take, ← HM.out]; omega) (by omega) h1 h2
        rw [ea] at K1 ⊢
        rw [eb]
        have fq1 : q ≤ a.c := by omega
        have fq2 : q ≤ b.c := by omega
        have fq3 : (0 : Int) ≤ (q : Int) := by omega
        have fq4 : (q : Int) < (q : Int) + 1 := by omega
        clear wa hzw ea eb hcell2 hh hbb
        cases d3 : (Lb == La) with
        | true =>
          generalize decide (a.b.u.take q = b.b.u.take q) = rr at *
          go_enter Try.func49, Try.ntmps49
          go_wp2_with fail
          go_region_held (fun w' => (w'.cell? ⟨w.heap.size, 0, none⟩ = some (.int .i64 a.b.n) ∧ w'.cell? ⟨w.heap.size, 1, none⟩ = some (.int .i64 a.b.lo) ∧ w'.cell? ⟨w.heap.size, 2, none⟩ = some (.int .i64 a.b.hi) ∧ w'.cell? ⟨w.heap.size, 3, none⟩ = some (.slice (some ⟨ba, oa, none⟩) (q + 1) a.c)) ∧ (w'.cell? ⟨w.heap.size + 1, 0, none⟩ = some (.int .i64 b.b.n) ∧ w'.cell? ⟨w.heap.size + 1, 1, none⟩ = some (.int .i64 b.b.lo) ∧ w'.cell? ⟨w.heap.size + 1, 2, none⟩ = some (.int .i64 b.b.hi) ∧ w'.cell? ⟨w.heap.size + 1, 3, none⟩ = some (.slice (some ⟨bb, ob, none⟩) (q + 1) b.c)) ∧ w'.cell? ⟨bb, ob + q, none⟩ = some (.int .i64 Lb))
            (first | with_reducible exact HH.out _ z9 | with_reducible exact HH.out _ z8 | with_reducible exact HH.out _ z0)
            (first
              | (go_at_call 36; (with_reducible refine (K1.out _ (KB.out _ z0)).mono ?_); rintro e x1 ⟨rfl, y8⟩; have z8 := z0.trans (y8.mono z0.size))
              | (go_at_call 55; (with_reducible refine (K3.out _ (KB.out _ z8)).mono ?_); rintro e x2 ⟨rfl, y9⟩; have z9 := z8.trans (y9.mono z8.size)))
          all_goals
            go_wp2
            go_ret
            exact ⟨rfl, KB.out _ z9⟩
        | false =>
          clear K3
          go_enter Try.func49, Try.ntmps49
          go_wp2_with fail
          refine wp_region_held_drew (S := fun w' => (w'.cell? ⟨w.heap.size, 0, none⟩ = some (.int .i64 a.b.n) ∧ w'.cell? ⟨w.heap.size, 1, none⟩ = some (.int .i64 a.b.lo) ∧ w'.cell? ⟨w.heap.size, 2, none⟩ = some (.int .i64 a.b.hi) ∧ w'.cell? ⟨w.heap.size, 3, none⟩ = some (.slice (some ⟨ba, oa, none⟩) (q + 1) a.c)) ∧ (w'.cell? ⟨w.heap.size + 1, 0, none⟩ = some (.int .i64 b.b.n) ∧ w'.cell? ⟨w.heap.size + 1, 1, none⟩ = some (.int .i64 b.b.lo) ∧ w'.cell? ⟨w.heap.size + 1, 2, none⟩ = some (.int .i64 b.b.hi) ∧ w'.cell? ⟨w.heap.size + 1, 3, none⟩ = some (.slice (some ⟨bb, ob, none⟩) (q + 1) b.c)) ∧ w'.cell? ⟨bb, ob + q, none⟩ = some (.int .i64 Lb)) (by kernel_rfl) (HH.out _ z0) (fun hS0 => ?_)
          try dsimp only at hS0
          refine wpAnyH_take (i := 0) (oi := { dst := some 32, op := Op.fieldAddr 25 (Operand.tmp 3) 3, type := 0, pos := "dest.go:86", after := #[], guard := none }) (v := ?_) rfl (by kernel_rfl) (by kernel_rfl) (by kernel_rfl) (fun _ _ _ h => h) (Or.inl ⟨by rfl, ?_⟩) (by assumption) ?_
          rotate_left
          · intro w' hSw; obtain ⟨⟨d0, d1, d2, d3⟩, ⟨e0, e1, e2, e3⟩, u0⟩ := hSw; go_simp; try with_reducible rfl
          simp only [Act.put, List.setIfInBounds_toArray, List.set_cons_zero, List.set_cons_succ]
          refine wpAnyH_take (i := 1) (oi := { dst := some 33, op := Op.load 23 (Operand.tmp 32), type := 23, pos := "dest.go:86", after := #[{ on := 0, ground := Ground.data }], guard := none }) (v := ?_) rfl (by kernel_rfl) (by kernel_rfl) (by kernel_rfl) (fun _ _ _ h => h) (Or.inl ⟨by rfl, ?_⟩) (by assumption) ?_
          rotate_left
          · intro w' hSw; obtain ⟨⟨d0, d1, d2, d3⟩, ⟨e0, e1, e2, e3⟩, u0⟩ := hSw; go_simp; try with_reducible rfl
          simp only [Act.put, List.setIfInBounds_toArray, List.set_cons_zero, List.set_cons_succ]
          refine wpAnyH_take (i := 2) (oi := { dst := some 34, op := Op.move (Operand.tmp 5), type := 3, pos := "dest.go:86", after := #[], guard := none }) (v := ?_) rfl (by kernel_rfl) (by kernel_rfl) (by kernel_rfl) (fun _ _ _ h => h) (Or.inl ⟨by rfl, ?_⟩) (by assumption) ?_
          rotate_left
          · intro w' hSw; obtain ⟨⟨d0, d1, d2, d3⟩, ⟨e0, e1, e2, e3⟩, u0⟩ := hSw; go_simp; try with_reducible rfl
          simp only [Act.put, List.setIfInBounds_toArray, List.set_cons_zero, List.set_cons_succ]
          refine wpAnyH_take (i := 3) (oi := { dst := some 35, op := Op.indexAddr 23 (Operand.tmp 33) (Operand.tmp 34), type := 0, pos := "dest.go:86", after := #[{ on := 1, ground := Ground.data }, { on := 2, ground := Ground.data }], guard := none }) (v := ?_) rfl (by kernel_rfl) (by kernel_rfl) (by kernel_rfl) (fun _ _ _ h => h) (Or.inl ⟨by rfl, ?_⟩) (by assumption) ?_
          rotate_left
          · intro w' hSw; obtain ⟨⟨d0, d1, d2, d3⟩, ⟨e0, e1, e2, e3⟩, u0⟩ := hSw; go_simp; try with_reducible rfl
          simp only [Act.put, List.setIfInBounds_toArray, List.set_cons_zero, List.set_cons_succ]
          refine wpAnyH_take (i := 4) (oi := { dst := some 36, op := Op.load 3 (Operand.tmp 35), type := 3, pos := "dest.go:86", after := #[{ on := 3, ground := Ground.data }], guard := none }) (v := ?_) rfl (by kernel_rfl) (by kernel_rfl) (by kernel_rfl) (fun _ _ _ h => h) (Or.inl ⟨by rfl, ?_⟩) (by assumption) ?_
          rotate_left
          · intro w' hSw; obtain ⟨⟨d0, d1, d2, d3⟩, ⟨e0, e1, e2, e3⟩, u0⟩ := hSw; go_simp; try with_reducible rfl
          simp only [Act.put, List.setIfInBounds_toArray, List.set_cons_zero, List.set_cons_succ]
          refine wpAnyH_take (i := 5) (oi := { dst := some 37, op := Op.load 25 (Operand.tmp 2), type := 25, pos := "dest.go:86", after := #[], guard := none }) (v := ?_) rfl (by kernel_rfl) (by kernel_rfl) (by kernel_rfl) (fun _ _ _ h => h) (Or.inl ⟨by rfl, ?_⟩) (by assumption) ?_
          rotate_left
          · intro w' hSw; obtain ⟨⟨d0, d1, d2, d3⟩, ⟨e0, e1, e2, e3⟩, u0⟩ := hSw; go_simp; try with_reducible rfl
          simp only [Act.put, List.setIfInBounds_toArray, List.set_cons_zero, List.set_cons_succ]
          refine wpAnyH_take (i := 6) (oi := { dst := some 38, op := Op.fieldAddr 25 (Operand.tmp 3) 1, type := 0, pos := "dest.go:86", after := #[], guard := none }) (v := ?_) rfl (by kernel_rfl) (by kernel_rfl) (by kernel_rfl) (fun _ _ _ h => h) (Or.inl ⟨by rfl, ?_⟩) (by assumption) ?_
          rotate_left
          · intro w' hSw; obtain ⟨⟨d0, d1, d2, d3⟩, ⟨e0, e1, e2, e3⟩, u0⟩ := hSw; go_simp; try with_reducible rfl
          simp only [Act.put, List.setIfInBounds_toArray, List.set_cons_zero, List.set_cons_succ]
          refine wpAnyH_take (i := 7) (oi := { dst := some 39, op := Op.load 3 (Operand.tmp 38), type := 3, pos := "dest.go:86", after := #[{ on := 6, ground := Ground.data }], guard := none }) (v := ?_) rfl (by kernel_rfl) (by kernel_rfl) (by kernel_rfl) (fun _ _ _ h => h) (Or.inl ⟨by rfl, ?_⟩) (by assumption) ?_
          rotate_left
          · intro w' hSw; obtain ⟨⟨d0, d1, d2, d3⟩, ⟨e0, e1, e2, e3⟩, u0⟩ := hSw; go_simp; try with_reducible rfl
          simp only [Act.put, List.setIfInBounds_toArray, List.set_cons_zero, List.set_cons_succ]
          refine wpAnyH_ready (rs := [8]) (by kernel_rfl) (by simp) (AllReadyH.cons rfl (fun K hK => ?_) AllReadyH.nil)
          go_simp
          go_wp2_with ((go_at_call 36; (with_reducible refine (K1.out _ (KB.out _ z0)).mono ?_); rintro e x1 ⟨rfl, y8⟩))
          have z8 := z0.trans (y8.mono z0.size)
          refine hK.out _ _ (HH.out _ z8) (fun hS8 => ?_)
          clear hK K
          try dsimp only at hS8
          refine wpAnyH_take (i := 9) (oi := { dst := some 41, op := Op.binOp BinOp.eql 3 (Operand.tmp 36) (Operand.tmp 40) 3, type := 4, pos := "dest.go:86", after := #[{ on := 4, ground := Ground.data }, { on := 8, ground := Ground.data }], guard := none }) (v := ?_) rfl (by kernel_rfl) (by kernel_rfl) (by kernel_rfl) (fun _ _ _ h => h) (Or.inl ⟨by rfl, ?_⟩) (by assumption) ?_
          rotate_left
          · intro w' hSw; obtain ⟨⟨d0, d1, d2, d3⟩, ⟨e0, e1, e2, e3⟩, u0⟩ := hSw; go_simp; try with_reducible rfl
          simp only [Act.put, List.setIfInBounds_toArray, List.set_cons_zero, List.set_cons_succ]
          refine wpAnyH_take (i := 10) (oi := { dst := some 42, op := Op.move (Operand.tmp 41), type := 4, pos := "dest.go:86", after := #[{ on := 9, ground := Ground.data }, { on := 8, ground := Ground.chain }], guard := none }) (v := ?_) rfl (by kernel_rfl) (by kernel_rfl) (by kernel_rfl) (fun _ _ _ h => h) (Or.inl ⟨by rfl, ?_⟩) (by assumption) ?_
          rotate_left
          · intro w' hSw; obtain ⟨⟨d0, d1, d2, d3⟩, ⟨e0, e1, e2, e3⟩, u0⟩ := hSw; go_simp; try with_reducible rfl
          simp only [Act.put, List.setIfInBounds_toArray, List.set_cons_zero, List.set_cons_succ]
          refine wpAnyH_take (i := 11) (oi := { dst := some 43, op := Op.fieldAddr 25 (Operand.tmp 2) 3, type := 0, pos := "dest.go:86", after := #[{ on := 10, ground := Ground.guard }], guard := some (10, true) }) (v := undef) rfl (by kernel_rfl) (by kernel_rfl) (by kernel_rfl) (fun _ _ _ h => h) (Or.inr ⟨by rfl, rfl⟩) (by assumption) ?_
          simp only [Act.put, List.setIfInBounds_toArray, List.set_cons_zero, List.set_cons_succ]
          refine wpAnyH_take (i := 12) (oi := { dst := some 44, op := Op.load 23 (Operand.tmp 43), type := 23, pos := "dest.go:86", after := #[{ on := 11, ground := Ground.data }, { on := 10, ground := Ground.guard }], guard := some (10, true) }) (v := undef) rfl (by kernel_rfl) (by kernel_rfl) (by kernel_rfl) (fun _ _ _ h => h) (Or.inr ⟨by rfl, rfl⟩) (by assumption) ?_
          simp only [Act.put, List.setIfInBounds_toArray, List.set_cons_zero, List.set_cons_succ]
          refine wpAnyH_take (i := 13) (oi := { dst := some 45, op := Op.move (Operand.tmp 5), type := 3, pos := "dest.go:86", after := #[{ on := 10, ground := Ground.guard }], guard := some (10, true) }) (v := undef) rfl (by kernel_rfl) (by kernel_rfl) (by kernel_rfl) (fun _ _ _ h => h) (Or.inr ⟨by rfl, rfl⟩) (by assumption) ?_
          simp only [Act.put, List.setIfInBounds_toArray, List.set_cons_zero, List.set_cons_succ]
          refine wpAnyH_take (i := 14) (oi := { dst := some 46, op := Op.slice 23 (Operand.tmp 44) none (some (Operand.tmp 45)) none, type := 23, pos := "dest.go:86", after := #[{ on := 12, ground := Ground.data }, { on := 13, ground := Ground.data }, { on := 10, ground := Ground.guard }], guard := some (10, true) }) (v := undef) rfl (by kernel_rfl) (by kernel_rfl) (by kernel_rfl) (fun _ _ _ h => h) (Or.inr ⟨by rfl, rfl⟩) (by assumption) ?_
          simp only [Act.put, List.setIfInBounds_toArray, List.set_cons_zero, List.set_cons_succ]
          refine wpAnyH_take (i := 15) (oi := { dst := some 47, op := Op.fieldAddr 25 (Operand.tmp 3) 3, type := 0, pos := "dest.go:86", after := #[{ on := 10, ground := Ground.guard }], guard := some (10, true) }) (v := undef) rfl (by kernel_rfl) (by kernel_rfl) (by kernel_rfl) (fun _ _ _ h => h) (Or.inr ⟨by rfl, rfl⟩) (by assumption) ?_
          simp only [Act.put, List.setIfInBounds_toArray, List.set_cons_zero, List.set_cons_succ]
          refine wpAnyH_take (i := 16) (oi := { dst := some 48, op := Op.load 23 (Operand.tmp 47), type := 23, pos := "dest.go:86", after := #[{ on := 15, ground := Ground.data }, { on := 10, ground := Ground.guard }], guard := some (10, true) }) (v := undef) rfl (by kernel_rfl) (by kernel_rfl) (by kernel_rfl) (fun _ _ _ h => h) (Or.inr ⟨by rfl, rfl⟩) (by assumption) ?_
          simp only [Act.put, List.setIfInBounds_toArray, List.set_cons_zero, List.set_cons_succ]
          refine wpAnyH_take (i := 17) (oi := { dst := some 49, op := Op.move (Operand.tmp 5), type := 3, pos := "dest.go:86", after := #[{ on := 10, ground := Ground.guard }], guard := some (10, true) }) (v := undef) rfl (by kernel_rfl) (by kernel_rfl) (by kernel_rfl) (fun _ _ _ h => h) (Or.inr ⟨by rfl, rfl⟩) (by assumption) ?_
          simp only [Act.put, List.setIfInBounds_toArray, List.set_cons_zero, List.set_cons_succ]
          refine wpAnyH_take (i := 18) (oi := { dst := some 50, op := Op.slice 23 (Operand.tmp 48) none (some (Operand.tmp 49)) none, type := 23, pos := "dest.go:86", after := #[{ on := 16, ground := Ground.data }, { on := 17, ground := Ground.data }, { on := 10, ground := Ground.guard }], guard := some (10, true) }) (v := undef) rfl (by kernel_rfl) (by kernel_rfl) (by kernel_rfl) (fun _ _ _ h => h) (Or.inr ⟨by rfl, rfl⟩) (by assumption) ?_
          simp only [Act.put, List.setIfInBounds_toArray, List.set_cons_zero, List.set_cons_succ]
          refine wpAnyH_take (i := 19) (oi := { dst := some 51, op := Op.call { callee := Callee.value (Operand.func 55), args := #[Operand.tmp 46, Operand.tmp 50], argTypes := #[23, 23] }, type := 4, pos := "dest.go:86", after := #[{ on := 14, ground := Ground.data }, { on := 18, ground := Ground.data }, { on := 10, ground := Ground.chain }, { on := 10, ground := Ground.guard }], guard := some (10, true) }) (v := undef) rfl (by kernel_rfl) (by kernel_rfl) (by kernel_rfl) (fun _ _ _ h => h) (Or.inr ⟨by rfl, rfl⟩) (by assumption) ?_
          simp only [Act.put, List.setIfInBounds_toArray, List.set_cons_zero, List.set_cons_succ]
          refine wpAnyH_take (i := 20) (oi := { dst := some 52, op := Op.pick (Operand.tmp 42) (Operand.tmp 51) (Operand.const (Value.bool false)), type := 4, pos := "dest.go:86", after := #[{ on := 10, ground := Ground.data }, { on := 19, ground := Ground.data }], guard := none }) (v := ?_) rfl (by kernel_rfl) (by kernel_rfl) (by kernel_rfl) (fun _ _ _ h => h) (Or.inl ⟨by rfl, ?_⟩) (by assumption) ?_
          rotate_left
          · intro w' hSw; obtain ⟨⟨d0, d1, d2, d3⟩, ⟨e0, e1, e2, e3⟩, u0⟩ := hSw; go_simp; try with_reducible rfl
          simp only [Act.put, List.setIfInBounds_toArray, List.set_cons_zero, List.set_cons_succ]
          refine wpAnyH_take (i := 21) (oi := { dst := some 4, op := Op.assign (Operand.tmp 52), type := 4, pos := "dest.go:86", after := #[{ on := 20, ground := Ground.data }, { on := 19, ground := Ground.chain }, { on := 0, ground := Ground.phase }, { on := 1, ground := Ground.phase }, { on := 2, ground := Ground.phase }, { on := 3, ground := Ground.phase }, { on := 4, ground := Ground.phase }, { on := 5, ground := Ground.phase }, { on := 6, ground := Ground.phase }, { on := 7, ground := Ground.phase }, { on := 8, ground := Ground.phase }, { on := 9, ground := Ground.phase }, { on := 10, ground := Ground.phase }, { on := 11, ground := Ground.phase }, { on := 12, ground := Ground.phase }, { on := 13, ground := Ground.phase }, { on := 14, ground := Ground.phase }, { on := 15, ground := Ground.phase }, { on := 16, ground := Ground.phase }, { on := 17, ground := Ground.phase }, { on := 18, ground := Ground.phase }, { on := 19, ground := Ground.phase }, { on := 20, ground := Ground.phase }], guard := none }) (v := ?_) rfl (by kernel_rfl) (by kernel_rfl) (by kernel_rfl) (fun _ _ _ h => h) (Or.inl ⟨by rfl, ?_⟩) (by assumption) ?_
          rotate_left
          · intro w' hSw; obtain ⟨⟨d0, d1, d2, d3⟩, ⟨e0, e1, e2, e3⟩, u0⟩ := hSw; go_simp; try with_reducible rfl
          simp only [Act.put, List.setIfInBounds_toArray, List.set_cons_zero, List.set_cons_succ]
          refine wpAnyH_done (by kernel_rfl) ?_ _
          go_wp2
          go_ret
          exact ⟨rfl, KB.out _ z8⟩
      · have f0 : ((q + 1 == m) = false) := by simp; omega
        have f1 : (((q + 1 : Nat) : Int) != (m : Int)) = true := by simp; omega
        have f2 : ((q : Int) + 1 != (m : Int)) = true := by simp; omega
        rw [f0, Bool.false_and, Bool.and_false, Bool.and_false]
        go_enter Try.func49, Try.ntmps49
        go_wp2
        go_ret
        exact ⟨rfl, ((Below.refl _ _).alloc (Nat.le_refl _) _).alloc (by simp) _⟩
end Go.Proofs.Ytkkochjdimegpaa
