/-
  The document's own Holds.
-/
import Derived.Test.YtnojapffmcnbaaaRefRect2
import Derived.Deep.RegionHeld
namespace Go.Proofs.Ytnojapffmcnbaaa
open Go.RowKit

theorem num_be : ∀ (n : Nat) (v : Int), 0 ≤ v → v < 256 ^ n → num (beL n v) = v
  | 0, v, h0, h1 => by simp at h1; simp [beL, num]; omega
  | n + 1, v, h0, h1 => by
    have e : (256 : Int) ^ (n + 1) = 256 ^ n * 256 := Int.pow_succ 256 n
    rw [e] at h1
    have ih := num_be n (v / 256) (by omega) (by omega)
    have hb := low_byte v
    rw [beL, num_snoc, ih]
    omega
theorem num_code {n v : Int} (h : saneB n v = true) : num (codeL n v) = v := by
  have q := (saneB_iff n v).1 h
  rw [codeL_sane h]
  exact num_be n.toNat v q.2.2.1 q.2.2.2
/-- A code's bytes fit wholly just if it is in it. -/
theorem fit_code {a : Rc} {v : Int} (ha : saneR a = true) (hv : saneB a.n v = true) : inC a a.n v = decide (fitC a (codeL a.n v) = a.n.toNat) := by
  have hl := code_len hv
  have := fit_in ha (l := codeL a.n v) (by omega)
  rwa [List.take_of_length_le (by omega), num_code hv] at this
set_option maxRecDepth 100000 in
set_option maxHeartbeats 2000000 in
theorem rHolds_any (a b : Rc) (w : World) :
    Calls Try.prog 22 #[.agg #[.int .i64 a.n, .int .i64 a.lo, .int .i64 a.hi], .agg #[.int .i64 b.n, .int .i64 b.lo, .int .i64 b.hi]] w fun e w' => e = .returned (.bool (hoC a b)) ∧ Below w.heap.size w w' := by
  have k1 := rcSaneR_any a
  have k2 := rcSaneR_any b
  cases ha : saneR a with
  | false =>
    have hh : hoC a b = false := by unfold hoC; rw [ha]; rfl
    rw [hh]
    rw [ha] at k1
    have K1 := Lib.hid k1
    clear k1 k2 ha hh
    go_enter Try.func22, Try.ntmps22
    go_wp2_with fail
    refine (K1.out _).mono ?_
    rintro e w1 ⟨rfl, hb1⟩
    go_wp2
    go_ret
    exact ⟨rfl, (((Below.refl _ _).alloc (Nat.le_refl _) _).alloc (by simp) _).trans (hb1.mono (by simp; omega))⟩
  | true =>
    rw [ha] at k1
    have K1 := Lib.hid k1
    clear k1
    cases hb : saneR b with
    | false =>
      have hh : hoC a b = false := by unfold hoC; rw [ha, hb]; rfl
      rw [hh]
      rw [hb] at k2
      have K2 := Lib.hid k2
      clear k2 ha hb hh
      go_enter Try.func22, Try.ntmps22
      go_wp2_with fail
      refine (K1.out _).mono ?_
      rintro e w1 ⟨rfl, hb1⟩
      have v1 : Bx w1 (w.heap.size + 1) b := (Bx.mk (by simp) (by simp) (by simp)).below hb1 (by simp)
      have b1 : Below w.heap.size w w1 := (((Below.refl _ _).alloc (Nat.le_refl _) _).alloc (by simp) _).trans (hb1.mono (by simp; omega))
      clear hb1
      obtain ⟨y0, y1, y2⟩ := id v1
      go_wp2_with fail
      refine (K2.out _).mono ?_
      rintro e w2 ⟨rfl, hb2⟩
      go_wp2
      go_ret
      exact ⟨rfl, b1.trans (hb2.mono b1.size)⟩
    | true =>
      rw [hb] at k2
      have K2 := Lib.hid k2
      clear k2
      have hby := hoC_by a b
      rw [hb, Bool.true_and] at hby
      obtain ⟨R, hR⟩ : ∃ R, R = hoC a b := ⟨_, rfl⟩
      rw [← hR]
      have HR := Lib.hid hR
      clear hR
      go_enter Try.func22, Try.ntmps22
      go_wp2_with fail
      refine (K1.out _).mono ?_
      rintro e w1 ⟨rfl, hb1⟩
      have x1 : Bx w1 w.heap.size a := (Bx.mk (by simp) (by simp) (by simp)).below hb1 (by simp; omega)
      have v1 : Bx w1 (w.heap.size + 1) b := (Bx.mk (by simp) (by simp) (by simp)).below hb1 (by simp)
      have z1 : w.heap.size + 1 < w1.heap.size := by have := hb1.size; simp at this; omega
      have b1 : Below w.heap.size w w1 := (((Below.refl _ _).alloc (Nat.le_refl _) _).alloc (by simp) _).trans (hb1.mono (by simp; omega))
      clear hb1
      obtain ⟨y0, y1, y2⟩ := id v1
      go_wp2_with fail
      refine (K2.out _).mono ?_
      rintro e w2 ⟨rfl, hb2⟩
      have x2 := x1.below hb2 (by omega)
      have v2 := v1.below hb2 z1
      have b2 := b1.trans (hb2.mono b1.size)
      have z2 := Nat.lt_of_lt_of_le z1 hb2.size
      clear y0 y1 y2 hb2 x1 v1 z1 b1
      obtain ⟨y0, y1, y2⟩ := id x2
      obtain ⟨y3, y4, y5⟩ := id v2
      by_cases hn : a.n = b.n
      · have t0 : (a.n != b.n) = false := by simp [hn]
        have sa := (saneR_iff a).1 ha
        have sb := (saneR_iff b).1 hb
        have s1 : saneB a.n b.lo = true := by rw [hn]; exact sb.1
        have s2 : saneB a.n b.hi = true := by rw [hn]; exact sb.2.1
        have f1 := fit_code ha s1
        have f2 := fit_code ha s2
        rw [hn] at f1 f2
        rw [f1, f2] at hby
        have HBY := Lib.hid hby
        obtain ⟨N, hN⟩ : ∃ N : Nat, a.n = (N : Int) := ⟨a.n.toNat, by have := (saneB_iff _ _).1 sa.1; omega⟩
        have e1 : (codeL b.n b.lo).length = N := by rw [code_len sb.1, ← hn]; omega
        have e2 : (codeL b.n b.hi).length = N := by rw [code_len sb.2.1, ← hn]; omega
        have hN4 : N ≤ 4 := by have := (saneB_iff _ _).1 sa.1; omega
        have E1 := Lib.hid e1
        have E2 := Lib.hid e2
        have HNN := Lib.hid hN
        have hbn : b.n.toNat = N := by rw [← hn]; omega
        have HBN := Lib.hid hbn
        have KL := Lib.hid (rlows_any b)
        have KH := Lib.hid (rhighs_any b)
        obtain ⟨p, hp⟩ : ∃ p, p = fitC a (codeL b.n b.lo) := ⟨_, rfl⟩
        obtain ⟨q, hq⟩ : ∃ q, q = fitC a (codeL b.n b.hi) := ⟨_, rfl⟩
        rw [← hp, ← hq] at HBY
        have KF1 : Hid (∀ A c W, Sl W W.heap.size A (codeL b.n b.lo) → Calls Try.prog 18 #[.agg #[.int .i64 a.n, .int .i64 a.lo, .int .i64 a.hi], .slice A N c] W fun e w' => e = .returned (.int .i64 (p : Int)) ∧ Below W.heap.size W w') := Lib.hid (fun A c W h => by have := rFits_any a A c _ W h (by omega); rwa [e1, ← hp] at this)
        have KF2 : Hid (∀ A c W, Sl W W.heap.size A (codeL b.n b.hi) → Calls Try.prog 18 #[.agg #[.int .i64 a.n, .int .i64 a.lo, .int .i64 a.hi], .slice A N c] W fun e w' => e = .returned (.int .i64 (q : Int)) ∧ Below W.heap.size W w') := Lib.hid (fun A c W h => by have := rFits_any a A c _ W h (by omega); rwa [e2, ← hq] at this)
        have hSS : ∀ w', Below w2.heap.size w2 w' → (fun w' => w'.cell? ⟨w.heap.size, 0, none⟩ = some (.int .i64 a.n) ∧ w'.cell? ⟨w.heap.size, 1, none⟩ = some (.int .i64 a.lo) ∧ w'.cell? ⟨w.heap.size, 2, none⟩ = some (.int .i64 a.hi) ∧ w'.cell? ⟨w.heap.size + 1, 0, none⟩ = some (.int .i64 b.n) ∧ w'.cell? ⟨w.heap.size + 1, 1, none⟩ = some (.int .i64 b.lo) ∧ w'.cell? ⟨w.heap.size + 1, 2, none⟩ = some (.int .i64 b.hi)) w' := fun w' hw => by
          have g1 := x2.below hw (by omega)
          have g2 := v2.below hw z2
          exact ⟨g1.c0, g1.c1, g1.c2, g2.c0, g2.c1, g2.c2⟩
        have HH := Lib.hid hSS
        have z0 : Below w2.heap.size w2 w2.drew := (Below.refl _ _).drew
        clear hSS hn sa sb s1 s2 f1 f2 hby e1 e2 hp hq hbn ha hb
        cases tp : ((p : Int) == a.n) with
        | false =>
          have hR0 : R = false := by
            rw [HR.out, HBY.out, HBN.out]
            have : ¬ p = N := fun e => by rw [e, HNN.out] at tp; simp at tp
            rw [decide_eq_false this]
            rfl
          have HR0 := Lib.hid hR0
          clear hR0 hN
          go_wp2_with fail
          clear y0 y1 y2 y3 y4 y5
          refine wp_region_held_drew (S := fun w' => w'.cell? ⟨w.heap.size, 0, none⟩ = some (.int .i64 a.n) ∧ w'.cell? ⟨w.heap.size, 1, none⟩ = some (.int .i64 a.lo) ∧ w'.cell? ⟨w.heap.size, 2, none⟩ = some (.int .i64 a.hi) ∧ w'.cell? ⟨w.heap.size + 1, 0, none⟩ = some (.int .i64 b.n) ∧ w'.cell? ⟨w.heap.size + 1, 1, none⟩ = some (.int .i64 b.lo) ∧ w'.cell? ⟨w.heap.size + 1, 2, none⟩ = some (.int .i64 b.hi)) (by kernel_rfl) (HH.out _ z0) (fun hS0 => ?_)
          try dsimp only at hS0
          refine wpAnyH_take (i := 0) (oi := { dst := some 20, op := Op.load 23 (Operand.tmp 2), type := 23, pos := "ref.go:83", after := #[], guard := none }) (v := ?_) rfl (by kernel_rfl) (by kernel_rfl) (by kernel_rfl) (fun _ _ _ h => h) (Or.inl ⟨by rfl, ?_⟩) (by assumption) ?_
          rotate_left
          · intro w' hSw; obtain ⟨d0, d1, d2, d3, d4, d5⟩ := hSw; go_simp; try with_reducible rfl
          simp only [Act.put, List.setIfInBounds_toArray, List.set_cons_zero, List.set_cons_succ]
          refine wpAnyH_take (i := 1) (oi := { dst := some 21, op := Op.load 23 (Operand.tmp 3), type := 23, pos := "ref.go:83", after := #[], guard := none }) (v := ?_) rfl (by kernel_rfl) (by kernel_rfl) (by kernel_rfl) (fun _ _ _ h => h) (Or.inl ⟨by rfl, ?_⟩) (by assumption) ?_
          rotate_left
          · intro w' hSw; obtain ⟨d0, d1, d2, d3, d4, d5⟩ := hSw; go_simp; try with_reducible rfl
          simp only [Act.put, List.setIfInBounds_toArray, List.set_cons_zero, List.set_cons_succ]
          refine wpAnyH_take (i := 4) (oi := { dst := some 24, op := Op.fieldAddr 23 (Operand.tmp 2) 0, type := 0, pos := "ref.go:83", after := #[], guard := none }) (v := ?_) rfl (by kernel_rfl) (by kernel_rfl) (by kernel_rfl) (fun _ _ _ h => h) (Or.inl ⟨by rfl, ?_⟩) (by assumption) ?_
          rotate_left
          · intro w' hSw; obtain ⟨d0, d1, d2, d3, d4, d5⟩ := hSw; go_simp; try with_reducible rfl
          simp only [Act.put, List.setIfInBounds_toArray, List.set_cons_zero, List.set_cons_succ]
          refine wpAnyH_take (i := 5) (oi := { dst := some 25, op := Op.load 3 (Operand.tmp 24), type := 3, pos := "ref.go:83", after := #[{ on := 4, ground := Ground.data }], guard := none }) (v := ?_) rfl (by kernel_rfl) (by kernel_rfl) (by kernel_rfl) (fun _ _ _ h => h) (Or.inl ⟨by rfl, ?_⟩) (by assumption) ?_
          rotate_left
          · intro w' hSw; obtain ⟨d0, d1, d2, d3, d4, d5⟩ := hSw; go_simp; try with_reducible rfl
          simp only [Act.put, List.setIfInBounds_toArray, List.set_cons_zero, List.set_cons_succ]
          refine wpAnyH_ready (rs := [2]) (by kernel_rfl) (by simp) (AllReadyH.cons rfl (fun K hK => ?_) AllReadyH.nil)
          go_simp
          go_wp2_with (go_at_call 28; refine (KL.out _).mono ?_; rintro e u1 ⟨A1, c1, rfl, _, hs1, g1⟩; rw [E1.out])
          have q1 := z0.trans (g1.mono z0.size)
          have hc2 := HH.out _ q1
          refine hK.out _ _ hc2 (fun hS2 => ?_)
          clear hK K
          try dsimp only at hS2
          refine wpAnyH_ready (rs := [3]) (by kernel_rfl) (by simp) (AllReadyH.cons rfl (fun K hK => ?_) AllReadyH.nil)
          go_simp
          go_wp2_with (go_at_call 18; refine (KF1.out _ _ _ hs1).mono ?_; rintro e u2 ⟨rfl, g2⟩)
          have q2 := q1.trans (g2.mono q1.size)
          have hc3 := HH.out _ q2
          refine hK.out _ _ hc3 (fun hS3 => ?_)
          clear hK K
          try dsimp only at hS3
          refine wpAnyH_take (i := 6) (oi := { dst := some 26, op := Op.binOp BinOp.eql 3 (Operand.tmp 23) (Operand.tmp 25) 3, type := 4, pos := "ref.go:83", after := #[{ on := 3, ground := Ground.data }, { on := 5, ground := Ground.data }], guard := none }) (v := ?_) rfl (by kernel_rfl) (by kernel_rfl) (by kernel_rfl) (fun _ _ _ h => h) (Or.inl ⟨by rfl, ?_⟩) (by assumption) ?_
          rotate_left
          · intro w' hSw; obtain ⟨d0, d1, d2, d3, d4, d5⟩ := hSw; go_simp; try with_reducible rfl
          simp only [Act.put, List.setIfInBounds_toArray, List.set_cons_zero, List.set_cons_succ]
          refine wpAnyH_take (i := 7) (oi := { dst := some 27, op := Op.move (Operand.tmp 26), type := 4, pos := "ref.go:83", after := #[{ on := 6, ground := Ground.data }, { on := 3, ground := Ground.chain }], guard := none }) (v := ?_) rfl (by kernel_rfl) (by kernel_rfl) (by kernel_rfl) (fun _ _ _ h => h) (Or.inl ⟨by rfl, ?_⟩) (by assumption) ?_
          rotate_left
          · intro w' hSw; obtain ⟨d0, d1, d2, d3, d4, d5⟩ := hSw; go_simp; try with_reducible rfl
          simp only [Act.put, List.setIfInBounds_toArray, List.set_cons_zero, List.set_cons_succ]
          refine wpAnyH_take (i := 8) (oi := { dst := some 28, op := Op.load 23 (Operand.tmp 2), type := 23, pos := "ref.go:83", after := #[{ on := 7, ground := Ground.guard }], guard := some (7, true) }) (v := undef) rfl (by kernel_rfl) (by kernel_rfl) (by kernel_rfl) (fun _ _ _ h => h) (Or.inr ⟨by rfl, rfl⟩) (by assumption) ?_
          simp only [Act.put, List.setIfInBounds_toArray, List.set_cons_zero, List.set_cons_succ]
          refine wpAnyH_take (i := 9) (oi := { dst := some 29, op := Op.load 23 (Operand.tmp 3), type := 23, pos := "ref.go:83", after := #[{ on := 7, ground := Ground.guard }], guard := some (7, true) }) (v := undef) rfl (by kernel_rfl) (by kernel_rfl) (by kernel_rfl) (fun _ _ _ h => h) (Or.inr ⟨by rfl, rfl⟩) (by assumption) ?_
          simp only [Act.put, List.setIfInBounds_toArray, List.set_cons_zero, List.set_cons_succ]
          refine wpAnyH_take (i := 10) (oi := { dst := some 30, op := Op.call { callee := Callee.value (Operand.func 29), args := #[Operand.tmp 29], argTypes := #[23] }, type := 26, pos := "ref.go:83", after := #[{ on := 9, ground := Ground.data }, { on := 7, ground := Ground.chain }, { on := 7, ground := Ground.guard }], guard := some (7, true) }) (v := undef) rfl (by kernel_rfl) (by kernel_rfl) (by kernel_rfl) (fun _ _ _ h => h) (Or.inr ⟨by rfl, rfl⟩) (by assumption) ?_
          simp only [Act.put, List.setIfInBounds_toArray, List.set_cons_zero, List.set_cons_succ]
          refine wpAnyH_take (i := 11) (oi := { dst := some 31, op := Op.call { callee := Callee.value (Operand.func 18), args := #[Operand.tmp 28, Operand.tmp 30], argTypes := #[23, 26] }, type := 3, pos := "ref.go:83", after := #[{ on := 8, ground := Ground.data }, { on := 10, ground := Ground.data }, { on := 10, ground := Ground.chain }, { on := 7, ground := Ground.guard }], guard := some (7, true) }) (v := undef) rfl (by kernel_rfl) (by kernel_rfl) (by kernel_rfl) (fun _ _ _ h => h) (Or.inr ⟨by rfl, rfl⟩) (by assumption) ?_
          simp only [Act.put, List.setIfInBounds_toArray, List.set_cons_zero, List.set_cons_succ]
          refine wpAnyH_take (i := 12) (oi := { dst := some 32, op := Op.fieldAddr 23 (Operand.tmp 2) 0, type := 0, pos := "ref.go:83", after := #[{ on := 7, ground := Ground.guard }], guard := some (7, true) }) (v := undef) rfl (by kernel_rfl) (by kernel_rfl) (by kernel_rfl) (fun _ _ _ h => h) (Or.inr ⟨by rfl, rfl⟩) (by assumption) ?_
          simp only [Act.put, List.setIfInBounds_toArray, List.set_cons_zero, List.set_cons_succ]
          refine wpAnyH_take (i := 13) (oi := { dst := some 33, op := Op.load 3 (Operand.tmp 32), type := 3, pos := "ref.go:83", after := #[{ on := 12, ground := Ground.data }, { on := 7, ground := Ground.guard }], guard := some (7, true) }) (v := undef) rfl (by kernel_rfl) (by kernel_rfl) (by kernel_rfl) (fun _ _ _ h => h) (Or.inr ⟨by rfl, rfl⟩) (by assumption) ?_
          simp only [Act.put, List.setIfInBounds_toArray, List.set_cons_zero, List.set_cons_succ]
          refine wpAnyH_take (i := 14) (oi := { dst := some 34, op := Op.binOp BinOp.eql 3 (Operand.tmp 31) (Operand.tmp 33) 3, type := 4, pos := "ref.go:83", after := #[{ on := 11, ground := Ground.data }, { on := 13, ground := Ground.data }, { on := 7, ground := Ground.guard }], guard := some (7, true) }) (v := undef) rfl (by kernel_rfl) (by kernel_rfl) (by kernel_rfl) (fun _ _ _ h => h) (Or.inr ⟨by rfl, rfl⟩) (by assumption) ?_
          simp only [Act.put, List.setIfInBounds_toArray, List.set_cons_zero, List.set_cons_succ]
          refine wpAnyH_take (i := 15) (oi := { dst := some 35, op := Op.pick (Operand.tmp 27) (Operand.tmp 34) (Operand.const (Value.bool false)), type := 4, pos := "ref.go:83", after := #[{ on := 7, ground := Ground.data }, { on := 14, ground := Ground.data }], guard := none }) (v := ?_) rfl (by kernel_rfl) (by kernel_rfl) (by kernel_rfl) (fun _ _ _ h => h) (Or.inl ⟨by rfl, ?_⟩) (by assumption) ?_
          rotate_left
          · intro w' hSw; obtain ⟨d0, d1, d2, d3, d4, d5⟩ := hSw; go_simp; try with_reducible rfl
          simp only [Act.put, List.setIfInBounds_toArray, List.set_cons_zero, List.set_cons_succ]
          refine wpAnyH_take (i := 16) (oi := { dst := some 4, op := Op.assign (Operand.tmp 35), type := 4, pos := "ref.go:83", after := #[{ on := 15, ground := Ground.data }, { on := 11, ground := Ground.chain }, { on := 0, ground := Ground.phase }, { on := 1, ground := Ground.phase }, { on := 2, ground := Ground.phase }, { on := 3, ground := Ground.phase }, { on := 4, ground := Ground.phase }, { on := 5, ground := Ground.phase }, { on := 6, ground := Ground.phase }, { on := 7, ground := Ground.phase }, { on := 8, ground := Ground.phase }, { on := 9, ground := Ground.phase }, { on := 10, ground := Ground.phase }, { on := 11, ground := Ground.phase }, { on := 12, ground := Ground.phase }, { on := 13, ground := Ground.phase }, { on := 14, ground := Ground.phase }, { on := 15, ground := Ground.phase }], guard := none }) (v := ?_) rfl (by kernel_rfl) (by kernel_rfl) (by kernel_rfl) (fun _ _ _ h => h) (Or.inl ⟨by rfl, ?_⟩) (by assumption) ?_
          rotate_left
          · intro w' hSw; obtain ⟨d0, d1, d2, d3, d4, d5⟩ := hSw; go_simp; try with_reducible rfl
          simp only [Act.put, List.setIfInBounds_toArray, List.set_cons_zero, List.set_cons_succ]
          refine wpAnyH_done (by kernel_rfl) ?_ _
          go_wp2
          go_ret
          refine ⟨?_, b2.trans (q2.mono b2.size)⟩
          rw [HR0.out]
          rfl
        | true =>
          have hR0 : R = ((q : Int) == a.n) := by
            rw [HR.out, HBY.out, HBN.out]
            have : p = N := by rw [HNN.out] at tp; have := beq_iff_eq.1 tp; omega
            rw [decide_eq_true this, Bool.true_and, HNN.out, Bool.eq_iff_iff, decide_eq_true_eq, beq_iff_eq]
            omega
          have HR0 := Lib.hid hR0
          clear hR0 hN
          cases tq : ((q : Int) == a.n)
          all_goals
            have TQ := Lib.hid tq
            go_wp2_with fail
            clear y0 y1 y2 y3 y4 y5
            go_region_held (fun w' => w'.cell? ⟨w.heap.size, 0, none⟩ = some (.int .i64 a.n) ∧ w'.cell? ⟨w.heap.size, 1, none⟩ = some (.int .i64 a.lo) ∧ w'.cell? ⟨w.heap.size, 2, none⟩ = some (.int .i64 a.hi) ∧ w'.cell? ⟨w.heap.size + 1, 0, none⟩ = some (.int .i64 b.n) ∧ w'.cell? ⟨w.heap.size + 1, 1, none⟩ = some (.int .i64 b.lo) ∧ w'.cell? ⟨w.heap.size + 1, 2, none⟩ = some (.int .i64 b.hi))
              (first | with_reducible exact HH.out _ q4 | with_reducible exact HH.out _ q3 | with_reducible exact HH.out _ q2 | with_reducible exact HH.out _ q1 | with_reducible exact HH.out _ z0)
              (first
                | (go_at_call 28; refine (KL.out _).mono ?_; rintro e u1 ⟨A1, c1, rfl, _, hs1, g1⟩; rw [E1.out]; have q1 := z0.trans (g1.mono z0.size))
                | (go_at_call 18; with_reducible refine (KF1.out _ _ _ hs1).mono ?_; rintro e u2 ⟨rfl, g2⟩; have q2 := q1.trans (g2.mono q1.size))
                | (go_at_call 29; refine (KH.out _).mono ?_; rintro e u3 ⟨A3, c3, rfl, _, hs3, g3⟩; rw [E2.out]; have q3 := q2.trans (g3.mono q2.size))
                | (go_at_call 18; with_reducible refine (KF2.out _ _ _ hs3).mono ?_; rintro e u4 ⟨rfl, g4⟩; have q4 := q3.trans (g4.mono q3.size)))
            all_goals
              go_wp2
              go_ret
              refine ⟨?_, b2.trans (q4.mono b2.size)⟩
              rw [HR0.out, TQ.out]
              rfl
      · have t0 : (a.n != b.n) = true := by simpa using hn
        have hh : R = false := by rw [HR.out]; unfold hoC; rw [decide_eq_false hn]; simp
        have HH := Lib.hid hh
        clear hh hn hby ha hb
        go_wp2
        go_ret
        refine ⟨?_, b2⟩
        rw [HH.out]
        rfl
end Go.Proofs.Ytnojapffmcnbaaa
