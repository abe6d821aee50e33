/-
  slices.Equal at codespaces; 'may a table be': the program's own.
-/
import Derived.Test.YtmjneokjgcgchaaGreatSemAll
import Derived.Test.YtmjneokjgcgchaaGreatPart3
import Derived.Test.YtmjneokjgcgchaaGreatPart4
namespace Go.Proofs.YtmjneokjgcgchaaGreat
open Go.RowKit

abbrev osn0 : Oper := { dst := some 3, op := Op.fieldAddr 33 (Operand.tmp 1) 1, type := 0, pos := "sem.go:32", after := #[], guard := none }
abbrev osn1 : Oper := { dst := some 4, op := Op.load 3 (Operand.tmp 3), type := 3, pos := "sem.go:32", after := #[{ on := 0, ground := Ground.data }], guard := none }
abbrev osn2 : Oper := { dst := some 6, op := Op.move (Operand.tmp 5), type := 4, pos := "sem.go:32", after := #[{ on := 2, ground := Ground.data }, { on := 2, ground := Ground.chain }], guard := none }
abbrev osn3 : Oper := { dst := some 7, op := Op.fieldAddr 33 (Operand.tmp 1) 2, type := 0, pos := "sem.go:32", after := #[{ on := 3, ground := Ground.guard }], guard := some (3, true) }
abbrev osn4 : Oper := { dst := some 8, op := Op.load 23 (Operand.tmp 7), type := 23, pos := "sem.go:32", after := #[{ on := 4, ground := Ground.data }, { on := 3, ground := Ground.guard }], guard := some (3, true) }
abbrev osn5 : Oper := { dst := some 9, op := Op.fieldAddr 33 (Operand.tmp 1) 2, type := 0, pos := "sem.go:32", after := #[{ on := 3, ground := Ground.guard }], guard := some (3, true) }
abbrev osn6 : Oper := { dst := some 10, op := Op.load 23 (Operand.tmp 9), type := 23, pos := "sem.go:32", after := #[{ on := 6, ground := Ground.data }, { on := 3, ground := Ground.guard }], guard := some (3, true) }
abbrev osn7 : Oper := { dst := some 13, op := Op.pick (Operand.tmp 6) (Operand.tmp 12) (Operand.const (Value.bool false)), type := 4, pos := "sem.go:32", after := #[{ on := 3, ground := Ground.data }, { on := 9, ground := Ground.data }], guard := none }
abbrev osn8 : Oper := { dst := some 14, op := Op.move (Operand.tmp 13), type := 4, pos := "sem.go:32", after := #[{ on := 10, ground := Ground.data }, { on := 9, ground := Ground.chain }], guard := none }
abbrev osn9 : Oper := { dst := some 15, op := Op.fieldAddr 33 (Operand.tmp 1) 3, type := 0, pos := "sem.go:32", after := #[{ on := 11, ground := Ground.guard }], guard := some (11, true) }
abbrev osn10 : Oper := { dst := some 16, op := Op.load 24 (Operand.tmp 15), type := 24, pos := "sem.go:32", after := #[{ on := 12, ground := Ground.data }, { on := 11, ground := Ground.guard }], guard := some (11, true) }
abbrev osn11 : Oper := { dst := some 18, op := Op.pick (Operand.tmp 14) (Operand.tmp 17) (Operand.const (Value.bool false)), type := 4, pos := "sem.go:32", after := #[{ on := 11, ground := Ground.data }, { on := 14, ground := Ground.data }], guard := none }
abbrev osn12 : Oper := { dst := some 19, op := Op.move (Operand.tmp 18), type := 4, pos := "sem.go:32", after := #[{ on := 15, ground := Ground.data }, { on := 14, ground := Ground.chain }], guard := none }
abbrev osn13 : Oper := { dst := some 20, op := Op.fieldAddr 33 (Operand.tmp 1) 4, type := 0, pos := "sem.go:32", after := #[{ on := 16, ground := Ground.guard }], guard := some (16, true) }
abbrev osn14 : Oper := { dst := some 21, op := Op.load 24 (Operand.tmp 20), type := 24, pos := "sem.go:32", after := #[{ on := 17, ground := Ground.data }, { on := 16, ground := Ground.guard }], guard := some (16, true) }
abbrev osn15 : Oper := { dst := some 23, op := Op.pick (Operand.tmp 19) (Operand.tmp 22) (Operand.const (Value.bool false)), type := 4, pos := "sem.go:32", after := #[{ on := 16, ground := Ground.data }, { on := 19, ground := Ground.data }], guard := none }
abbrev osn16 : Oper := { dst := some 24, op := Op.move (Operand.tmp 23), type := 4, pos := "sem.go:32", after := #[{ on := 20, ground := Ground.data }, { on := 19, ground := Ground.chain }], guard := none }
abbrev osn17 : Oper := { dst := some 25, op := Op.fieldAddr 33 (Operand.tmp 1) 5, type := 0, pos := "sem.go:32", after := #[{ on := 21, ground := Ground.guard }], guard := some (21, true) }
abbrev osn18 : Oper := { dst := some 26, op := Op.load 25 (Operand.tmp 25), type := 25, pos := "sem.go:32", after := #[{ on := 22, ground := Ground.data }, { on := 21, ground := Ground.guard }], guard := some (21, true) }
abbrev osn19 : Oper := { dst := some 28, op := Op.pick (Operand.tmp 24) (Operand.tmp 27) (Operand.const (Value.bool false)), type := 4, pos := "sem.go:32", after := #[{ on := 21, ground := Ground.data }, { on := 24, ground := Ground.data }], guard := none }
abbrev osn20 : Oper := { dst := some 2, op := Op.assign (Operand.tmp 28), type := 4, pos := "sem.go:32", after := #[{ on := 25, ground := Ground.data }, { on := 24, ground := Ground.chain }, { on := 0, ground := Ground.phase }, { on := 1, ground := Ground.phase }, { on := 2, ground := Ground.phase }, { on := 3, ground := Ground.phase }, { on := 4, ground := Ground.phase }, { on := 5, ground := Ground.phase }, { on := 6, ground := Ground.phase }, { on := 7, ground := Ground.phase }, { on := 8, ground := Ground.phase }, { on := 9, ground := Ground.phase }, { on := 10, ground := Ground.phase }, { on := 11, ground := Ground.phase }, { on := 12, ground := Ground.phase }, { on := 13, ground := Ground.phase }, { on := 14, ground := Ground.phase }, { on := 15, ground := Ground.phase }, { on := 16, ground := Ground.phase }, { on := 17, ground := Ground.phase }, { on := 18, ground := Ground.phase }, { on := 19, ground := Ground.phase }, { on := 20, ground := Ground.phase }, { on := 21, ground := Ground.phase }, { on := 22, ground := Ground.phase }, { on := 23, ground := Ground.phase }, { on := 24, ground := Ground.phase }, { on := 25, ground := Ground.phase }], guard := none }
abbrev osn21 : Oper := { dst := some 27, op := Op.call { callee := Callee.value (Operand.func 48), args := #[Operand.tmp 26], argTypes := #[25] }, type := 4, pos := "sem.go:33", after := #[{ on := 23, ground := Ground.data }, { on := 21, ground := Ground.chain }, { on := 21, ground := Ground.guard }], guard := some (21, true) }
abbrev osn22 : Oper := { dst := some 22, op := Op.call { callee := Callee.value (Operand.func 47), args := #[Operand.tmp 21, Operand.const (Value.bool false)], argTypes := #[24, 4] }, type := 4, pos := "sem.go:33", after := #[{ on := 18, ground := Ground.data }, { on := 16, ground := Ground.chain }, { on := 16, ground := Ground.guard }], guard := some (16, true) }
abbrev osn23 : Oper := { dst := some 17, op := Op.call { callee := Callee.value (Operand.func 47), args := #[Operand.tmp 16, Operand.const (Value.bool true)], argTypes := #[24, 4] }, type := 4, pos := "sem.go:33", after := #[{ on := 13, ground := Ground.data }, { on := 11, ground := Ground.chain }, { on := 11, ground := Ground.guard }], guard := some (11, true) }

theorem take_eq9 {α : Type} {l m : List α} {k : Nat} {x y : α} (h1 : l[k]? = some x) (h2 : m[k]? = some y) (h : l.take k = m.take k) (hxy : x = y) : l.take (k + 1) = m.take (k + 1) := by rw [take_last h1, take_last h2, h, hxy]
set_option maxRecDepth 100000 in
set_option maxHeartbeats 4000000 in
theorem EqR_any (A B : Option Addr) (c c' : Nat) (l m : List Rc) (w : World) (h64 : l.length ≤ 9223372036854775807) (h64' : m.length ≤ 9223372036854775807) (h1 : Sr w w.heap.size A l) (h2 : Sr w w.heap.size B m) :
    Calls Tryz.prog 45 #[.slice A l.length c, .slice B m.length c'] w fun e w' => e = .returned (.bool (decide (l = m))) ∧ Below w.heap.size w w' := by
  obtain ⟨n, hn⟩ : ∃ n, n = l.length := ⟨_, rfl⟩
  obtain ⟨n', hn'⟩ : ∃ n', n' = m.length := ⟨_, rfl⟩
  have HL := Lib.hid hn
  have HM := Lib.hid hn'
  have H1 := Lib.hid h1
  have H2 := Lib.hid h2
  obtain ⟨r, hr⟩ : ∃ r, r = decide (l = m) := ⟨_, rfl⟩
  have HR := Lib.hid hr
  rw [← hr, ← hn, ← hn']
  rw [← hn] at h64
  rw [← hn'] at h64'
  clear hn hn' h1 h2 hr
  by_cases hnn : n = n'
  · subst hnn
    go_enter Tryz.func45, Tryz.ntmps45
    go_wp2
    go_loopw [13] (fun i wr => ∃ k q : Nat, k ≤ n ∧ i = .int .i64 (k : Int) ∧ Hid (l.take k = m.take k) ∧ Hid (wr = w.drewN q)) (fun i _ => n - (intOf i).toNat)
    case atStart => exact ⟨0, 0, Nat.zero_le _, rfl, Lib.hid (by simp), Lib.hid rfl⟩
    case round =>
      obtain ⟨k, q, hk, rfl, HK, HW⟩ := hrel
      by_cases hlt : k < n
      · have t0 : decide (k < n) = true := decide_eq_true hlt
        have x1 := List.getElem?_eq_getElem (l := l) (i := k) (by have := HL.out; omega)
        have x2 := List.getElem?_eq_getElem (l := m) (i := k) (by have := HM.out; omega)
        generalize l[k]'(by have := HL.out; omega) = x at *
        generalize m[k]'(by have := HM.out; omega) = y at *
        obtain ⟨b1, o1, rfl, _, q1⟩ := H1.out.at x1
        obtain ⟨b2, o2, rfl, _, q2⟩ := H2.out.at x2
        obtain ⟨y0, y1, y2⟩ : R3 wr b1 (o1 + k * 3) x := q1.keep fun i => by rw [HW.out, drewN_cell]
        obtain ⟨y3, y4, y5⟩ : R3 wr b2 (o2 + k * 3) y := q2.keep fun i => by rw [HW.out, drewN_cell]
        have X1 := Lib.hid x1
        have X2 := Lib.hid x2
        have he := run_ne_rc x y
        clear x1 x2 q1 q2 H1 H2
        have f1 : (0 : Int) ≤ (k : Int) := by omega
        have f2 : (k : Int) < (n : Int) := by omega
        by_cases hxy : x = y
        · rw [decide_eq_true hxy] at he
          have K2 := Lib.hid (take_eq9 X1.out X2.out HK.out hxy)
          clear hxy
          go_wp2
          go_quiet (fail)
          go_wp2
          exact ⟨⟨k + 1, _, by omega, by first | rfl | go_num, K2, Lib.hid (by rw [HW.out]; exact World.drewN_drewN _ _ _)⟩, by simp [intOf]; omega⟩
        · rw [decide_eq_false hxy] at he
          have e : r = false := by
            rw [HR.out]
            refine decide_eq_false fun e => hxy ?_
            have h := X1.out
            rw [e, X2.out] at h
            injection h with h
            exact h.symm
          subst e
          clear hxy
          go_wp2
          go_quiet (fail)
          go_wp2
          go_ret
          exact ⟨rfl, by rw [HW.out]; first | exact below_drewN (Below.refl _ _) _ | exact below_drewN (below_drewN (Below.refl _ _) _) _⟩
      · have t0 : decide (k < n) = false := decide_eq_false hlt
        obtain rfl : k = n := by omega
        have e : r = true := by
          rw [HR.out]
          refine decide_eq_true ?_
          have h := HK.out
          rw [List.take_of_length_le (by have := HL.out; omega), List.take_of_length_le (by have := HM.out; omega)] at h
          exact h
        subst e
        go_wp2
        go_ret
        exact ⟨rfl, by rw [HW.out]; first | exact below_drewN (Below.refl _ _) _ | exact below_drewN (below_drewN (Below.refl _ _) _) _⟩
  · have e : r = false := by
      rw [HR.out]
      refine decide_eq_false fun e => hnn ?_
      rw [HL.out, HM.out, e]
    subst e
    have t1 : ((n : Int) != (n' : Int)) = true := by simp; omega
    clear hnn
    go_enter Tryz.func45, Tryz.ntmps45
    go_wp2
    go_ret
    exact ⟨rfl, Below.refl _ _⟩
theorem cr_self {l m : List Rc} (h : CR l m) : l = m ↔ CR l l := ⟨fun e => by rw [← e] at h; exact h, fun k => k.one h⟩
set_option maxRecDepth 100000 in
set_option maxHeartbeats 8000000 in
theorem Sane_any9 {t : Tb} {a : Ta} (w : World) (h : Tm w t a) (h0 : t.sp.length ≤ 1000) (h1 : t.ci.length ≤ 1048576) (h2 : t.no.length ≤ 1048576) (h3 : t.bf.length ≤ 1048576) :
    Calls Tryz.prog 24 #[tbv t a] w fun e w' => ∃ b, e = .returned (.bool b) ∧ (b = true ↔ Ts (Tp t)) ∧ Below w.heap.size w w' := by
  have hb1 : Below w.heap.size w (w.alloc (.cells #[.string (str t.nm), .int .i64 t.wm, .slice a.a0 t.sp.length a.c0, .slice a.a1 t.ci.length a.c1, .slice a.a2 t.no.length a.c2, .slice a.a3 t.bf.length a.c3] 33)) := (Below.refl _ _).alloc (Nat.le_refl _) _
  have hx1 := heap_alloc_new w (.cells #[.string (str t.nm), .int .i64 t.wm, .slice a.a0 t.sp.length a.c0, .slice a.a1 t.ci.length a.c1, .slice a.a2 t.no.length a.c2, .slice a.a3 t.bf.length a.c3] 33)
  have HS : Hid (∀ W, Below (w.alloc (.cells #[.string (str t.nm), .int .i64 t.wm, .slice a.a0 t.sp.length a.c0, .slice a.a1 t.ci.length a.c1, .slice a.a2 t.no.length a.c2, .slice a.a3 t.bf.length a.c3] 33)).heap.size (w.alloc (.cells #[.string (str t.nm), .int .i64 t.wm, .slice a.a0 t.sp.length a.c0, .slice a.a1 t.ci.length a.c1, .slice a.a2 t.no.length a.c2, .slice a.a3 t.bf.length a.c3] 33)) W → (W.cell? ⟨w.heap.size, 1, none⟩ = some (.int .i64 t.wm) ∧ W.cell? ⟨w.heap.size, 2, none⟩ = some (.slice a.a0 t.sp.length a.c0) ∧ W.cell? ⟨w.heap.size, 3, none⟩ = some (.slice a.a1 t.ci.length a.c1) ∧ W.cell? ⟨w.heap.size, 4, none⟩ = some (.slice a.a2 t.no.length a.c2) ∧ W.cell? ⟨w.heap.size, 5, none⟩ = some (.slice a.a3 t.bf.length a.c3))) := Lib.hid fun W hW => (cells6 ((hW.block _ (by simp)).trans hx1)).2
  have HB : Hid (∀ W, Below (w.alloc (.cells #[.string (str t.nm), .int .i64 t.wm, .slice a.a0 t.sp.length a.c0, .slice a.a1 t.ci.length a.c1, .slice a.a2 t.no.length a.c2, .slice a.a3 t.bf.length a.c3] 33)).heap.size (w.alloc (.cells #[.string (str t.nm), .int .i64 t.wm, .slice a.a0 t.sp.length a.c0, .slice a.a1 t.ci.length a.c1, .slice a.a2 t.no.length a.c2, .slice a.a3 t.bf.length a.c3] 33)) W → Below w.heap.size w W) := Lib.hid fun W hW => hb1.trans (hW.mono hb1.size)
  have K0 := Lib.hid (fun W => saneMode_any t.wm W)
  have K1 := Lib.hid (fun W (hW : Below w.heap.size w W) => Canon_any a.a0 a.c0 t.sp W (h.over hW).sp h0)
  have K2 := Lib.hid (fun W (hW : Below w.heap.size w W) (m : List Rc) (A : Option Addr) (c : Nat) (hm : m.length ≤ t.sp.length) (hA : Sr W W.heap.size A m) => EqR_any a.a0 A a.c0 c t.sp m W (by omega) (by omega) (h.over hW).sp hA)
  have K3 := Lib.hid (fun W (hW : Below w.heap.size w W) => SCanon_any true a.a1 a.c1 t.ci W (h.over hW).ci h1)
  have K4 := Lib.hid (fun W (hW : Below w.heap.size w W) => SCanon_any false a.a2 a.c2 t.no W (h.over hW).no h2)
  have K5 := Lib.hid (fun W (hW : Below w.heap.size w W) => dCanon_any a.a3 a.c3 t.bf W (h.over hW).bf h3)
  clear hb1 hx1 h h0 h1 h2 h3
  unfold tbv
  by_cases g0 : t.wm = 0 ∨ t.wm = 1
  · have Q0 := K0.out
    simp only [decide_eq_true g0] at Q0
    have K0 := Lib.hid Q0
    clear Q0
    by_cases g1 : CR t.sp t.sp
    · by_cases g2 : Cn true t.ci
      · have Q2 := K3.out
        simp only [decide_eq_true g2] at Q2
        have K3 := Lib.hid Q2
        clear Q2
        by_cases g3 : Cn false t.no
        · have Q3 := K4.out
          simp only [decide_eq_true g3] at Q3
          have K4 := Lib.hid Q3
          clear Q3
          by_cases g4 : Ct (pl t.bf)
          · have Q4 := K5.out
            simp only [decide_eq_true g4] at Q4
            have K5 := Lib.hid Q4
            clear Q4
            go_enter Tryz.func24, Tryz.ntmps24
            go_wp2
            generalize hX : w.heap.size = X at *
            generalize (w.alloc (.cells #[.string (str t.nm), .int .i64 t.wm, .slice a.a0 t.sp.length a.c0, .slice a.a1 t.ci.length a.c1, .slice a.a2 t.no.length a.c2, .slice a.a3 t.bf.length a.c3] 33)) = V1 at *
            have z0 : Below V1.heap.size V1 V1.drew := (Below.refl _ _).drew
            refine wp_region_held_drew (S := fun w' => w'.cell? ⟨X, 1, none⟩ = some (.int .i64 t.wm) ∧ w'.cell? ⟨X, 2, none⟩ = some (.slice a.a0 t.sp.length a.c0) ∧ w'.cell? ⟨X, 3, none⟩ = some (.slice a.a1 t.ci.length a.c1) ∧ w'.cell? ⟨X, 4, none⟩ = some (.slice a.a2 t.no.length a.c2) ∧ w'.cell? ⟨X, 5, none⟩ = some (.slice a.a3 t.bf.length a.c3)) (by kernel_rfl) (HS.out _ z0) (fun hS0 => ?_)
            try dsimp only at hS0
            refine wpAnyH_take (i := 0) (oi := osn0) (v := ?_) rfl (by kernel_rfl) (by kernel_rfl) (by kernel_rfl) (fun _ _ _ h => h) (Or.inl ⟨by rfl, ?_⟩) (by assumption) ?_
            rotate_left
            · intro w' hSw; obtain ⟨d1, d2, d3, d4, d5⟩ := hSw; simp only [osn0]; go_simp; try with_reducible rfl
            simp only [Act.put, List.setIfInBounds_toArray, List.set_cons_zero, List.set_cons_succ]
            refine wpAnyH_take (i := 1) (oi := osn1) (v := ?_) rfl (by kernel_rfl) (by kernel_rfl) (by kernel_rfl) (fun _ _ _ h => h) (Or.inl ⟨by rfl, ?_⟩) (by assumption) ?_
            rotate_left
            · intro w' hSw; obtain ⟨d1, d2, d3, d4, d5⟩ := hSw; simp only [osn1]; go_simp; try with_reducible rfl
            simp only [Act.put, List.setIfInBounds_toArray, List.set_cons_zero, List.set_cons_succ]
            refine wpAnyH_ready (rs := [2]) (by kernel_rfl) (by simp) (AllReadyH.cons rfl (fun K hK => ?_) AllReadyH.nil)
            go_simp
            go_wp2_with (go_at_call 44; (with_reducible refine (K0.out _).mono ?_); rintro e v0 ⟨rfl, rfl⟩)
            refine hK.out _ _ (HS.out _ z0) (fun hS2 => ?_)
            clear hK K
            refine wpAnyH_take (i := 3) (oi := osn2) (v := ?_) rfl (by kernel_rfl) (by kernel_rfl) (by kernel_rfl) (fun _ _ _ h => h) (Or.inl ⟨by rfl, ?_⟩) (by assumption) ?_
            rotate_left
            · intro w' hSw; obtain ⟨d1, d2, d3, d4, d5⟩ := hSw; simp only [osn2]; go_simp; try with_reducible rfl
            simp only [Act.put, List.setIfInBounds_toArray, List.set_cons_zero, List.set_cons_succ]
            refine wpAnyH_take (i := 4) (oi := osn3) (v := ?_) rfl (by kernel_rfl) (by kernel_rfl) (by kernel_rfl) (fun _ _ _ h => h) (Or.inl ⟨by rfl, ?_⟩) (by assumption) ?_
            rotate_left
            · intro w' hSw; obtain ⟨d1, d2, d3, d4, d5⟩ := hSw; simp only [osn3]; go_simp; try with_reducible rfl
            simp only [Act.put, List.setIfInBounds_toArray, List.set_cons_zero, List.set_cons_succ]
            refine wpAnyH_take (i := 5) (oi := osn4) (v := ?_) rfl (by kernel_rfl) (by kernel_rfl) (by kernel_rfl) (fun _ _ _ h => h) (Or.inl ⟨by rfl, ?_⟩) (by assumption) ?_
            rotate_left
            · intro w' hSw; obtain ⟨d1, d2, d3, d4, d5⟩ := hSw; simp only [osn4]; go_simp; try with_reducible rfl
            simp only [Act.put, List.setIfInBounds_toArray, List.set_cons_zero, List.set_cons_succ]
            refine wpAnyH_take (i := 6) (oi := osn5) (v := ?_) rfl (by kernel_rfl) (by kernel_rfl) (by kernel_rfl) (fun _ _ _ h => h) (Or.inl ⟨by rfl, ?_⟩) (by assumption) ?_
            rotate_left
            · intro w' hSw; obtain ⟨d1, d2, d3, d4, d5⟩ := hSw; simp only [osn5]; go_simp; try with_reducible rfl
            simp only [Act.put, List.setIfInBounds_toArray, List.set_cons_zero, List.set_cons_succ]
            refine wpAnyH_take (i := 7) (oi := osn6) (v := ?_) rfl (by kernel_rfl) (by kernel_rfl) (by kernel_rfl) (fun _ _ _ h => h) (Or.inl ⟨by rfl, ?_⟩) (by assumption) ?_
            rotate_left
            · intro w' hSw; obtain ⟨d1, d2, d3, d4, d5⟩ := hSw; simp only [osn6]; go_simp; try with_reducible rfl
            simp only [Act.put, List.setIfInBounds_toArray, List.set_cons_zero, List.set_cons_succ]
            refine wpAnyH_ready (rs := [8]) (by kernel_rfl) (by simp) (AllReadyH.cons rfl (fun K hK => ?_) AllReadyH.nil)
            go_simp
            go_wp2_with (go_at_call 46; (with_reducible refine (K1.out _ (HB.out _ z0)).mono ?_); rintro e v1 ⟨m, hm, hml, A, c, rfl, hc, hsr, hb1⟩)
            have z1 := z0.trans (hb1.mono z0.size)
            refine hK.out _ _ (HS.out _ z1) (fun hS8 => ?_)
            clear hK K
            refine wpAnyH_ready (rs := [9]) (by kernel_rfl) (by simp) (AllReadyH.cons rfl (fun K hK => ?_) AllReadyH.nil)
            go_simp
            go_wp2_with (go_at_call 45; (with_reducible refine (K2.out _ (HB.out _ z1) m A c hml hsr).mono ?_); rintro e v2 ⟨rfl, hb2⟩)
            have z2 := z1.trans (hb2.mono z1.size)
            refine hK.out _ _ (HS.out _ z2) (fun hS9 => ?_)
            clear hK K
            have e9 : decide (t.sp = m) = true := decide_eq_true ((cr_self hm).2 g1)
            rw [e9]
            refine wpAnyH_take (i := 10) (oi := osn7) (v := ?_) rfl (by kernel_rfl) (by kernel_rfl) (by kernel_rfl) (fun _ _ _ h => h) (Or.inl ⟨by rfl, ?_⟩) (by assumption) ?_
            rotate_left
            · intro w' hSw; obtain ⟨d1, d2, d3, d4, d5⟩ := hSw; simp only [osn7]; go_simp; try with_reducible rfl
            simp only [Act.put, List.setIfInBounds_toArray, List.set_cons_zero, List.set_cons_succ]
            refine wpAnyH_take (i := 11) (oi := osn8) (v := ?_) rfl (by kernel_rfl) (by kernel_rfl) (by kernel_rfl) (fun _ _ _ h => h) (Or.inl ⟨by rfl, ?_⟩) (by assumption) ?_
            rotate_left
            · intro w' hSw; obtain ⟨d1, d2, d3, d4, d5⟩ := hSw; simp only [osn8]; go_simp; try with_reducible rfl
            simp only [Act.put, List.setIfInBounds_toArray, List.set_cons_zero, List.set_cons_succ]
            refine wpAnyH_take (i := 12) (oi := osn9) (v := ?_) rfl (by kernel_rfl) (by kernel_rfl) (by kernel_rfl) (fun _ _ _ h => h) (Or.inl ⟨by rfl, ?_⟩) (by assumption) ?_
            rotate_left
            · intro w' hSw; obtain ⟨d1, d2, d3, d4, d5⟩ := hSw; simp only [osn9]; go_simp; try with_reducible rfl
            simp only [Act.put, List.setIfInBounds_toArray, List.set_cons_zero, List.set_cons_succ]
            refine wpAnyH_take (i := 13) (oi := osn10) (v := ?_) rfl (by kernel_rfl) (by kernel_rfl) (by kernel_rfl) (fun _ _ _ h => h) (Or.inl ⟨by rfl, ?_⟩) (by assumption) ?_
            rotate_left
            · intro w' hSw; obtain ⟨d1, d2, d3, d4, d5⟩ := hSw; simp only [osn10]; go_simp; try with_reducible rfl
            simp only [Act.put, List.setIfInBounds_toArray, List.set_cons_zero, List.set_cons_succ]
            refine wpAnyH_ready (rs := [14]) (by kernel_rfl) (by simp) (AllReadyH.cons rfl (fun K hK => ?_) AllReadyH.nil)
            go_simp
            go_wp2_with (go_at_call 47; (with_reducible refine (K3.out _ (HB.out _ z2)).mono ?_); rintro e v3 ⟨rfl, hb3⟩)
            have z3 := z2.trans (hb3.mono z2.size)
            refine hK.out _ _ (HS.out _ z3) (fun hS14 => ?_)
            clear hK K
            refine wpAnyH_take (i := 15) (oi := osn11) (v := ?_) rfl (by kernel_rfl) (by kernel_rfl) (by kernel_rfl) (fun _ _ _ h => h) (Or.inl ⟨by rfl, ?_⟩) (by assumption) ?_
            rotate_left
            · intro w' hSw; obtain ⟨d1, d2, d3, d4, d5⟩ := hSw; simp only [osn11]; go_simp; try with_reducible rfl
            simp only [Act.put, List.setIfInBounds_toArray, List.set_cons_zero, List.set_cons_succ]
            refine wpAnyH_take (i := 16) (oi := osn12) (v := ?_) rfl (by kernel_rfl) (by kernel_rfl) (by kernel_rfl) (fun _ _ _ h => h) (Or.inl ⟨by rfl, ?_⟩) (by assumption) ?_
            rotate_left
            · intro w' hSw; obtain ⟨d1, d2, d3, d4, d5⟩ := hSw; simp only [osn12]; go_simp; try with_reducible rfl
            simp only [Act.put, List.setIfInBounds_toArray, List.set_cons_zero, List.set_cons_succ]
            refine wpAnyH_take (i := 17) (oi := osn13) (v := ?_) rfl (by kernel_rfl) (by kernel_rfl) (by kernel_rfl) (fun _ _ _ h => h) (Or.inl ⟨by rfl, ?_⟩) (by assumption) ?_
            rotate_left
            · intro w' hSw; obtain ⟨d1, d2, d3, d4, d5⟩ := hSw; simp only [osn13]; go_simp; try with_reducible rfl
            simp only [Act.put, List.setIfInBounds_toArray, List.set_cons_zero, List.set_cons_succ]
            refine wpAnyH_take (i := 18) (oi := osn14) (v := ?_) rfl (by kernel_rfl) (by kernel_rfl) (by kernel_rfl) (fun _ _ _ h => h) (Or.inl ⟨by rfl, ?_⟩) (by assumption) ?_
            rotate_left
            · intro w' hSw; obtain ⟨d1, d2, d3, d4, d5⟩ := hSw; simp only [osn14]; go_simp; try with_reducible rfl
            simp only [Act.put, List.setIfInBounds_toArray, List.set_cons_zero, List.set_cons_succ]
            refine wpAnyH_ready (rs := [19]) (by kernel_rfl) (by simp) (AllReadyH.cons rfl (fun K hK => ?_) AllReadyH.nil)
            go_simp
            go_wp2_with (go_at_call 47; (with_reducible refine (K4.out _ (HB.out _ z3)).mono ?_); rintro e v4 ⟨rfl, hb4⟩)
            have z4 := z3.trans (hb4.mono z3.size)
            refine hK.out _ _ (HS.out _ z4) (fun hS19 => ?_)
            clear hK K
            refine wpAnyH_take (i := 20) (oi := osn15) (v := ?_) rfl (by kernel_rfl) (by kernel_rfl) (by kernel_rfl) (fun _ _ _ h => h) (Or.inl ⟨by rfl, ?_⟩) (by assumption) ?_
            rotate_left
            · intro w' hSw; obtain ⟨d1, d2, d3, d4, d5⟩ := hSw; simp only [osn15]; go_simp; try with_reducible rfl
            simp only [Act.put, List.setIfInBounds_toArray, List.set_cons_zero, List.set_cons_succ]
            refine wpAnyH_take (i := 21) (oi := osn16) (v := ?_) rfl (by kernel_rfl) (by kernel_rfl) (by kernel_rfl) (fun _ _ _ h => h) (Or.inl ⟨by rfl, ?_⟩) (by assumption) ?_
            rotate_left
            · intro w' hSw; obtain ⟨d1, d2, d3, d4, d5⟩ := hSw; simp only [osn16]; go_simp; try with_reducible rfl
            simp only [Act.put, List.setIfInBounds_toArray, List.set_cons_zero, List.set_cons_succ]
            refine wpAnyH_take (i := 22) (oi := osn17) (v := ?_) rfl (by kernel_rfl) (by kernel_rfl) (by kernel_rfl) (fun _ _ _ h => h) (Or.inl ⟨by rfl, ?_⟩) (by assumption) ?_
            rotate_left
            · intro w' hSw; obtain ⟨d1, d2, d3, d4, d5⟩ := hSw; simp only [osn17]; go_simp; try with_reducible rfl
            simp only [Act.put, List.setIfInBounds_toArray, List.set_cons_zero, List.set_cons_succ]
            refine wpAnyH_take (i := 23) (oi := osn18) (v := ?_) rfl (by kernel_rfl) (by kernel_rfl) (by kernel_rfl) (fun _ _ _ h => h) (Or.inl ⟨by rfl, ?_⟩) (by assumption) ?_
            rotate_left
            · intro w' hSw; obtain ⟨d1, d2, d3, d4, d5⟩ := hSw; simp only [osn18]; go_simp; try with_reducible rfl
            simp only [Act.put, List.setIfInBounds_toArray, List.set_cons_zero, List.set_cons_succ]
            refine wpAnyH_ready (rs := [24]) (by kernel_rfl) (by simp) (AllReadyH.cons rfl (fun K hK => ?_) AllReadyH.nil)
            go_simp
            go_wp2_with (go_at_call 48; (with_reducible refine (K5.out _ (HB.out _ z4)).mono ?_); rintro e v5 ⟨rfl, hb5⟩)
            have z5 := z4.trans (hb5.mono z4.size)
            refine hK.out _ _ (HS.out _ z5) (fun hS24 => ?_)
            clear hK K
            refine wpAnyH_take (i := 25) (oi := osn19) (v := ?_) rfl (by kernel_rfl) (by kernel_rfl) (by kernel_rfl) (fun _ _ _ h => h) (Or.inl ⟨by rfl, ?_⟩) (by assumption) ?_
            rotate_left
            · intro w' hSw; obtain ⟨d1, d2, d3, d4, d5⟩ := hSw; simp only [osn19]; go_simp; try with_reducible rfl
            simp only [Act.put, List.setIfInBounds_toArray, List.set_cons_zero, List.set_cons_succ]
            refine wpAnyH_take (i := 26) (oi := osn20) (v := ?_) rfl (by kernel_rfl) (by kernel_rfl) (by kernel_rfl) (fun _ _ _ h => h) (Or.inl ⟨by rfl, ?_⟩) (by assumption) ?_
            rotate_left
            · intro w' hSw; obtain ⟨d1, d2, d3, d4, d5⟩ := hSw; simp only [osn20]; go_simp; try with_reducible rfl
            simp only [Act.put, List.setIfInBounds_toArray, List.set_cons_zero, List.set_cons_succ]
            refine wpAnyH_done (by kernel_rfl) ?_ _
            go_wp2
            go_ret
            exact ⟨true, rfl, ⟨fun _ => ⟨g0, g1, g2, g3, g4⟩, fun _ => rfl⟩, by rw [hX]; exact HB.out _ z5⟩
          · have Q4 := K5.out
            simp only [decide_eq_false g4] at Q4
            have K5 := Lib.hid Q4
            clear Q4
            go_enter Tryz.func24, Tryz.ntmps24
            go_wp2
            generalize hX : w.heap.size = X at *
            generalize (w.alloc (.cells #[.string (str t.nm), .int .i64 t.wm, .slice a.a0 t.sp.length a.c0, .slice a.a1 t.ci.length a.c1, .slice a.a2 t.no.length a.c2, .slice a.a3 t.bf.length a.c3] 33)) = V1 at *
            have z0 : Below V1.heap.size V1 V1.drew := (Below.refl _ _).drew
            refine wp_region_held_drew (S := fun w' => w'.cell? ⟨X, 1, none⟩ = some (.int .i64 t.wm) ∧ w'.cell? ⟨X, 2, none⟩ = some (.slice a.a0 t.sp.length a.c0) ∧ w'.cell? ⟨X, 3, none⟩ = some (.slice a.a1 t.ci.length a.c1) ∧ w'.cell? ⟨X, 4, none⟩ = some (.slice a.a2 t.no.length a.c2) ∧ w'.cell? ⟨X, 5, none⟩ = some (.slice a.a3 t.bf.length a.c3)) (by kernel_rfl) (HS.out _ z0) (fun hS0 => ?_)
            try dsimp only at hS0
            refine wpAnyH_take (i := 0) (oi := osn0) (v := ?_) rfl (by kernel_rfl) (by kernel_rfl) (by kernel_rfl) (fun _ _ _ h => h) (Or.inl ⟨by rfl, ?_⟩) (by assumption) ?_
            rotate_left
            · intro w' hSw; obtain ⟨d1, d2, d3, d4, d5⟩ := hSw; simp only [osn0]; go_simp; try with_reducible rfl
            simp only [Act.put, List.setIfInBounds_toArray, List.set_cons_zero, List.set_cons_succ]
            refine wpAnyH_take (i := 1) (oi := osn1) (v := ?_) rfl (by kernel_rfl) (by kernel_rfl) (by kernel_rfl) (fun _ _ _ h => h) (Or.inl ⟨by rfl, ?_⟩) (by assumption) ?_
            rotate_left
            · intro w' hSw; obtain ⟨d1, d2, d3, d4, d5⟩ := hSw; simp only [osn1]; go_simp; try with_reducible rfl
            simp only [Act.put, List.setIfInBounds_toArray, List.set_cons_zero, List.set_cons_succ]
            refine wpAnyH_ready (rs := [2]) (by kernel_rfl) (by simp) (AllReadyH.cons rfl (fun K hK => ?_) AllReadyH.nil)
            go_simp
            go_wp2_with (go_at_call 44; (with_reducible refine (K0.out _).mono ?_); rintro e v0 ⟨rfl, rfl⟩)
            refine hK.out _ _ (HS.out _ z0) (fun hS2 => ?_)
            clear hK K
            refine wpAnyH_take (i := 3) (oi := osn2) (v := ?_) rfl (by kernel_rfl) (by kernel_rfl) (by kernel_rfl) (fun _ _ _ h => h) (Or.inl ⟨by rfl, ?_⟩) (by assumption) ?_
            rotate_left
            · intro w' hSw; obtain ⟨d1, d2, d3, d4, d5⟩ := hSw; simp only [osn2]; go_simp; try with_reducible rfl
            simp only [Act.put, List.setIfInBounds_toArray, List.set_cons_zero, List.set_cons_succ]
            refine wpAnyH_take (i := 4) (oi := osn3) (v := ?_) rfl (by kernel_rfl) (by kernel_rfl) (by kernel_rfl) (fun _ _ _ h => h) (Or.inl ⟨by rfl, ?_⟩) (by assumption) ?_
            rotate_left
            · intro w' hSw; obtain ⟨d1, d2, d3, d4, d5⟩ := hSw; simp only [osn3]; go_simp; try with_reducible rfl
            simp only [Act.put, List.setIfInBounds_toArray, List.set_cons_zero, List.set_cons_succ]
            refine wpAnyH_take (i := 5) (oi := osn4) (v := ?_) rfl (by kernel_rfl) (by kernel_rfl) (by kernel_rfl) (fun _ _ _ h => h) (Or.inl ⟨by rfl, ?_⟩) (by assumption) ?_
            rotate_left
            · intro w' hSw; obtain ⟨d1, d2, d3, d4, d5⟩ := hSw; simp only [osn4]; go_simp; try with_reducible rfl
            simp only [Act.put, List.setIfInBounds_toArray, List.set_cons_zero, List.set_cons_succ]
            refine wpAnyH_take (i := 6) (oi := osn5) (v := ?_) rfl (by kernel_rfl) (by kernel_rfl) (by kernel_rfl) (fun _ _ _ h => h) (Or.inl ⟨by rfl, ?_⟩) (by assumption) ?_
            rotate_left
            · intro w' hSw; obtain ⟨d1, d2, d3, d4, d5⟩ := hSw; simp only [osn5]; go_simp; try with_reducible rfl
            simp only [Act.put, List.setIfInBounds_toArray, List.set_cons_zero, List.set_cons_succ]
            refine wpAnyH_take (i := 7) (oi := osn6) (v := ?_) rfl (by kernel_rfl) (by kernel_rfl) (by kernel_rfl) (fun _ _ _ h => h) (Or.inl ⟨by rfl, ?_⟩) (by assumption) ?_
            rotate_left
            · intro w' hSw; obtain ⟨d1, d2, d3, d4, d5⟩ := hSw; simp only [osn6]; go_simp; try with_reducible rfl
            simp only [Act.put, List.setIfInBounds_toArray, List.set_cons_zero, List.set_cons_succ]
            refine wpAnyH_ready (rs := [8]) (by kernel_rfl) (by simp) (AllReadyH.cons rfl (fun K hK => ?_) AllReadyH.nil)
            go_simp
            go_wp2_with (go_at_call 46; (with_reducible refine (K1.out _ (HB.out _ z0)).mono ?_); rintro e v1 ⟨m, hm, hml, A, c, rfl, hc, hsr, hb1⟩)
            have z1 := z0.trans (hb1.mono z0.size)
            refine hK.out _ _ (HS.out _ z1) (fun hS8 => ?_)
            clear hK K
            refine wpAnyH_ready (rs := [9]) (by kernel_rfl) (by simp) (AllReadyH.cons rfl (fun K hK => ?_) AllReadyH.nil)
            go_simp
            go_wp2_with (go_at_call 45; (with_reducible refine (K2.out _ (HB.out _ z1) m A c hml hsr).mono ?_); rintro e v2 ⟨rfl, hb2⟩)
            have z2 := z1.trans (hb2.mono z1.size)
            refine hK.out _ _ (HS.out _ z2) (fun hS9 => ?_)
            clear hK K
            have e9 : decide (t.sp = m) = true := decide_eq_true ((cr_self hm).2 g1)
            rw [e9]
            refine wpAnyH_take (i := 10) (oi := osn7) (v := ?_) rfl (by kernel_rfl) (by kernel_rfl) (by kernel_rfl) (fun _ _ _ h => h) (Or.inl ⟨by rfl, ?_⟩) (by assumption) ?_
            rotate_left
            · intro w' hSw; obtain ⟨d1, d2, d3, d4, d5⟩ := hSw; simp only [osn7]; go_simp; try with_reducible rfl
            simp only [Act.put, List.setIfInBounds_toArray, List.set_cons_zero, List.set_cons_succ]
            refine wpAnyH_take (i := 11) (oi := osn8) (v := ?_) rfl (by kernel_rfl) (by kernel_rfl) (by kernel_rfl) (fun _ _ _ h => h) (Or.inl ⟨by rfl, ?_⟩) (by assumption) ?_
            rotate_left
            · intro w' hSw; obtain ⟨d1, d2, d3, d4, d5⟩ := hSw; simp only [osn8]; go_simp; try with_reducible rfl
            simp only [Act.put, List.setIfInBounds_toArray, List.set_cons_zero, List.set_cons_succ]
            refine wpAnyH_take (i := 12) (oi := osn9) (v := ?_) rfl (by kernel_rfl) (by kernel_rfl) (by kernel_rfl) (fun _ _ _ h => h) (Or.inl ⟨by rfl, ?_⟩) (by assumption) ?_
            rotate_left
            · intro w' hSw; obtain ⟨d1, d2, d3, d4, d5⟩ := hSw; simp only [osn9]; go_simp; try with_reducible rfl
            simp only [Act.put, List.setIfInBounds_toArray, List.set_cons_zero, List.set_cons_succ]
            refine wpAnyH_take (i := 13) (oi := osn10) (v := ?_) rfl (by kernel_rfl) (by kernel_rfl) (by kernel_rfl) (fun _ _ _ h => h) (Or.inl ⟨by rfl, ?_⟩) (by assumption) ?_
            rotate_left
            · intro w' hSw; obtain ⟨d1, d2, d3, d4, d5⟩ := hSw; simp only [osn10]; go_simp; try with_reducible rfl
            simp only [Act.put, List.setIfInBounds_toArray, List.set_cons_zero, List.set_cons_succ]
            refine wpAnyH_ready (rs := [14]) (by kernel_rfl) (by simp) (AllReadyH.cons rfl (fun K hK => ?_) AllReadyH.nil)
            go_simp
            go_wp2_with (go_at_call 47; (with_reducible refine (K3.out _ (HB.out _ z2)).mono ?_); rintro e v3 ⟨rfl, hb3⟩)
            have z3 := z2.trans (hb3.mono z2.size)
            refine hK.out _ _ (HS.out _ z3) (fun hS14 => ?_)
            clear hK K
            refine wpAnyH_take (i := 15) (oi := osn11) (v := ?_) rfl (by kernel_rfl) (by kernel_rfl) (by kernel_rfl) (fun _ _ _ h => h) (Or.inl ⟨by rfl, ?_⟩) (by assumption) ?_
            rotate_left
            · intro w' hSw; obtain ⟨d1, d2, d3, d4, d5⟩ := hSw; simp only [osn11]; go_simp; try with_reducible rfl
            simp only [Act.put, List.setIfInBounds_toArray, List.set_cons_zero, List.set_cons_succ]
            refine wpAnyH_take (i := 16) (oi := osn12) (v := ?_) rfl (by kernel_rfl) (by kernel_rfl) (by kernel_rfl) (fun _ _ _ h => h) (Or.inl ⟨by rfl, ?_⟩) (by assumption) ?_
            rotate_left
            · intro w' hSw; obtain ⟨d1, d2, d3, d4, d5⟩ := hSw; simp only [osn12]; go_simp; try with_reducible rfl
            simp only [Act.put, List.setIfInBounds_toArray, List.set_cons_zero, List.set_cons_succ]
            refine wpAnyH_take (i := 17) (oi := osn13) (v := ?_) rfl (by kernel_rfl) (by kernel_rfl) (by kernel_rfl) (fun _ _ _ h => h) (Or.inl ⟨by rfl, ?_⟩) (by assumption) ?_
            rotate_left
            · intro w' hSw; obtain ⟨d1, d2, d3, d4, d5⟩ := hSw; simp only [osn13]; go_simp; try with_reducible rfl
            simp only [Act.put, List.setIfInBounds_toArray, List.set_cons_zero, List.set_cons_succ]
            refine wpAnyH_take (i := 18) (oi := osn14) (v := ?_) rfl (by kernel_rfl) (by kernel_rfl) (by kernel_rfl) (fun _ _ _ h => h) (Or.inl ⟨by rfl, ?_⟩) (by assumption) ?_
            rotate_left
            · intro w' hSw; obtain ⟨d1, d2, d3, d4, d5⟩ := hSw; simp only [osn14]; go_simp; try with_reducible rfl
            simp only [Act.put, List.setIfInBounds_toArray, List.set_cons_zero, List.set_cons_succ]
            refine wpAnyH_ready (rs := [19]) (by kernel_rfl) (by simp) (AllReadyH.cons rfl (fun K hK => ?_) AllReadyH.nil)
            go_simp
            go_wp2_with (go_at_call 47; (with_reducible refine (K4.out _ (HB.out _ z3)).mono ?_); rintro e v4 ⟨rfl, hb4⟩)
            have z4 := z3.trans (hb4.mono z3.size)
            refine hK.out _ _ (HS.out _ z4) (fun hS19 => ?_)
            clear hK K
            refine wpAnyH_take (i := 20) (oi := osn15) (v := ?_) rfl (by kernel_rfl) (by kernel_rfl) (by kernel_rfl) (fun _ _ _ h => h) (Or.inl ⟨by rfl, ?_⟩) (by assumption) ?_
            rotate_left
            · intro w' hSw; obtain ⟨d1, d2, d3, d4, d5⟩ := hSw; simp only [osn15]; go_simp; try with_reducible rfl
            simp only [Act.put, List.setIfInBounds_toArray, List.set_cons_zero, List.set_cons_succ]
            refine wpAnyH_take (i := 21) (oi := osn16) (v := ?_) rfl (by kernel_rfl) (by kernel_rfl) (by kernel_rfl) (fun _ _ _ h => h) (Or.inl ⟨by rfl, ?_⟩) (by assumption) ?_
            rotate_left
            · intro w' hSw; obtain ⟨d1, d2, d3, d4, d5⟩ := hSw; simp only [osn16]; go_simp; try with_reducible rfl
            simp only [Act.put, List.setIfInBounds_toArray, List.set_cons_zero, List.set_cons_succ]
            refine wpAnyH_take (i := 22) (oi := osn17) (v := ?_) rfl (by kernel_rfl) (by kernel_rfl) (by kernel_rfl) (fun _ _ _ h => h) (Or.inl ⟨by rfl, ?_⟩) (by assumption) ?_
            rotate_left
            · intro w' hSw; obtain ⟨d1, d2, d3, d4, d5⟩ := hSw; simp only [osn17]; go_simp; try with_reducible rfl
            simp only [Act.put, List.setIfInBounds_toArray, List.set_cons_zero, List.set_cons_succ]
            refine wpAnyH_take (i := 23) (oi := osn18) (v := ?_) rfl (by kernel_rfl) (by kernel_rfl) (by kernel_rfl) (fun _ _ _ h => h) (Or.inl ⟨by rfl, ?_⟩) (by assumption) ?_
            rotate_left
            · intro w' hSw; obtain ⟨d1, d2, d3, d4, d5⟩ := hSw; simp only [osn18]; go_simp; try with_reducible rfl
            simp only [Act.put, List.setIfInBounds_toArray, List.set_cons_zero, List.set_cons_succ]
            refine wpAnyH_ready (rs := [24]) (by kernel_rfl) (by simp) (AllReadyH.cons rfl (fun K hK => ?_) AllReadyH.nil)
            go_simp
            go_wp2_with (go_at_call 48; (with_reducible refine (K5.out _ (HB.out _ z4)).mono ?_); rintro e v5 ⟨rfl, hb5⟩)
            have z5 := z4.trans (hb5.mono z4.size)
            refine hK.out _ _ (HS.out _ z5) (fun hS24 => ?_)
            clear hK K
            refine wpAnyH_take (i := 25) (oi := osn19) (v := ?_) rfl (by kernel_rfl) (by kernel_rfl) (by kernel_rfl) (fun _ _ _ h => h) (Or.inl ⟨by rfl, ?_⟩) (by assumption) ?_
            rotate_left
            · intro w' hSw; obtain ⟨d1, d2, d3, d4, d5⟩ := hSw; simp only [osn19]; go_simp; try with_reducible rfl
            simp only [Act.put, List.setIfInBounds_toArray, List.set_cons_zero, List.set_cons_succ]
            refine wpAnyH_take (i := 26) (oi := osn20) (v := ?_) rfl (by kernel_rfl) (by kernel_rfl) (by kernel_rfl) (fun _ _ _ h => h) (Or.inl ⟨by rfl, ?_⟩) (by assumption) ?_
            rotate_left
            · intro w' hSw; obtain ⟨d1, d2, d3, d4, d5⟩ := hSw; simp only [osn20]; go_simp; try with_reducible rfl
            simp only [Act.put, List.setIfInBounds_toArray, List.set_cons_zero, List.set_cons_succ]
            refine wpAnyH_done (by kernel_rfl) ?_ _
            go_wp2
            go_ret
            exact ⟨false, rfl, ⟨(fun e => by cases e), fun q => absurd q.bf g4⟩, by rw [hX]; exact HB.out _ z5⟩
        · have Q3 := K4.out
          simp only [decide_eq_false g3] at Q3
          have K4 := Lib.hid Q3
          clear Q3
          go_enter Tryz.func24, Tryz.ntmps24
          go_wp2
          generalize hX : w.heap.size = X at *
          generalize (w.alloc (.cells #[.string (str t.nm), .int .i64 t.wm, .slice a.a0 t.sp.length a.c0, .slice a.a1 t.ci.length a.c1, .slice a.a2 t.no.length a.c2, .slice a.a3 t.bf.length a.c3] 33)) = V1 at *
          have z0 : Below V1.heap.size V1 V1.drew := (Below.refl _ _).drew
          refine wp_region_held_drew (S := fun w' => w'.cell? ⟨X, 1, none⟩ = some (.int .i64 t.wm) ∧ w'.cell? ⟨X, 2, none⟩ = some (.slice a.a0 t.sp.length a.c0) ∧ w'.cell? ⟨X, 3, none⟩ = some (.slice a.a1 t.ci.length a.c1) ∧ w'.cell? ⟨X, 4, none⟩ = some (.slice a.a2 t.no.length a.c2) ∧ w'.cell? ⟨X, 5, none⟩ = some (.slice a.a3 t.bf.length a.c3)) (by kernel_rfl) (HS.out _ z0) (fun hS0 => ?_)
          try dsimp only at hS0
          refine wpAnyH_take (i := 0) (oi := osn0) (v := ?_) rfl (by kernel_rfl) (by kernel_rfl) (by kernel_rfl) (fun _ _ _ h => h) (Or.inl ⟨by rfl, ?_⟩) (by assumption) ?_
          rotate_left
          · intro w' hSw; obtain ⟨d1, d2, d3, d4, d5⟩ := hSw; simp only [osn0]; go_simp; try with_reducible rfl
          simp only [Act.put, List.setIfInBounds_toArray, List.set_cons_zero, List.set_cons_succ]
          refine wpAnyH_take (i := 1) (oi := osn1) (v := ?_) rfl (by kernel_rfl) (by kernel_rfl) (by kernel_rfl) (fun _ _ _ h => h) (Or.inl ⟨by rfl, ?_⟩) (by assumption) ?_
          rotate_left
          · intro w' hSw; obtain ⟨d1, d2, d3, d4, d5⟩ := hSw; simp only [osn1]; go_simp; try with_reducible rfl
          simp only [Act.put, List.setIfInBounds_toArray, List.set_cons_zero, List.set_cons_succ]
          refine wpAnyH_ready (rs := [2]) (by kernel_rfl) (by simp) (AllReadyH.cons rfl (fun K hK => ?_) AllReadyH.nil)
          go_simp
          go_wp2_with (go_at_call 44; (with_reducible refine (K0.out _).mono ?_); rintro e v0 ⟨rfl, rfl⟩)
          refine hK.out _ _ (HS.out _ z0) (fun hS2 => ?_)
          clear hK K
          refine wpAnyH_take (i := 3) (oi := osn2) (v := ?_) rfl (by kernel_rfl) (by kernel_rfl) (by kernel_rfl) (fun _ _ _ h => h) (Or.inl ⟨by rfl, ?_⟩) (by assumption) ?_
          rotate_left
          · intro w' hSw; obtain ⟨d1, d2, d3, d4, d5⟩ := hSw; simp only [osn2]; go_simp; try with_reducible rfl
          simp only [Act.put, List.setIfInBounds_toArray, List.set_cons_zero, List.set_cons_succ]
          refine wpAnyH_take (i := 4) (oi := osn3) (v := ?_) rfl (by kernel_rfl) (by kernel_rfl) (by kernel_rfl) (fun _ _ _ h => h) (Or.inl ⟨by rfl, ?_⟩) (by assumption) ?_
          rotate_left
          · intro w' hSw; obtain ⟨d1, d2, d3, d4, d5⟩ := hSw; simp only [osn3]; go_simp; try with_reducible rfl
          simp only [Act.put, List.setIfInBounds_toArray, List.set_cons_zero, List.set_cons_succ]
          refine wpAnyH_take (i := 5) (oi := osn4) (v := ?_) rfl (by kernel_rfl) (by kernel_rfl) (by kernel_rfl) (fun _ _ _ h => h) (Or.inl ⟨by rfl, ?_⟩) (by assumption) ?_
          rotate_left
          · intro w' hSw; obtain ⟨d1, d2, d3, d4, d5⟩ := hSw; simp only [osn4]; go_simp; try with_reducible rfl
          simp only [Act.put, List.setIfInBounds_toArray, List.set_cons_zero, List.set_cons_succ]
          refine wpAnyH_take (i := 6) (oi := osn5) (v := ?_) rfl (by kernel_rfl) (by kernel_rfl) (by kernel_rfl) (fun _ _ _ h => h) (Or.inl ⟨by rfl, ?_⟩) (by assumption) ?_
          rotate_left
          · intro w' hSw; obtain ⟨d1, d2, d3, d4, d5⟩ := hSw; simp only [osn5]; go_simp; try with_reducible rfl
          simp only [Act.put, List.setIfInBounds_toArray, List.set_cons_zero, List.set_cons_succ]
          refine wpAnyH_take (i := 7) (oi := osn6) (v := ?_) rfl (by kernel_rfl) (by kernel_rfl) (by kernel_rfl) (fun _ _ _ h => h) (Or.inl ⟨by rfl, ?_⟩) (by assumption) ?_
          rotate_left
          · intro w' hSw; obtain ⟨d1, d2, d3, d4, d5⟩ := hSw; simp only [osn6]; go_simp; try with_reducible rfl
          simp only [Act.put, List.setIfInBounds_toArray, List.set_cons_zero, List.set_cons_succ]
          refine wpAnyH_ready (rs := [8]) (by kernel_rfl) (by simp) (AllReadyH.cons rfl (fun K hK => ?_) AllReadyH.nil)
          go_simp
          go_wp2_with (go_at_call 46; (with_reducible refine (K1.out _ (HB.out _ z0)).mono ?_); rintro e v1 ⟨m, hm, hml, A, c, rfl, hc, hsr, hb1⟩)
          have z1 := z0.trans (hb1.mono z0.size)
          refine hK.out _ _ (HS.out _ z1) (fun hS8 => ?_)
          clear hK K
          refine wpAnyH_ready (rs := [9]) (by kernel_rfl) (by simp) (AllReadyH.cons rfl (fun K hK => ?_) AllReadyH.nil)
          go_simp
          go_wp2_with (go_at_call 45; (with_reducible refine (K2.out _ (HB.out _ z1) m A c hml hsr).mono ?_); rintro e v2 ⟨rfl, hb2⟩)
          have z2 := z1.trans (hb2.mono z1.size)
          refine hK.out _ _ (HS.out _ z2) (fun hS9 => ?_)
          clear hK K
          have e9 : decide (t.sp = m) = true := decide_eq_true ((cr_self hm).2 g1)
          rw [e9]
          refine wpAnyH_take (i := 10) (oi := osn7) (v := ?_) rfl (by kernel_rfl) (by kernel_rfl) (by kernel_rfl) (fun _ _ _ h => h) (Or.inl ⟨by rfl, ?_⟩) (by assumption) ?_
          rotate_left
          · intro w' hSw; obtain ⟨d1, d2, d3, d4, d5⟩ := hSw; simp only [osn7]; go_simp; try with_reducible rfl
          simp only [Act.put, List.setIfInBounds_toArray, List.set_cons_zero, List.set_cons_succ]
          refine wpAnyH_take (i := 11) (oi := osn8) (v := ?_) rfl (by kernel_rfl) (by kernel_rfl) (by kernel_rfl) (fun _ _ _ h => h) (Or.inl ⟨by rfl, ?_⟩) (by assumption) ?_
          rotate_left
          · intro w' hSw; obtain ⟨d1, d2, d3, d4, d5⟩ := hSw; simp only [osn8]; go_simp; try with_reducible rfl
          simp only [Act.put, List.setIfInBounds_toArray, List.set_cons_zero, List.set_cons_succ]
          refine wpAnyH_take (i := 12) (oi := osn9) (v := ?_) rfl (by kernel_rfl) (by kernel_rfl) (by kernel_rfl) (fun _ _ _ h => h) (Or.inl ⟨by rfl, ?_⟩) (by assumption) ?_
          rotate_left
          · intro w' hSw; obtain ⟨d1, d2, d3, d4, d5⟩ := hSw; simp only [osn9]; go_simp; try with_reducible rfl
          simp only [Act.put, List.setIfInBounds_toArray, List.set_cons_zero, List.set_cons_succ]
          refine wpAnyH_take (i := 13) (oi := osn10) (v := ?_) rfl (by kernel_rfl) (by kernel_rfl) (by kernel_rfl) (fun _ _ _ h => h) (Or.inl ⟨by rfl, ?_⟩) (by assumption) ?_
          rotate_left
          · intro w' hSw; obtain ⟨d1, d2, d3, d4, d5⟩ := hSw; simp only [osn10]; go_simp; try with_reducible rfl
          simp only [Act.put, List.setIfInBounds_toArray, List.set_cons_zero, List.set_cons_succ]
          refine wpAnyH_ready (rs := [14]) (by kernel_rfl) (by simp) (AllReadyH.cons rfl (fun K hK => ?_) AllReadyH.nil)
          go_simp
          go_wp2_with (go_at_call 47; (with_reducible refine (K3.out _ (HB.out _ z2)).mono ?_); rintro e v3 ⟨rfl, hb3⟩)
          have z3 := z2.trans (hb3.mono z2.size)
          refine hK.out _ _ (HS.out _ z3) (fun hS14 => ?_)
          clear hK K
          refine wpAnyH_take (i := 15) (oi := osn11) (v := ?_) rfl (by kernel_rfl) (by kernel_rfl) (by kernel_rfl) (fun _ _ _ h => h) (Or.inl ⟨by rfl, ?_⟩) (by assumption) ?_
          rotate_left
          · intro w' hSw; obtain ⟨d1, d2, d3, d4, d5⟩ := hSw; simp only [osn11]; go_simp; try with_reducible rfl
          simp only [Act.put, List.setIfInBounds_toArray, List.set_cons_zero, List.set_cons_succ]
          refine wpAnyH_take (i := 16) (oi := osn12) (v := ?_) rfl (by kernel_rfl) (by kernel_rfl) (by kernel_rfl) (fun _ _ _ h => h) (Or.inl ⟨by rfl, ?_⟩) (by assumption) ?_
          rotate_left
          · intro w' hSw; obtain ⟨d1, d2, d3, d4, d5⟩ := hSw; simp only [osn12]; go_simp; try with_reducible rfl
          simp only [Act.put, List.setIfInBounds_toArray, List.set_cons_zero, List.set_cons_succ]
          refine wpAnyH_take (i := 17) (oi := osn13) (v := ?_) rfl (by kernel_rfl) (by kernel_rfl) (by kernel_rfl) (fun _ _ _ h => h) (Or.inl ⟨by rfl, ?_⟩) (by assumption) ?_
          rotate_left
          · intro w' hSw; obtain ⟨d1, d2, d3, d4, d5⟩ := hSw; simp only [osn13]; go_simp; try with_reducible rfl
          simp only [Act.put, List.setIfInBounds_toArray, List.set_cons_zero, List.set_cons_succ]
          refine wpAnyH_take (i := 18) (oi := osn14) (v := ?_) rfl (by kernel_rfl) (by kernel_rfl) (by kernel_rfl) (fun _ _ _ h => h) (Or.inl ⟨by rfl, ?_⟩) (by assumption) ?_
          rotate_left
          · intro w' hSw; obtain ⟨d1, d2, d3, d4, d5⟩ := hSw; simp only [osn14]; go_simp; try with_reducible rfl
          simp only [Act.put, List.setIfInBounds_toArray, List.set_cons_zero, List.set_cons_succ]
          refine wpAnyH_ready (rs := [19]) (by kernel_rfl) (by simp) (AllReadyH.cons rfl (fun K hK => ?_) AllReadyH.nil)
          go_simp
          go_wp2_with (go_at_call 47; (with_reducible refine (K4.out _ (HB.out _ z3)).mono ?_); rintro e v4 ⟨rfl, hb4⟩)
          have z4 := z3.trans (hb4.mono z3.size)
          refine hK.out _ _ (HS.out _ z4) (fun hS19 => ?_)
          clear hK K
          refine wpAnyH_take (i := 20) (oi := osn15) (v := ?_) rfl (by kernel_rfl) (by kernel_rfl) (by kernel_rfl) (fun _ _ _ h => h) (Or.inl ⟨by rfl, ?_⟩) (by assumption) ?_
          rotate_left
          · intro w' hSw; obtain ⟨d1, d2, d3, d4, d5⟩ := hSw; simp only [osn15]; go_simp; try with_reducible rfl
          simp only [Act.put, List.setIfInBounds_toArray, List.set_cons_zero, List.set_cons_succ]
          refine wpAnyH_take (i := 21) (oi := osn16) (v := ?_) rfl (by kernel_rfl) (by kernel_rfl) (by kernel_rfl) (fun _ _ _ h => h) (Or.inl ⟨by rfl, ?_⟩) (by assumption) ?_
          rotate_left
          · intro w' hSw; obtain ⟨d1, d2, d3, d4, d5⟩ := hSw; simp only [osn16]; go_simp; try with_reducible rfl
          simp only [Act.put, List.setIfInBounds_toArray, List.set_cons_zero, List.set_cons_succ]
          refine wpAnyH_take (i := 22) (oi := osn17) (v := undef) rfl (by kernel_rfl) (by kernel_rfl) (by kernel_rfl) (fun _ _ _ h => h) (Or.inr ⟨by rfl, rfl⟩) (by assumption) ?_
          simp only [Act.put, List.setIfInBounds_toArray, List.set_cons_zero, List.set_cons_succ]
          refine wpAnyH_take (i := 23) (oi := osn18) (v := undef) rfl (by kernel_rfl) (by kernel_rfl) (by kernel_rfl) (fun _ _ _ h => h) (Or.inr ⟨by rfl, rfl⟩) (by assumption) ?_
          simp only [Act.put, List.setIfInBounds_toArray, List.set_cons_zero, List.set_cons_succ]
          refine wpAnyH_take (i := 24) (oi := osn21) (v := undef) rfl (by kernel_rfl) (by kernel_rfl) (by kernel_rfl) (fun _ _ _ h => h) (Or.inr ⟨by rfl, rfl⟩) (by assumption) ?_
          simp only [Act.put, List.setIfInBounds_toArray, List.set_cons_zero, List.set_cons_succ]
          refine wpAnyH_take (i := 25) (oi := osn19) (v := ?_) rfl (by kernel_rfl) (by kernel_rfl) (by kernel_rfl) (fun _ _ _ h => h) (Or.inl ⟨by rfl, ?_⟩) (by assumption) ?_
          rotate_left
          · intro w' hSw; obtain ⟨d1, d2, d3, d4, d5⟩ := hSw; simp only [osn19]; go_simp; try with_reducible rfl
          simp only [Act.put, List.setIfInBounds_toArray, List.set_cons_zero, List.set_cons_succ]
          refine wpAnyH_take (i := 26) (oi := osn20) (v := ?_) rfl (by kernel_rfl) (by kernel_rfl) (by kernel_rfl) (fun _ _ _ h => h) (Or.inl ⟨by rfl, ?_⟩) (by assumption) ?_
          rotate_left
          · intro w' hSw; obtain ⟨d1, d2, d3, d4, d5⟩ := hSw; simp only [osn20]; go_simp; try with_reducible rfl
          simp only [Act.put, List.setIfInBounds_toArray, List.set_cons_zero, List.set_cons_succ]
          refine wpAnyH_done (by kernel_rfl) ?_ _
          go_wp2
          go_ret
          exact ⟨false, rfl, ⟨(fun e => by cases e), fun q => absurd q.no g3⟩, by rw [hX]; exact HB.out _ z4⟩
      · have Q2 := K3.out
        simp only [decide_eq_false g2] at Q2
        have K3 := Lib.hid Q2
        clear Q2
        go_enter Tryz.func24, Tryz.ntmps24
        go_wp2
        generalize hX : w.heap.size = X at *
        generalize (w.alloc (.cells #[.string (str t.nm), .int .i64 t.wm, .slice a.a0 t.sp.length a.c0, .slice a.a1 t.ci.length a.c1, .slice a.a2 t.no.length a.c2, .slice a.a3 t.bf.length a.c3] 33)) = V1 at *
        have z0 : Below V1.heap.size V1 V1.drew := (Below.refl _ _).drew
        refine wp_region_held_drew (S := fun w' => w'.cell? ⟨X, 1, none⟩ = some (.int .i64 t.wm) ∧ w'.cell? ⟨X, 2, none⟩ = some (.slice a.a0 t.sp.length a.c0) ∧ w'.cell? ⟨X, 3, none⟩ = some (.slice a.a1 t.ci.length a.c1) ∧ w'.cell? ⟨X, 4, none⟩ = some (.slice a.a2 t.no.length a.c2) ∧ w'.cell? ⟨X, 5, none⟩ = some (.slice a.a3 t.bf.length a.c3)) (by kernel_rfl) (HS.out _ z0) (fun hS0 => ?_)
        try dsimp only at hS0
        refine wpAnyH_take (i := 0) (oi := osn0) (v := ?_) rfl (by kernel_rfl) (by kernel_rfl) (by kernel_rfl) (fun _ _ _ h => h) (Or.inl ⟨by rfl, ?_⟩) (by assumption) ?_
        rotate_left
        · intro w' hSw; obtain ⟨d1, d2, d3, d4, d5⟩ := hSw; simp only [osn0]; go_simp; try with_reducible rfl
        simp only [Act.put, List.setIfInBounds_toArray, List.set_cons_zero, List.set_cons_succ]
        refine wpAnyH_take (i := 1) (oi := osn1) (v := ?_) rfl (by kernel_rfl) (by kernel_rfl) (by kernel_rfl) (fun _ _ _ h => h) (Or.inl ⟨by rfl, ?_⟩) (by assumption) ?_
        rotate_left
        · intro w' hSw; obtain ⟨d1, d2, d3, d4, d5⟩ := hSw; simp only [osn1]; go_simp; try with_reducible rfl
        simp only [Act.put, List.setIfInBounds_toArray, List.set_cons_zero, List.set_cons_succ]
        refine wpAnyH_ready (rs := [2]) (by kernel_rfl) (by simp) (AllReadyH.cons rfl (fun K hK => ?_) AllReadyH.nil)
        go_simp
        go_wp2_with (go_at_call 44; (with_reducible refine (K0.out _).mono ?_); rintro e v0 ⟨rfl, rfl⟩)
        refine hK.out _ _ (HS.out _ z0) (fun hS2 => ?_)
        clear hK K
        refine wpAnyH_take (i := 3) (oi := osn2) (v := ?_) rfl (by kernel_rfl) (by kernel_rfl) (by kernel_rfl) (fun _ _ _ h => h) (Or.inl ⟨by rfl, ?_⟩) (by assumption) ?_
        rotate_left
        · intro w' hSw; obtain ⟨d1, d2, d3, d4, d5⟩ := hSw; simp only [osn2]; go_simp; try with_reducible rfl
        simp only [Act.put, List.setIfInBounds_toArray, List.set_cons_zero, List.set_cons_succ]
        refine wpAnyH_take (i := 4) (oi := osn3) (v := ?_) rfl (by kernel_rfl) (by kernel_rfl) (by kernel_rfl) (fun _ _ _ h => h) (Or.inl ⟨by rfl, ?_⟩) (by assumption) ?_
        rotate_left
        · intro w' hSw; obtain ⟨d1, d2, d3, d4, d5⟩ := hSw; simp only [osn3]; go_simp; try with_reducible rfl
        simp only [Act.put, List.setIfInBounds_toArray, List.set_cons_zero, List.set_cons_succ]
        refine wpAnyH_take (i := 5) (oi := osn4) (v := ?_) rfl (by kernel_rfl) (by kernel_rfl) (by kernel_rfl) (fun _ _ _ h => h) (Or.inl ⟨by rfl, ?_⟩) (by assumption) ?_
        rotate_left
        · intro w' hSw; obtain ⟨d1, d2, d3, d4, d5⟩ := hSw; simp only [osn4]; go_simp; try with_reducible rfl
        simp only [Act.put, List.setIfInBounds_toArray, List.set_cons_zero, List.set_cons_succ]
        refine wpAnyH_take (i := 6) (oi := osn5) (v := ?_) rfl (by kernel_rfl) (by kernel_rfl) (by kernel_rfl) (fun _ _ _ h => h) (Or.inl ⟨by rfl, ?_⟩) (by assumption) ?_
        rotate_left
        · intro w' hSw; obtain ⟨d1, d2, d3, d4, d5⟩ := hSw; simp only [osn5]; go_simp; try with_reducible rfl
        simp only [Act.put, List.setIfInBounds_toArray, List.set_cons_zero, List.set_cons_succ]
        refine wpAnyH_take (i := 7) (oi := osn6) (v := ?_) rfl (by kernel_rfl) (by kernel_rfl) (by kernel_rfl) (fun _ _ _ h => h) (Or.inl ⟨by rfl, ?_⟩) (by assumption) ?_
        rotate_left
        · intro w' hSw; obtain ⟨d1, d2, d3, d4, d5⟩ := hSw; simp only [osn6]; go_simp; try with_reducible rfl
        simp only [Act.put, List.setIfInBounds_toArray, List.set_cons_zero, List.set_cons_succ]
        refine wpAnyH_ready (rs := [8]) (by kernel_rfl) (by simp) (AllReadyH.cons rfl (fun K hK => ?_) AllReadyH.nil)
        go_simp
        go_wp2_with (go_at_call 46; (with_reducible refine (K1.out _ (HB.out _ z0)).mono ?_); rintro e v1 ⟨m, hm, hml, A, c, rfl, hc, hsr, hb1⟩)
        have z1 := z0.trans (hb1.mono z0.size)
        refine hK.out _ _ (HS.out _ z1) (fun hS8 => ?_)
        clear hK K
        refine wpAnyH_ready (rs := [9]) (by kernel_rfl) (by simp) (AllReadyH.cons rfl (fun K hK => ?_) AllReadyH.nil)
        go_simp
        go_wp2_with (go_at_call 45; (with_reducible refine (K2.out _ (HB.out _ z1) m A c hml hsr).mono ?_); rintro e v2 ⟨rfl, hb2⟩)
        have z2 := z1.trans (hb2.mono z1.size)
        refine hK.out _ _ (HS.out _ z2) (fun hS9 => ?_)
        clear hK K
        have e9 : decide (t.sp = m) = true := decide_eq_true ((cr_self hm).2 g1)
        rw [e9]
        refine wpAnyH_take (i := 10) (oi := osn7) (v := ?_) rfl (by kernel_rfl) (by kernel_rfl) (by kernel_rfl) (fun _ _ _ h => h) (Or.inl ⟨by rfl, ?_⟩) (by assumption) ?_
        rotate_left
        · intro w' hSw; obtain ⟨d1, d2, d3, d4, d5⟩ := hSw; simp only [osn7]; go_simp; try with_reducible rfl
        simp only [Act.put, List.setIfInBounds_toArray, List.set_cons_zero, List.set_cons_succ]
        refine wpAnyH_take (i := 11) (oi := osn8) (v := ?_) rfl (by kernel_rfl) (by kernel_rfl) (by kernel_rfl) (fun _ _ _ h => h) (Or.inl ⟨by rfl, ?_⟩) (by assumption) ?_
        rotate_left
        · intro w' hSw; obtain ⟨d1, d2, d3, d4, d5⟩ := hSw; simp only [osn8]; go_simp; try with_reducible rfl
        simp only [Act.put, List.setIfInBounds_toArray, List.set_cons_zero, List.set_cons_succ]
        refine wpAnyH_take (i := 12) (oi := osn9) (v := ?_) rfl (by kernel_rfl) (by kernel_rfl) (by kernel_rfl) (fun _ _ _ h => h) (Or.inl ⟨by rfl, ?_⟩) (by assumption) ?_
        rotate_left
        · intro w' hSw; obtain ⟨d1, d2, d3, d4, d5⟩ := hSw; simp only [osn9]; go_simp; try with_reducible rfl
        simp only [Act.put, List.setIfInBounds_toArray, List.set_cons_zero, List.set_cons_succ]
        refine wpAnyH_take (i := 13) (oi := osn10) (v := ?_) rfl (by kernel_rfl) (by kernel_rfl) (by kernel_rfl) (fun _ _ _ h => h) (Or.inl ⟨by rfl, ?_⟩) (by assumption) ?_
        rotate_left
        · intro w' hSw; obtain ⟨d1, d2, d3, d4, d5⟩ := hSw; simp only [osn10]; go_simp; try with_reducible rfl
        simp only [Act.put, List.setIfInBounds_toArray, List.set_cons_zero, List.set_cons_succ]
        refine wpAnyH_ready (rs := [14]) (by kernel_rfl) (by simp) (AllReadyH.cons rfl (fun K hK => ?_) AllReadyH.nil)
        go_simp
        go_wp2_with (go_at_call 47; (with_reducible refine (K3.out _ (HB.out _ z2)).mono ?_); rintro e v3 ⟨rfl, hb3⟩)
        have z3 := z2.trans (hb3.mono z2.size)
        refine hK.out _ _ (HS.out _ z3) (fun hS14 => ?_)
        clear hK K
        refine wpAnyH_take (i := 15) (oi := osn11) (v := ?_) rfl (by kernel_rfl) (by kernel_rfl) (by kernel_rfl) (fun _ _ _ h => h) (Or.inl ⟨by rfl, ?_⟩) (by assumption) ?_
        rotate_left
        · intro w' hSw; obtain ⟨d1, d2, d3, d4, d5⟩ := hSw; simp only [osn11]; go_simp; try with_reducible rfl
        simp only [Act.put, List.setIfInBounds_toArray, List.set_cons_zero, List.set_cons_succ]
        refine wpAnyH_take (i := 16) (oi := osn12) (v := ?_) rfl (by kernel_rfl) (by kernel_rfl) (by kernel_rfl) (fun _ _ _ h => h) (Or.inl ⟨by rfl, ?_⟩) (by assumption) ?_
        rotate_left
        · intro w' hSw; obtain ⟨d1, d2, d3, d4, d5⟩ := hSw; simp only [osn12]; go_simp; try with_reducible rfl
        simp only [Act.put, List.setIfInBounds_toArray, List.set_cons_zero, List.set_cons_succ]
        refine wpAnyH_take (i := 17) (oi := osn13) (v := undef) rfl (by kernel_rfl) (by kernel_rfl) (by kernel_rfl) (fun _ _ _ h => h) (Or.inr ⟨by rfl, rfl⟩) (by assumption) ?_
        simp only [Act.put, List.setIfInBounds_toArray, List.set_cons_zero, List.set_cons_succ]
        refine wpAnyH_take (i := 18) (oi := osn14) (v := undef) rfl (by kernel_rfl) (by kernel_rfl) (by kernel_rfl) (fun _ _ _ h => h) (Or.inr ⟨by rfl, rfl⟩) (by assumption) ?_
        simp only [Act.put, List.setIfInBounds_toArray, List.set_cons_zero, List.set_cons_succ]
        refine wpAnyH_take (i := 19) (oi := osn22) (v := undef) rfl (by kernel_rfl) (by kernel_rfl) (by kernel_rfl) (fun _ _ _ h => h) (Or.inr ⟨by rfl, rfl⟩) (by assumption) ?_
        simp only [Act.put, List.setIfInBounds_toArray, List.set_cons_zero, List.set_cons_succ]
        refine wpAnyH_take (i := 20) (oi := osn15) (v := ?_) rfl (by kernel_rfl) (by kernel_rfl) (by kernel_rfl) (fun _ _ _ h => h) (Or.inl ⟨by rfl, ?_⟩) (by assumption) ?_
        rotate_left
        · intro w' hSw; obtain ⟨d1, d2, d3, d4, d5⟩ := hSw; simp only [osn15]; go_simp; try with_reducible rfl
        simp only [Act.put, List.setIfInBounds_toArray, List.set_cons_zero, List.set_cons_succ]
        refine wpAnyH_take (i := 21) (oi := osn16) (v := ?_) rfl (by kernel_rfl) (by kernel_rfl) (by kernel_rfl) (fun _ _ _ h => h) (Or.inl ⟨by rfl, ?_⟩) (by assumption) ?_
        rotate_left
        · intro w' hSw; obtain ⟨d1, d2, d3, d4, d5⟩ := hSw; simp only [osn16]; go_simp; try with_reducible rfl
        simp only [Act.put, List.setIfInBounds_toArray, List.set_cons_zero, List.set_cons_succ]
        refine wpAnyH_take (i := 22) (oi := osn17) (v := undef) rfl (by kernel_rfl) (by kernel_rfl) (by kernel_rfl) (fun _ _ _ h => h) (Or.inr ⟨by rfl, rfl⟩) (by assumption) ?_
        simp only [Act.put, List.setIfInBounds_toArray, List.set_cons_zero, List.set_cons_succ]
        refine wpAnyH_take (i := 23) (oi := osn18) (v := undef) rfl (by kernel_rfl) (by kernel_rfl) (by kernel_rfl) (fun _ _ _ h => h) (Or.inr ⟨by rfl, rfl⟩) (by assumption) ?_
        simp only [Act.put, List.setIfInBounds_toArray, List.set_cons_zero, List.set_cons_succ]
        refine wpAnyH_take (i := 24) (oi := osn21) (v := undef) rfl (by kernel_rfl) (by kernel_rfl) (by kernel_rfl) (fun _ _ _ h => h) (Or.inr ⟨by rfl, rfl⟩) (by assumption) ?_
        simp only [Act.put, List.setIfInBounds_toArray, List.set_cons_zero, List.set_cons_succ]
        refine wpAnyH_take (i := 25) (oi := osn19) (v := ?_) rfl (by kernel_rfl) (by kernel_rfl) (by kernel_rfl) (fun _ _ _ h => h) (Or.inl ⟨by rfl, ?_⟩) (by assumption) ?_
        rotate_left
        · intro w' hSw; obtain ⟨d1, d2, d3, d4, d5⟩ := hSw; simp only [osn19]; go_simp; try with_reducible rfl
        simp only [Act.put, List.setIfInBounds_toArray, List.set_cons_zero, List.set_cons_succ]
        refine wpAnyH_take (i := 26) (oi := osn20) (v := ?_) rfl (by kernel_rfl) (by kernel_rfl) (by kernel_rfl) (fun _ _ _ h => h) (Or.inl ⟨by rfl, ?_⟩) (by assumption) ?_
        rotate_left
        · intro w' hSw; obtain ⟨d1, d2, d3, d4, d5⟩ := hSw; simp only [osn20]; go_simp; try with_reducible rfl
        simp only [Act.put, List.setIfInBounds_toArray, List.set_cons_zero, List.set_cons_succ]
        refine wpAnyH_done (by kernel_rfl) ?_ _
        go_wp2
        go_ret
        exact ⟨false, rfl, ⟨(fun e => by cases e), fun q => absurd q.ci g2⟩, by rw [hX]; exact HB.out _ z3⟩
    · go_enter Tryz.func24, Tryz.ntmps24
      go_wp2
      generalize hX : w.heap.size = X at *
      generalize (w.alloc (.cells #[.string (str t.nm), .int .i64 t.wm, .slice a.a0 t.sp.length a.c0, .slice a.a1 t.ci.length a.c1, .slice a.a2 t.no.length a.c2, .slice a.a3 t.bf.length a.c3] 33)) = V1 at *
      have z0 : Below V1.heap.size V1 V1.drew := (Below.refl _ _).drew
      refine wp_region_held_drew (S := fun w' => w'.cell? ⟨X, 1, none⟩ = some (.int .i64 t.wm) ∧ w'.cell? ⟨X, 2, none⟩ = some (.slice a.a0 t.sp.length a.c0) ∧ w'.cell? ⟨X, 3, none⟩ = some (.slice a.a1 t.ci.length a.c1) ∧ w'.cell? ⟨X, 4, none⟩ = some (.slice a.a2 t.no.length a.c2) ∧ w'.cell? ⟨X, 5, none⟩ = some (.slice a.a3 t.bf.length a.c3)) (by kernel_rfl) (HS.out _ z0) (fun hS0 => ?_)
      try dsimp only at hS0
      refine wpAnyH_take (i := 0) (oi := osn0) (v := ?_) rfl (by kernel_rfl) (by kernel_rfl) (by kernel_rfl) (fun _ _ _ h => h) (Or.inl ⟨by rfl, ?_⟩) (by assumption) ?_
      rotate_left
      · intro w' hSw; obtain ⟨d1, d2, d3, d4, d5⟩ := hSw; simp only [osn0]; go_simp; try with_reducible rfl
      simp only [Act.put, List.setIfInBounds_toArray, List.set_cons_zero, List.set_cons_succ]
      refine wpAnyH_take (i := 1) (oi := osn1) (v := ?_) rfl (by kernel_rfl) (by kernel_rfl) (by kernel_rfl) (fun _ _ _ h => h) (Or.inl ⟨by rfl, ?_⟩) (by assumption) ?_
      rotate_left
      · intro w' hSw; obtain ⟨d1, d2, d3, d4, d5⟩ := hSw; simp only [osn1]; go_simp; try with_reducible rfl
      simp only [Act.put, List.setIfInBounds_toArray, List.set_cons_zero, List.set_cons_succ]
      refine wpAnyH_ready (rs := [2]) (by kernel_rfl) (by simp) (AllReadyH.cons rfl (fun K hK => ?_) AllReadyH.nil)
      go_simp
      go_wp2_with (go_at_call 44; (with_reducible refine (K0.out _).mono ?_); rintro e v0 ⟨rfl, rfl⟩)
      refine hK.out _ _ (HS.out _ z0) (fun hS2 => ?_)
      clear hK K
      refine wpAnyH_take (i := 3) (oi := osn2) (v := ?_) rfl (by kernel_rfl) (by kernel_rfl) (by kernel_rfl) (fun _ _ _ h => h) (Or.inl ⟨by rfl, ?_⟩) (by assumption) ?_
      rotate_left
      · intro w' hSw; obtain ⟨d1, d2, d3, d4, d5⟩ := hSw; simp only [osn2]; go_simp; try with_reducible rfl
      simp only [Act.put, List.setIfInBounds_toArray, List.set_cons_zero, List.set_cons_succ]
      refine wpAnyH_take (i := 4) (oi := osn3) (v := ?_) rfl (by kernel_rfl) (by kernel_rfl) (by kernel_rfl) (fun _ _ _ h => h) (Or.inl ⟨by rfl, ?_⟩) (by assumption) ?_
      rotate_left
      · intro w' hSw; obtain ⟨d1, d2, d3, d4, d5⟩ := hSw; simp only [osn3]; go_simp; try with_reducible rfl
      simp only [Act.put, List.setIfInBounds_toArray, List.set_cons_zero, List.set_cons_succ]
      refine wpAnyH_take (i := 5) (oi := osn4) (v := ?_) rfl (by kernel_rfl) (by kernel_rfl) (by kernel_rfl) (fun _ _ _ h => h) (Or.inl ⟨by rfl, ?_⟩) (by assumption) ?_
      rotate_left
      · intro w' hSw; obtain ⟨d1, d2, d3, d4, d5⟩ := hSw; simp only [osn4]; go_simp; try with_reducible rfl
      simp only [Act.put, List.setIfInBounds_toArray, List.set_cons_zero, List.set_cons_succ]
      refine wpAnyH_take (i := 6) (oi := osn5) (v := ?_) rfl (by kernel_rfl) (by kernel_rfl) (by kernel_rfl) (fun _ _ _ h => h) (Or.inl ⟨by rfl, ?_⟩) (by assumption) ?_
      rotate_left
      · intro w' hSw; obtain ⟨d1, d2, d3, d4, d5⟩ := hSw; simp only [osn5]; go_simp; try with_reducible rfl
      simp only [Act.put, List.setIfInBounds_toArray, List.set_cons_zero, List.set_cons_succ]
      refine wpAnyH_take (i := 7) (oi := osn6) (v := ?_) rfl (by kernel_rfl) (by kernel_rfl) (by kernel_rfl) (fun _ _ _ h => h) (Or.inl ⟨by rfl, ?_⟩) (by assumption) ?_
      rotate_left
      · intro w' hSw; obtain ⟨d1, d2, d3, d4, d5⟩ := hSw; simp only [osn6]; go_simp; try with_reducible rfl
      simp only [Act.put, List.setIfInBounds_toArray, List.set_cons_zero, List.set_cons_succ]
      refine wpAnyH_ready (rs := [8]) (by kernel_rfl) (by simp) (AllReadyH.cons rfl (fun K hK => ?_) AllReadyH.nil)
      go_simp
      go_wp2_with (go_at_call 46; (with_reducible refine (K1.out _ (HB.out _ z0)).mono ?_); rintro e v1 ⟨m, hm, hml, A, c, rfl, hc, hsr, hb1⟩)
      have z1 := z0.trans (hb1.mono z0.size)
      refine hK.out _ _ (HS.out _ z1) (fun hS8 => ?_)
      clear hK K
      refine wpAnyH_ready (rs := [9]) (by kernel_rfl) (by simp) (AllReadyH.cons rfl (fun K hK => ?_) AllReadyH.nil)
      go_simp
      go_wp2_with (go_at_call 45; (with_reducible refine (K2.out _ (HB.out _ z1) m A c hml hsr).mono ?_); rintro e v2 ⟨rfl, hb2⟩)
      have z2 := z1.trans (hb2.mono z1.size)
      refine hK.out _ _ (HS.out _ z2) (fun hS9 => ?_)
      clear hK K
      have e9 : decide (t.sp = m) = false := decide_eq_false fun e => g1 ((cr_self hm).1 e)
      rw [e9]
      refine wpAnyH_take (i := 10) (oi := osn7) (v := ?_) rfl (by kernel_rfl) (by kernel_rfl) (by kernel_rfl) (fun _ _ _ h => h) (Or.inl ⟨by rfl, ?_⟩) (by assumption) ?_
      rotate_left
      · intro w' hSw; obtain ⟨d1, d2, d3, d4, d5⟩ := hSw; simp only [osn7]; go_simp; try with_reducible rfl
      simp only [Act.put, List.setIfInBounds_toArray, List.set_cons_zero, List.set_cons_succ]
      refine wpAnyH_take (i := 11) (oi := osn8) (v := ?_) rfl (by kernel_rfl) (by kernel_rfl) (by kernel_rfl) (fun _ _ _ h => h) (Or.inl ⟨by rfl, ?_⟩) (by assumption) ?_
      rotate_left
      · intro w' hSw; obtain ⟨d1, d2, d3, d4, d5⟩ := hSw; simp only [osn8]; go_simp; try with_reducible rfl
      simp only [Act.put, List.setIfInBounds_toArray, List.set_cons_zero, List.set_cons_succ]
      refine wpAnyH_take (i := 12) (oi := osn9) (v := undef) rfl (by kernel_rfl) (by kernel_rfl) (by kernel_rfl) (fun _ _ _ h => h) (Or.inr ⟨by rfl, rfl⟩) (by assumption) ?_
      simp only [Act.put, List.setIfInBounds_toArray, List.set_cons_zero, List.set_cons_succ]
      refine wpAnyH_take (i := 13) (oi := osn10) (v := undef) rfl (by kernel_rfl) (by kernel_rfl) (by kernel_rfl) (fun _ _ _ h => h) (Or.inr ⟨by rfl, rfl⟩) (by assumption) ?_
      simp only [Act.put, List.setIfInBounds_toArray, List.set_cons_zero, List.set_cons_succ]
      refine wpAnyH_take (i := 14) (oi := osn23) (v := undef) rfl (by kernel_rfl) (by kernel_rfl) (by kernel_rfl) (fun _ _ _ h => h) (Or.inr ⟨by rfl, rfl⟩) (by assumption) ?_
      simp only [Act.put, List.setIfInBounds_toArray, List.set_cons_zero, List.set_cons_succ]
      refine wpAnyH_take (i := 15) (oi := osn11) (v := ?_) rfl (by kernel_rfl) (by kernel_rfl) (by kernel_rfl) (fun _ _ _ h => h) (Or.inl ⟨by rfl, ?_⟩) (by assumption) ?_
      rotate_left
      · intro w' hSw; obtain ⟨d1, d2, d3, d4, d5⟩ := hSw; simp only [osn11]; go_simp; try with_reducible rfl
      simp only [Act.put, List.setIfInBounds_toArray, List.set_cons_zero, List.set_cons_succ]
      refine wpAnyH_take (i := 16) (oi := osn12) (v := ?_) rfl (by kernel_rfl) (by kernel_rfl) (by kernel_rfl) (fun _ _ _ h => h) (Or.inl ⟨by rfl, ?_⟩) (by assumption) ?_
      rotate_left
      · intro w' hSw; obtain ⟨d1, d2, d3, d4, d5⟩ := hSw; simp only [osn12]; go_simp; try with_reducible rfl
      simp only [Act.put, List.setIfInBounds_toArray, List.set_cons_zero, List.set_cons_succ]
      refine wpAnyH_take (i := 17) (oi := osn13) (v := undef) rfl (by kernel_rfl) (by kernel_rfl) (by kernel_rfl) (fun _ _ _ h => h) (Or.inr ⟨by rfl, rfl⟩) (by assumption) ?_
      simp only [Act.put, List.setIfInBounds_toArray, List.set_cons_zero, List.set_cons_succ]
      refine wpAnyH_take (i := 18) (oi := osn14) (v := undef) rfl (by kernel_rfl) (by kernel_rfl) (by kernel_rfl) (fun _ _ _ h => h) (Or.inr ⟨by rfl, rfl⟩) (by assumption) ?_
      simp only [Act.put, List.setIfInBounds_toArray, List.set_cons_zero, List.set_cons_succ]
      refine wpAnyH_take (i := 19) (oi := osn22) (v := undef) rfl (by kernel_rfl) (by kernel_rfl) (by kernel_rfl) (fun _ _ _ h => h) (Or.inr ⟨by rfl, rfl⟩) (by assumption) ?_
      simp only [Act.put, List.setIfInBounds_toArray, List.set_cons_zero, List.set_cons_succ]
      refine wpAnyH_take (i := 20) (oi := osn15) (v := ?_) rfl (by kernel_rfl) (by kernel_rfl) (by kernel_rfl) (fun _ _ _ h => h) (Or.inl ⟨by rfl, ?_⟩) (by assumption) ?_
      rotate_left
      · intro w' hSw; obtain ⟨d1, d2, d3, d4, d5⟩ := hSw; simp only [osn15]; go_simp; try with_reducible rfl
      simp only [Act.put, List.setIfInBounds_toArray, List.set_cons_zero, List.set_cons_succ]
      refine wpAnyH_take (i := 21) (oi := osn16) (v := ?_) rfl (by kernel_rfl) (by kernel_rfl) (by kernel_rfl) (fun _ _ _ h => h) (Or.inl ⟨by rfl, ?_⟩) (by assumption) ?_
      rotate_left
      · intro w' hSw; obtain ⟨d1, d2, d3, d4, d5⟩ := hSw; simp only [osn16]; go_simp; try with_reducible rfl
      simp only [Act.put, List.setIfInBounds_toArray, List.set_cons_zero, List.set_cons_succ]
      refine wpAnyH_take (i := 22) (oi := osn17) (v := undef) rfl (by kernel_rfl) (by kernel_rfl) (by kernel_rfl) (fun _ _ _ h => h) (Or.inr ⟨by rfl, rfl⟩) (by assumption) ?_
      simp only [Act.put, List.setIfInBounds_toArray, List.set_cons_zero, List.set_cons_succ]
      refine wpAnyH_take (i := 23) (oi := osn18) (v := undef) rfl (by kernel_rfl) (by kernel_rfl) (by kernel_rfl) (fun _ _ _ h => h) (Or.inr ⟨by rfl, rfl⟩) (by assumption) ?_
      simp only [Act.put, List.setIfInBounds_toArray, List.set_cons_zero, List.set_cons_succ]
      refine wpAnyH_take (i := 24) (oi := osn21) (v := undef) rfl (by kernel_rfl) (by kernel_rfl) (by kernel_rfl) (fun _ _ _ h => h) (Or.inr ⟨by rfl, rfl⟩) (by assumption) ?_
      simp only [Act.put, List.setIfInBounds_toArray, List.set_cons_zero, List.set_cons_succ]
      refine wpAnyH_take (i := 25) (oi := osn19) (v := ?_) rfl (by kernel_rfl) (by kernel_rfl) (by kernel_rfl) (fun _ _ _ h => h) (Or.inl ⟨by rfl, ?_⟩) (by assumption) ?_
      rotate_left
      · intro w' hSw; obtain ⟨d1, d2, d3, d4, d5⟩ := hSw; simp only [osn19]; go_simp; try with_reducible rfl
      simp only [Act.put, List.setIfInBounds_toArray, List.set_cons_zero, List.set_cons_succ]
      refine wpAnyH_take (i := 26) (oi := osn20) (v := ?_) rfl (by kernel_rfl) (by kernel_rfl) (by kernel_rfl) (fun _ _ _ h => h) (Or.inl ⟨by rfl, ?_⟩) (by assumption) ?_
      rotate_left
      · intro w' hSw; obtain ⟨d1, d2, d3, d4, d5⟩ := hSw; simp only [osn20]; go_simp; try with_reducible rfl
      simp only [Act.put, List.setIfInBounds_toArray, List.set_cons_zero, List.set_cons_succ]
      refine wpAnyH_done (by kernel_rfl) ?_ _
      go_wp2
      go_ret
      exact ⟨false, rfl, ⟨(fun e => by cases e), fun q => absurd q.sp g1⟩, by rw [hX]; exact HB.out _ z2⟩
  · have Q0 := K0.out
    simp only [decide_eq_false g0] at Q0
    have K0 := Lib.hid Q0
    clear Q0
    go_enter Tryz.func24, Tryz.ntmps24
    go_wp2
    generalize hX : w.heap.size = X at *
    generalize (w.alloc (.cells #[.string (str t.nm), .int .i64 t.wm, .slice a.a0 t.sp.length a.c0, .slice a.a1 t.ci.length a.c1, .slice a.a2 t.no.length a.c2, .slice a.a3 t.bf.length a.c3] 33)) = V1 at *
    have z0 : Below V1.heap.size V1 V1.drew := (Below.refl _ _).drew
    refine wp_region_held_drew (S := fun w' => w'.cell? ⟨X, 1, none⟩ = some (.int .i64 t.wm) ∧ w'.cell? ⟨X, 2, none⟩ = some (.slice a.a0 t.sp.length a.c0) ∧ w'.cell? ⟨X, 3, none⟩ = some (.slice a.a1 t.ci.length a.c1) ∧ w'.cell? ⟨X, 4, none⟩ = some (.slice a.a2 t.no.length a.c2) ∧ w'.cell? ⟨X, 5, none⟩ = some (.slice a.a3 t.bf.length a.c3)) (by kernel_rfl) (HS.out _ z0) (fun hS0 => ?_)
    try dsimp only at hS0
    refine wpAnyH_take (i := 0) (oi := osn0) (v := ?_) rfl (by kernel_rfl) (by kernel_rfl) (by kernel_rfl) (fun _ _ _ h => h) (Or.inl ⟨by rfl, ?_⟩) (by assumption) ?_
    rotate_left
    · intro w' hSw; obtain ⟨d1, d2, d3, d4, d5⟩ := hSw; simp only [osn0]; go_simp; try with_reducible rfl
    simp only [Act.put, List.setIfInBounds_toArray, List.set_cons_zero, List.set_cons_succ]
    refine wpAnyH_take (i := 1) (oi := osn1) (v := ?_) rfl (by kernel_rfl) (by kernel_rfl) (by kernel_rfl) (fun _ _ _ h => h) (Or.inl ⟨by rfl, ?_⟩) (by assumption) ?_
    rotate_left
    · intro w' hSw; obtain ⟨d1, d2, d3, d4, d5⟩ := hSw; simp only [osn1]; go_simp; try with_reducible rfl
    simp only [Act.put, List.setIfInBounds_toArray, List.set_cons_zero, List.set_cons_succ]
    refine wpAnyH_ready (rs := [2]) (by kernel_rfl) (by simp) (AllReadyH.cons rfl (fun K hK => ?_) AllReadyH.nil)
    go_simp
    go_wp2_with (go_at_call 44; (with_reducible refine (K0.out _).mono ?_); rintro e v0 ⟨rfl, rfl⟩)
    refine hK.out _ _ (HS.out _ z0) (fun hS2 => ?_)
    clear hK K
    refine wpAnyH_take (i := 3) (oi := osn2) (v := ?_) rfl (by kernel_rfl) (by kernel_rfl) (by kernel_rfl) (fun _ _ _ h => h) (Or.inl ⟨by rfl, ?_⟩) (by assumption) ?_
    rotate_left
    · intro w' hSw; obtain ⟨d1, d2, d3, d4, d5⟩ := hSw; simp only [osn2]; go_simp; try with_reducible rfl
    simp only [Act.put, List.setIfInBounds_toArray, List.set_cons_zero, List.set_cons_succ]
    refine wpAnyH_take (i := 4) (oi := osn3) (v := undef) rfl (by kernel_rfl) (by kernel_rfl) (by kernel_rfl) (fun _ _ _ h => h) (Or.inr ⟨by rfl, rfl⟩) (by assumption) ?_
    simp only [Act.put, List.setIfInBounds_toArray, List.set_cons_zero, List.set_cons_succ]
    refine wpAnyH_take (i := 5) (oi := osn4) (v := undef) rfl (by kernel_rfl) (by kernel_rfl) (by kernel_rfl) (fun _ _ _ h => h) (Or.inr ⟨by rfl, rfl⟩) (by assumption) ?_
    simp only [Act.put, List.setIfInBounds_toArray, List.set_cons_zero, List.set_cons_succ]
    refine wpAnyH_take (i := 6) (oi := osn5) (v := undef) rfl (by kernel_rfl) (by kernel_rfl) (by kernel_rfl) (fun _ _ _ h => h) (Or.inr ⟨by rfl, rfl⟩) (by assumption) ?_
    simp only [Act.put, List.setIfInBounds_toArray, List.set_cons_zero, List.set_cons_succ]
    refine wpAnyH_take (i := 7) (oi := osn6) (v := undef) rfl (by kernel_rfl) (by kernel_rfl) (by kernel_rfl) (fun _ _ _ h => h) (Or.inr ⟨by rfl, rfl⟩) (by assumption) ?_
    simp only [Act.put, List.setIfInBounds_toArray, List.set_cons_zero, List.set_cons_succ]
    refine wpAnyH_take (i := 8) (oi := { dst := some 11, op := Op.call { callee := Callee.value (Operand.func 46), args := #[Operand.tmp 10], argTypes := #[23] }, type := 23, pos := "sem.go:32", after := #[{ on := 7, ground := Ground.data }, { on := 3, ground := Ground.chain }, { on := 3, ground := Ground.guard }], guard := some (3, true) }) (v := undef) rfl (by kernel_rfl) (by kernel_rfl) (by kernel_rfl) (fun _ _ _ h => h) (Or.inr ⟨by rfl, rfl⟩) (by assumption) ?_
    simp only [Act.put, List.setIfInBounds_toArray, List.set_cons_zero, List.set_cons_succ]
    refine wpAnyH_take (i := 9) (oi := { dst := some 12, op := Op.call { callee := Callee.value (Operand.func 45), args := #[Operand.tmp 8, Operand.tmp 11], argTypes := #[23, 23] }, type := 4, pos := "sem.go:32", after := #[{ on := 5, ground := Ground.data }, { on := 8, ground := Ground.data }, { on := 8, ground := Ground.chain }, { on := 3, ground := Ground.guard }], guard := some (3, true) }) (v := undef) rfl (by kernel_rfl) (by kernel_rfl) (by kernel_rfl) (fun _ _ _ h => h) (Or.inr ⟨by rfl, rfl⟩) (by assumption) ?_
    simp only [Act.put, List.setIfInBounds_toArray, List.set_cons_zero, List.set_cons_succ]
    refine wpAnyH_take (i := 10) (oi := osn7) (v := ?_) rfl (by kernel_rfl) (by kernel_rfl) (by kernel_rfl) (fun _ _ _ h => h) (Or.inl ⟨by rfl, ?_⟩) (by assumption) ?_
    rotate_left
    · intro w' hSw; obtain ⟨d1, d2, d3, d4, d5⟩ := hSw; simp only [osn7]; go_simp; try with_reducible rfl
    simp only [Act.put, List.setIfInBounds_toArray, List.set_cons_zero, List.set_cons_succ]
    refine wpAnyH_take (i := 11) (oi := osn8) (v := ?_) rfl (by kernel_rfl) (by kernel_rfl) (by kernel_rfl) (fun _ _ _ h => h) (Or.inl ⟨by rfl, ?_⟩) (by assumption) ?_
    rotate_left
    · intro w' hSw; obtain ⟨d1, d2, d3, d4, d5⟩ := hSw; simp only [osn8]; go_simp; try with_reducible rfl
    simp only [Act.put, List.setIfInBounds_toArray, List.set_cons_zero, List.set_cons_succ]
    refine wpAnyH_take (i := 12) (oi := osn9) (v := undef) rfl (by kernel_rfl) (by kernel_rfl) (by kernel_rfl) (fun _ _ _ h => h) (Or.inr ⟨by rfl, rfl⟩) (by assumption) ?_
    simp only [Act.put, List.setIfInBounds_toArray, List.set_cons_zero, List.set_cons_succ]
    refine wpAnyH_take (i := 13) (oi := osn10) (v := undef) rfl (by kernel_rfl) (by kernel_rfl) (by kernel_rfl) (fun _ _ _ h => h) (Or.inr ⟨by rfl, rfl⟩) (by assumption) ?_
    simp only [Act.put, List.setIfInBounds_toArray, List.set_cons_zero, List.set_cons_succ]
    refine wpAnyH_take (i := 14) (oi := osn23) (v := undef) rfl (by kernel_rfl) (by kernel_rfl) (by kernel_rfl) (fun _ _ _ h => h) (Or.inr ⟨by rfl, rfl⟩) (by assumption) ?_
    simp only [Act.put, List.setIfInBounds_toArray, List.set_cons_zero, List.set_cons_succ]
    refine wpAnyH_take (i := 15) (oi := osn11) (v := ?_) rfl (by kernel_rfl) (by kernel_rfl) (by kernel_rfl) (fun _ _ _ h => h) (Or.inl ⟨by rfl, ?_⟩) (by assumption) ?_
    rotate_left
    · intro w' hSw; obtain ⟨d1, d2, d3, d4, d5⟩ := hSw; simp only [osn11]; go_simp; try with_reducible rfl
    simp only [Act.put, List.setIfInBounds_toArray, List.set_cons_zero, List.set_cons_succ]
    refine wpAnyH_take (i := 16) (oi := osn12) (v := ?_) rfl (by kernel_rfl) (by kernel_rfl) (by kernel_rfl) (fun _ _ _ h => h) (Or.inl ⟨by rfl, ?_⟩) (by assumption) ?_
    rotate_left
    · intro w' hSw; obtain ⟨d1, d2, d3, d4, d5⟩ := hSw; simp only [osn12]; go_simp; try with_reducible rfl
    simp only [Act.put, List.setIfInBounds_toArray, List.set_cons_zero, List.set_cons_succ]
    refine wpAnyH_take (i := 17) (oi := osn13) (v := undef) rfl (by kernel_rfl) (by kernel_rfl) (by kernel_rfl) (fun _ _ _ h => h) (Or.inr ⟨by rfl, rfl⟩) (by assumption) ?_
    simp only [Act.put, List.setIfInBounds_toArray, List.set_cons_zero, List.set_cons_succ]
    refine wpAnyH_take (i := 18) (oi := osn14) (v := undef) rfl (by kernel_rfl) (by kernel_rfl) (by kernel_rfl) (fun _ _ _ h => h) (Or.inr ⟨by rfl, rfl⟩) (by assumption) ?_
    simp only [Act.put, List.setIfInBounds_toArray, List.set_cons_zero, List.set_cons_succ]
    refine wpAnyH_take (i := 19) (oi := osn22) (v := undef) rfl (by kernel_rfl) (by kernel_rfl) (by kernel_rfl) (fun _ _ _ h => h) (Or.inr ⟨by rfl, rfl⟩) (by assumption) ?_
    simp only [Act.put, List.setIfInBounds_toArray, List.set_cons_zero, List.set_cons_succ]
    refine wpAnyH_take (i := 20) (oi := osn15) (v := ?_) rfl (by kernel_rfl) (by kernel_rfl) (by kernel_rfl) (fun _ _ _ h => h) (Or.inl ⟨by rfl, ?_⟩) (by assumption) ?_
    rotate_left
    · intro w' hSw; obtain ⟨d1, d2, d3, d4, d5⟩ := hSw; simp only [osn15]; go_simp; try with_reducible rfl
    simp only [Act.put, List.setIfInBounds_toArray, List.set_cons_zero, List.set_cons_succ]
    refine wpAnyH_take (i := 21) (oi := osn16) (v := ?_) rfl (by kernel_rfl) (by kernel_rfl) (by kernel_rfl) (fun _ _ _ h => h) (Or.inl ⟨by rfl, ?_⟩) (by assumption) ?_
    rotate_left
    · intro w' hSw; obtain ⟨d1, d2, d3, d4, d5⟩ := hSw; simp only [osn16]; go_simp; try with_reducible rfl
    simp only [Act.put, List.setIfInBounds_toArray, List.set_cons_zero, List.set_cons_succ]
    refine wpAnyH_take (i := 22) (oi := osn17) (v := undef) rfl (by kernel_rfl) (by kernel_rfl) (by kernel_rfl) (fun _ _ _ h => h) (Or.inr ⟨by rfl, rfl⟩) (by assumption) ?_
    simp only [Act.put, List.setIfInBounds_toArray, List.set_cons_zero, List.set_cons_succ]
    refine wpAnyH_take (i := 23) (oi := osn18) (v := undef) rfl (by kernel_rfl) (by kernel_rfl) (by kernel_rfl) (fun _ _ _ h => h) (Or.inr ⟨by rfl, rfl⟩) (by assumption) ?_
    simp only [Act.put, List.setIfInBounds_toArray, List.set_cons_zero, List.set_cons_succ]
    refine wpAnyH_take (i := 24) (oi := osn21) (v := undef) rfl (by kernel_rfl) (by kernel_rfl) (by kernel_rfl) (fun _ _ _ h => h) (Or.inr ⟨by rfl, rfl⟩) (by assumption) ?_
    simp only [Act.put, List.setIfInBounds_toArray, List.set_cons_zero, List.set_cons_succ]
    refine wpAnyH_take (i := 25) (oi := osn19) (v := ?_) rfl (by kernel_rfl) (by kernel_rfl) (by kernel_rfl) (fun _ _ _ h => h) (Or.inl ⟨by rfl, ?_⟩) (by assumption) ?_
    rotate_left
    · intro w' hSw; obtain ⟨d1, d2, d3, d4, d5⟩ := hSw; simp only [osn19]; go_simp; try with_reducible rfl
    simp only [Act.put, List.setIfInBounds_toArray, List.set_cons_zero, List.set_cons_succ]
    refine wpAnyH_take (i := 26) (oi := osn20) (v := ?_) rfl (by kernel_rfl) (by kernel_rfl) (by kernel_rfl) (fun _ _ _ h => h) (Or.inl ⟨by rfl, ?_⟩) (by assumption) ?_
    rotate_left
    · intro w' hSw; obtain ⟨d1, d2, d3, d4, d5⟩ := hSw; simp only [osn20]; go_simp; try with_reducible rfl
    simp only [Act.put, List.setIfInBounds_toArray, List.set_cons_zero, List.set_cons_succ]
    refine wpAnyH_done (by kernel_rfl) ?_ _
    go_wp2
    go_ret
    exact ⟨false, rfl, ⟨(fun e => by cases e), fun q => absurd q.wm g0⟩, by rw [hX]; exact HB.out _ z0⟩
end Go.Proofs.YtmjneokjgcgchaaGreat
