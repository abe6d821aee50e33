/-
  The document's own parser: section.
-/
import Derived.Test.YthcnjiigkmljnaaGreatDoorSynRef10
import Derived.Test.YthcnjiigkmljnaaGreatDoorPart6
import Derived.Test.YthcnjiigkmljnaaGreatDoorSynSec1
import Derived.Deep.RegionHeld
namespace Go.Proofs.YthcnjiigkmljnaaGreatDoor
open Go.RowKit

theorem infoRE : (Tryz.prog.info? 75).map (fun i => (i.zero, i.size, i.bytes)) = some (some (.agg #[.int .i64 0, .int .i64 0, .int .i64 0, .int .i64 0, .int .i64 0, .slice none 0 0, .slice none 0 0]), 7, 88) := by kernel_rfl
/-- From one condition on the worlds of a region to a narrower one. -/
theorem held_switch {Pr : Program} {md : Region.Mode} {ops : Array Oper} {Q : Exit → Act → World → Prop} {S S' : World → Prop} (hs : ∀ w, S' w → S w) : ∀ {fuel : Nat} {listed : Array Bool} {ac : Act} {w : World}, wpAnyH Pr md ops Q S' fuel listed ac w → wpAnyH Pr md ops Q S fuel listed ac w
  | 0, _, _, _, h => h
  | _ + 1, _, _, _, h => ⟨h.1, fun i hi => wpOp_mono (fun _ _ h' => ⟨hs _ h'.1, held_switch hs h'.2⟩) (h.2 i hi)⟩
/-- What section leaves. -/
def Px (w : World) (P : Nat) (A : Option Addr) (c : Nat) (L : List Tk) (en kind n : Int) (i : Nat) (a e : Int) (r : Ending) (w' : World) : Prop :=
  ∃ (v : Value) (es : List En) (i' : Nat) (a' e' : Int), r = .returned v ∧ Ex w' (fun b => b < w.heap.size) v es ∧ Ps w' P A c L i' en a' e' ∧ i' ≤ L.length ∧ Fr w w' P ∧ ((e ≠ 0 ∧ a' = a ∧ e' = e) ∨ (e = 0 ∧ SecD L en kind n i a es i' a' e'))
section
variable {w : World} {P : Nat} {A : Option Addr} {c : Nat} {L : List Tk} {i : Nat} {en a e : Int}
set_option maxRecDepth 100000 in
set_option maxHeartbeats 1000000 in
theorem psection_err (h : Ps w P A c L i en a e) (hi : i ≤ L.length) (he : e ≠ 0) (k n : Int) :
    Calls Tryz.prog 30 #[.pointer (some ⟨P, 0, none⟩), .int .i64 k, .int .i64 n] w (Px w P A c L en k n i a e) := by
  have c4 := h.c4
  have te : (e == 0) = false := by rw [beq_eq_false_iff_ne]; exact he
  have HFin : Hid (Px w P A c L en k n i a e (.returned (.slice none 0 0)) w) := Lib.hid ⟨_, [], i, a, e, rfl, Ex.nil, h, hi, Fr.refl _ _, .inl ⟨he, rfl, rfl⟩⟩
  clear h he
  go_enter Tryz.func30, Tryz.ntmps30
  go_wp2
  go_loopw [7] (fun v wr => v = .slice none 0 0 ∧ wr = w) (fun _ _ => 0)
  case atStart => exact ⟨rfl, rfl⟩
  case round =>
    obtain ⟨rfl, rfl⟩ := hrel
    go_wp2
    refine bodyPost_ret (v := _) (by simp [results, Tryz.results30, go_sem]; try rfl) rfl HFin.out
set_option maxRecDepth 100000 in
set_option maxHeartbeats 4000000 in
theorem psection_ok (h : Ps w P A c L i en a 0) (hi : i ≤ L.length) (hL : Sm L) (k : Nat) (hk2 : 2 ≤ k) (hk8 : k ≤ 8) (n : Int) :
    Calls Tryz.prog 30 #[.pointer (some ⟨P, 0, none⟩), .int .i64 (k : Int), .int .i64 n] w (Px w P A c L en (k : Int) n i a 0) := by
  obtain ⟨e0, he0, hy0, hy1, hy2⟩ := info_parts infoRE
  have hlt := h.lt
  have hL1 := hL.1
  have HP := Lib.hid h
  clear h
  have hap0 : ByteArray.mk #[101, 110, 100] ++ str (wordL (k : Int)) = str (endL (k : Int)) := str_append [101, 110, 100] (wordL (k : Int))
  obtain ⟨wd, hwd⟩ : ∃ wd, wordL (k : Int) = wd := ⟨_, rfl⟩
  obtain ⟨we, hwe⟩ : ∃ we, endL (k : Int) = we := ⟨_, rfl⟩
  have hwl : wd.length ≤ 14 := by rw [← hwd]; rcases (show k = 2 ∨ k = 3 ∨ k = 4 ∨ k = 5 ∨ k = 6 ∨ k = 7 ∨ k = 8 by omega) with rfl | rfl | rfl | rfl | rfl | rfl | rfl <;> decide
  have hap : ByteArray.mk #[101, 110, 100] ++ str wd = str we := by rw [← hwd, ← hwe]; exact hap0
  have HWd := Lib.hid hwd
  have HWe := Lib.hid hwe
  clear hap0 hwd hwe
  go_enter Tryz.func30, Tryz.ntmps30
  go_wp2
  go_loopw [7] (fun v wr => ∃ (out : List (En × Value × Value)) (ir : Nat) (ar er : Int), ir ≤ L.length ∧ (out.length ≤ L.length + 1 ∧ (er = 0 → out.length ≤ ir)) ∧ Hid (Ps wr P A c L ir en ar er) ∧ Hid (Fr w wr P) ∧ Hid (wr.ownsRow w.heap.size 75 7 v out.length (out.flatMap dq)) ∧ Hid (∀ p ∈ out, Eo wr (Xv w.heap.size v) p) ∧ Hid (SecR L en (k : Int) n i a (out.map (·.1)) ir ar er)) (fun _ wr => mP wr P L.length)
  case atStart => exact ⟨[], i, a, 0, hi, ⟨Nat.zero_le _, fun _ => Nat.zero_le _⟩, HP, Lib.hid (Fr.refl _ _), Lib.hid (World.ownsRow_nil _ _ _ _), Lib.hid (fun _ h => by cases h), Lib.hid ⟨fun h => absurd rfl h, fun _ => ⟨rfl, rfl⟩⟩⟩
  case round =>
    obtain ⟨out, ir, ar, er, hir, hol, HQ, HF, HO, HN, HR⟩ := hrel
    obtain ⟨hol, hol0⟩ := hol
    have c4 := HQ.out.c4
    have c0 := HQ.out.c0
    have c1 := HQ.out.c1
    have z1 := HQ.out.z1
    obtain ⟨A', c', hv, _⟩ := row_shape HO.out
    by_cases he : er = 0
    · subst he
      have hol1 : out.length ≤ ir := hol0 rfl
      clear hol0
      cases hat : atW L ir (endL (k : Int)) with
      | true =>
        have hat2 := hat
        simp [atW, atB] at hat2
        obtain ⟨b, o, hAe, hbP, hcl⟩ := HQ.out.tl (by omega)
        obtain ⟨g0, g1, _, g3⟩ := hcl ir hat2.1.1
        subst hAe
        rw [hat2.1.2] at g0
        rw [hat2.2, HWe.out] at g3
        have hil := hat2.1.1
        clear hcl
        have ti : decide (ir < L.length) = true := by simp; omega
        have htk : takeT L en 3 ir = .ok (tg L ir) (ir + 1) := by unfold takeT; rw [if_pos hat2.1.1, if_pos hat2.1.2]
        have hD := HR.out.done (.inr hat) (.inr (.inr ⟨rfl, htk, rfl, rfl⟩) : Oc (takeT L en 3 ir) (fun x => x = noT) ir ar 0 (tg L ir) (ir + 1) ar 0)
        simp only [List.length_map] at hD
        have hbw : b < wr.heap.size := by have := HQ.out.lt; omega
        generalize (tg L ir).at_ = q2 at *
        subst hv
        clear htk hat hat2
        have hS : ∀ w', Below wr.heap.size wr w' → w'.cell? ⟨P, 0, none⟩ = some (.slice (some ⟨b, o, none⟩) L.length c) ∧ w'.cell? ⟨P, 1, none⟩ = some (.int .i64 (ir : Int)) ∧ w'.cell? ⟨b, o + ir * 4, none⟩ = some (.int .i64 3) ∧ w'.cell? ⟨b, o + ir * 4 + 3, none⟩ = some (.string (str we)) := fun w' hb => ⟨(HQ.out.over hb).c0, (HQ.out.over hb).c1, (hb.cell (p := ⟨b, o + ir * 4, none⟩) hbw).trans g0, (hb.cell (p := ⟨b, o + ir * 4 + 3, none⟩) hbw).trans g3⟩
        have HS := Lib.hid hS
        have HG1 := Lib.hid g1
        have HD := Lib.hid hD
        have z0 : Below wr.heap.size wr wr.drew := (Below.refl _ _).drew
        clear hS c0 c1 z1 g0 g3 g1 hD
        go_wp2
        refine wp_region_held_drew (S := fun w' => w'.cell? ⟨P, 0, none⟩ = some (.slice (some ⟨b, o, none⟩) L.length c) ∧ w'.cell? ⟨P, 1, none⟩ = some (.int .i64 (ir : Int)) ∧ w'.cell? ⟨b, o + ir * 4, none⟩ = some (.int .i64 3) ∧ w'.cell? ⟨b, o + ir * 4 + 3, none⟩ = some (.string (str we))) (by kernel_rfl) (HS.out _ z0) (fun hHeld => ?_)
        refine wpAnyH_take (i := 0) (oi := { dst := some 13, op := Op.move (Operand.tmp 0), type := 55, pos := "ref.go:195", after := #[], guard := none }) (v := ?_) rfl (by kernel_rfl) (by kernel_rfl) (by kernel_rfl) (fun _ _ _ h => h) (Or.inl ⟨by rfl, ?_⟩) (by assumption) ?_
        rotate_left
        · intro w' hSw; (try dsimp only at hSw); go_simp; try with_reducible rfl
        simp only [Act.put, List.setIfInBounds_toArray, List.set_cons_zero, List.set_cons_succ]
        refine wpAnyH_take (i := 1) (oi := { dst := some 14, op := Op.nilCheck (Operand.tmp 13), type := 0, pos := "ref.go:195", after := #[{ on := 0, ground := Ground.data }], guard := none }) (v := ?_) rfl (by kernel_rfl) (by kernel_rfl) (by kernel_rfl) (fun _ _ _ h => h) (Or.inl ⟨by rfl, ?_⟩) (by assumption) ?_
        rotate_left
        · intro w' hSw; (try dsimp only at hSw); go_simp; try with_reducible rfl
        simp only [Act.put, List.setIfInBounds_toArray, List.set_cons_zero, List.set_cons_succ]
        refine wpAnyH_take (i := 2) (oi := { dst := some 15, op := Op.fieldAddr 57 (Operand.tmp 14) 1, type := 0, pos := "ref.go:195", after := #[{ on := 1, ground := Ground.data }], guard := none }) (v := ?_) rfl (by kernel_rfl) (by kernel_rfl) (by kernel_rfl) (fun _ _ _ h => h) (Or.inl ⟨by rfl, ?_⟩) (by assumption) ?_
        rotate_left
        · intro w' hSw; (try dsimp only at hSw); go_simp; try with_reducible rfl
        simp only [Act.put, List.setIfInBounds_toArray, List.set_cons_zero, List.set_cons_succ]
        refine wpAnyH_take (i := 3) (oi := { dst := some 16, op := Op.load 3 (Operand.tmp 15), type := 3, pos := "ref.go:195", after := #[{ on := 2, ground := Ground.data }], guard := none }) (v := ?_) rfl (by kernel_rfl) (by kernel_rfl) (by kernel_rfl) (fun _ _ _ h => h) (Or.inl ⟨by rfl, ?_⟩) (by assumption) ?_
        rotate_left
        · intro w' hSw; (try dsimp only at hSw); go_simp; try with_reducible rfl
        simp only [Act.put, List.setIfInBounds_toArray, List.set_cons_zero, List.set_cons_succ]
        refine wpAnyH_take (i := 4) (oi := { dst := some 17, op := Op.move (Operand.tmp 0), type := 55, pos := "ref.go:195", after := #[], guard := none }) (v := ?_) rfl (by kernel_rfl) (by kernel_rfl) (by kernel_rfl) (fun _ _ _ h => h) (Or.inl ⟨by rfl, ?_⟩) (by assumption) ?_
        rotate_left
        · intro w' hSw; (try dsimp only at hSw); go_simp; try with_reducible rfl
        simp only [Act.put, List.setIfInBounds_toArray, List.set_cons_zero, List.set_cons_succ]
        refine wpAnyH_take (i := 5) (oi := { dst := some 18, op := Op.nilCheck (Operand.tmp 17), type := 0, pos := "ref.go:195", after := #[{ on := 4, ground := Ground.data }], guard := none }) (v := ?_) rfl (by kernel_rfl) (by kernel_rfl) (by kernel_rfl) (fun _ _ _ h => h) (Or.inl ⟨by rfl, ?_⟩) (by assumption) ?_
        rotate_left
        · intro w' hSw; (try dsimp only at hSw); go_simp; try with_reducible rfl
        simp only [Act.put, List.setIfInBounds_toArray, List.set_cons_zero, List.set_cons_succ]
        refine wpAnyH_take (i := 6) (oi := { dst := some 19, op := Op.fieldAddr 57 (Operand.tmp 18) 0, type := 0, pos := "ref.go:195", after := #[{ on := 5, ground := Ground.data }], guard := none }) (v := ?_) rfl (by kernel_rfl) (by kernel_rfl) (by kernel_rfl) (fun _ _ _ h => h) (Or.inl ⟨by rfl, ?_⟩) (by assumption) ?_
        rotate_left
        · intro w' hSw; (try dsimp only at hSw); go_simp; try with_reducible rfl
        simp only [Act.put, List.setIfInBounds_toArray, List.set_cons_zero, List.set_cons_succ]
        refine wpAnyH_take (i := 7) (oi := { dst := some 20, op := Op.load 22 (Operand.tmp 19), type := 22, pos := "ref.go:195", after := #[{ on := 6, ground := Ground.data }], guard := none }) (v := ?_) rfl (by kernel_rfl) (by kernel_rfl) (by kernel_rfl) (fun _ _ _ h => h) (Or.inl ⟨by rfl, ?_⟩) (by assumption) ?_
        rotate_left
        · intro w' hSw; (try dsimp only at hSw); go_simp; try with_reducible rfl
        simp only [Act.put, List.setIfInBounds_toArray, List.set_cons_zero, List.set_cons_succ]
        refine wpAnyH_take (i := 8) (oi := { dst := some 21, op := Op.call { callee := Callee.builtin Builtin.len, args := #[Operand.tmp 20], argTypes := #[22] }, type := 3, pos := "ref.go:195", after := #[{ on := 7, ground := Ground.data }], guard := none }) (v := ?_) rfl (by kernel_rfl) (by kernel_rfl) (by kernel_rfl) (fun _ _ _ h => h) (Or.inl ⟨by rfl, ?_⟩) (by assumption) ?_
        rotate_left
        · intro w' hSw; (try dsimp only at hSw); go_simp; try with_reducible rfl
        simp only [Act.put, List.setIfInBounds_toArray, List.set_cons_zero, List.set_cons_succ]
        refine wpAnyH_take (i := 9) (oi := { dst := some 22, op := Op.binOp BinOp.lss 3 (Operand.tmp 16) (Operand.tmp 21) 3, type := 4, pos := "ref.go:195", after := #[{ on := 3, ground := Ground.data }, { on := 8, ground := Ground.data }], guard := none }) (v := ?_) rfl (by kernel_rfl) (by kernel_rfl) (by kernel_rfl) (fun _ _ _ h => h) (Or.inl ⟨by rfl, ?_⟩) (by assumption) ?_
        rotate_left
        · intro w' hSw; (try dsimp only at hSw); go_simp; try with_reducible rfl
        simp only [Act.put, List.setIfInBounds_toArray, List.set_cons_zero, List.set_cons_succ]
        refine wpAnyH_take (i := 10) (oi := { dst := some 23, op := Op.move (Operand.tmp 22), type := 4, pos := "ref.go:195", after := #[{ on := 9, ground := Ground.data }], guard := none }) (v := ?_) rfl (by kernel_rfl) (by kernel_rfl) (by kernel_rfl) (fun _ _ _ h => h) (Or.inl ⟨by rfl, ?_⟩) (by assumption) ?_
        rotate_left
        · intro w' hSw; (try dsimp only at hSw); go_simp; try with_reducible rfl
        simp only [Act.put, List.setIfInBounds_toArray, List.set_cons_zero, List.set_cons_succ]
        refine wpAnyH_take (i := 11) (oi := { dst := some 24, op := Op.move (Operand.tmp 0), type := 55, pos := "ref.go:195", after := #[{ on := 10, ground := Ground.guard }], guard := some (10, true) }) (v := ?_) rfl (by kernel_rfl) (by kernel_rfl) (by kernel_rfl) (fun _ _ _ h => h) (Or.inl ⟨by rfl, ?_⟩) (by assumption) ?_
        rotate_left
        · intro w' hSw; (try dsimp only at hSw); go_simp; try with_reducible rfl
        simp only [Act.put, List.setIfInBounds_toArray, List.set_cons_zero, List.set_cons_succ]
        refine wpAnyH_take (i := 12) (oi := { dst := some 25, op := Op.nilCheck (Operand.tmp 24), type := 0, pos := "ref.go:195", after := #[{ on := 11, ground := Ground.data }, { on := 10, ground := Ground.guard }], guard := some (10, true) }) (v := ?_) rfl (by kernel_rfl) (by kernel_rfl) (by kernel_rfl) (fun _ _ _ h => h) (Or.inl ⟨by rfl, ?_⟩) (by assumption) ?_
        rotate_left
        · intro w' hSw; (try dsimp only at hSw); go_simp; try with_reducible rfl
        simp only [Act.put, List.setIfInBounds_toArray, List.set_cons_zero, List.set_cons_succ]
        refine wpAnyH_take (i := 13) (oi := { dst := some 26, op := Op.fieldAddr 57 (Operand.tmp 25) 0, type := 0, pos := "ref.go:195", after := #[{ on := 12, ground := Ground.data }, { on := 10, ground := Ground.guard }], guard := some (10, true) }) (v := ?_) rfl (by kernel_rfl) (by kernel_rfl) (by kernel_rfl) (fun _ _ _ h => h) (Or.inl ⟨by rfl, ?_⟩) (by assumption) ?_
        rotate_left
        · intro w' hSw; (try dsimp only at hSw); go_simp; try with_reducible rfl
        simp only [Act.put, List.setIfInBounds_toArray, List.set_cons_zero, List.set_cons_succ]
        refine wpAnyH_take (i := 14) (oi := { dst := some 27, op := Op.load 22 (Operand.tmp 26), type := 22, pos := "ref.go:195", after := #[{ on := 13, ground := Ground.data }, { on := 10, ground := Ground.guard }], guard := some (10, true) }) (v := ?_) rfl (by kernel_rfl) (by kernel_rfl) (by kernel_rfl) (fun _ _ _ h => h) (Or.inl ⟨by rfl, ?_⟩) (by assumption) ?_
        rotate_left
        · intro w' hSw; (try dsimp only at hSw); go_simp; try with_reducible rfl
        simp only [Act.put, List.setIfInBounds_toArray, List.set_cons_zero, List.set_cons_succ]
        refine wpAnyH_take (i := 15) (oi := { dst := some 28, op := Op.move (Operand.tmp 0), type := 55, pos := "ref.go:195", after := #[{ on := 10, ground := Ground.guard }], guard := some (10, true) }) (v := ?_) rfl (by kernel_rfl) (by kernel_rfl) (by kernel_rfl) (fun _ _ _ h => h) (Or.inl ⟨by rfl, ?_⟩) (by assumption) ?_
        rotate_left
        · intro w' hSw; (try dsimp only at hSw); go_simp; try with_reducible rfl
        simp only [Act.put, List.setIfInBounds_toArray, List.set_cons_zero, List.set_cons_succ]
        refine wpAnyH_take (i := 16) (oi := { dst := some 29, op := Op.nilCheck (Operand.tmp 28), type := 0, pos := "ref.go:195", after := #[{ on := 15, ground := Ground.data }, { on := 10, ground := Ground.guard }], guard := some (10, true) }) (v := ?_) rfl (by kernel_rfl) (by kernel_rfl) (by kernel_rfl) (fun _ _ _ h => h) (Or.inl ⟨by rfl, ?_⟩) (by assumption) ?_
        rotate_left
        · intro w' hSw; (try dsimp only at hSw); go_simp; try with_reducible rfl
        simp only [Act.put, List.setIfInBounds_toArray, List.set_cons_zero, List.set_cons_succ]
        refine wpAnyH_take (i := 17) (oi := { dst := some 30, op := Op.fieldAddr 57 (Operand.tmp 29) 1, type := 0, pos := "ref.go:195", after := #[{ on := 16, ground := Ground.data }, { on := 10, ground := Ground.guard }], guard := some (10, true) }) (v := ?_) rfl (by kernel_rfl) (by kernel_rfl) (by kernel_rfl) (fun _ _ _ h => h) (Or.inl ⟨by rfl, ?_⟩) (by assumption) ?_
        rotate_left
        · intro w' hSw; (try dsimp only at hSw); go_simp; try with_reducible rfl
        simp only [Act.put, List.setIfInBounds_toArray, List.set_cons_zero, List.set_cons_succ]
        refine wpAnyH_take (i := 18) (oi := { dst := some 31, op := Op.load 3 (Operand.tmp 30), type := 3, pos := "ref.go:195", after := #[{ on := 17, ground := Ground.data }, { on := 10, ground := Ground.guard }], guard := some (10, true) }) (v := ?_) rfl (by kernel_rfl) (by kernel_rfl) (by kernel_rfl) (fun _ _ _ h => h) (Or.inl ⟨by rfl, ?_⟩) (by assumption) ?_
        rotate_left
        · intro w' hSw; (try dsimp only at hSw); go_simp; try with_reducible rfl
        simp only [Act.put, List.setIfInBounds_toArray, List.set_cons_zero, List.set_cons_succ]
        refine wpAnyH_take (i := 19) (oi := { dst := some 32, op := Op.indexAddr 22 (Operand.tmp 27) (Operand.tmp 31), type := 0, pos := "ref.go:195", after := #[{ on := 14, ground := Ground.data }, { on := 18, ground := Ground.data }, { on := 10, ground := Ground.guard }], guard := some (10, true) }) (v := ?_) rfl (by kernel_rfl) (by kernel_rfl) (by kernel_rfl) (fun _ _ _ h => h) (Or.inl ⟨by rfl, ?_⟩) (by assumption) ?_
        rotate_left
        · intro w' hSw; (try dsimp only at hSw); go_simp; try with_reducible rfl
        simp only [Act.put, List.setIfInBounds_toArray, List.set_cons_zero, List.set_cons_succ]
        refine wpAnyH_take (i := 20) (oi := { dst := some 33, op := Op.fieldAddr 42 (Operand.tmp 32) 0, type := 0, pos := "ref.go:195", after := #[{ on := 19, ground := Ground.data }, { on := 10, ground := Ground.guard }], guard := some (10, true) }) (v := ?_) rfl (by kernel_rfl) (by kernel_rfl) (by kernel_rfl) (fun _ _ _ h => h) (Or.inl ⟨by rfl, ?_⟩) (by assumption) ?_
        rotate_left
        · intro w' hSw; (try dsimp only at hSw); go_simp; try with_reducible rfl
        simp only [Act.put, List.setIfInBounds_toArray, List.set_cons_zero, List.set_cons_succ]
        refine wpAnyH_take (i := 21) (oi := { dst := some 34, op := Op.load 3 (Operand.tmp 33), type := 3, pos := "ref.go:195", after := #[{ on := 20, ground := Ground.data }, { on := 10, ground := Ground.guard }], guard := some (10, true) }) (v := ?_) rfl (by kernel_rfl) (by kernel_rfl) (by kernel_rfl) (fun _ _ _ h => h) (Or.inl ⟨by rfl, ?_⟩) (by assumption) ?_
        rotate_left
        · intro w' hSw; (try dsimp only at hSw); go_simp; try with_reducible rfl
        simp only [Act.put, List.setIfInBounds_toArray, List.set_cons_zero, List.set_cons_succ]
        refine wpAnyH_take (i := 22) (oi := { dst := some 35, op := Op.binOp BinOp.eql 3 (Operand.tmp 34) (Operand.const (Value.int IntKind.i64 3)) 3, type := 4, pos := "ref.go:195", after := #[{ on := 21, ground := Ground.data }, { on := 10, ground := Ground.guard }], guard := some (10, true) }) (v := ?_) rfl (by kernel_rfl) (by kernel_rfl) (by kernel_rfl) (fun _ _ _ h => h) (Or.inl ⟨by rfl, ?_⟩) (by assumption) ?_
        rotate_left
        · intro w' hSw; (try dsimp only at hSw); go_simp; try with_reducible rfl
        simp only [Act.put, List.setIfInBounds_toArray, List.set_cons_zero, List.set_cons_succ]
        refine wpAnyH_take (i := 23) (oi := { dst := some 36, op := Op.pick (Operand.tmp 23) (Operand.tmp 35) (Operand.const (Value.bool false)), type := 4, pos := "ref.go:195", after := #[{ on := 10, ground := Ground.data }, { on := 22, ground := Ground.data }], guard := none }) (v := ?_) rfl (by kernel_rfl) (by kernel_rfl) (by kernel_rfl) (fun _ _ _ h => h) (Or.inl ⟨by rfl, ?_⟩) (by assumption) ?_
        rotate_left
        · intro w' hSw; (try dsimp only at hSw); go_simp; try with_reducible rfl
        simp only [Act.put, List.setIfInBounds_toArray, List.set_cons_zero, List.set_cons_succ]
        refine wpAnyH_take (i := 24) (oi := { dst := some 37, op := Op.move (Operand.tmp 36), type := 4, pos := "ref.go:195", after := #[{ on := 23, ground := Ground.data }, { on := 10, ground := Ground.chain }], guard := none }) (v := ?_) rfl (by kernel_rfl) (by kernel_rfl) (by kernel_rfl) (fun _ _ _ h => h) (Or.inl ⟨by rfl, ?_⟩) (by assumption) ?_
        rotate_left
        · intro w' hSw; (try dsimp only at hSw); go_simp; try with_reducible rfl
        simp only [Act.put, List.setIfInBounds_toArray, List.set_cons_zero, List.set_cons_succ]
        refine wpAnyH_take (i := 25) (oi := { dst := some 38, op := Op.move (Operand.tmp 0), type := 55, pos := "ref.go:195", after := #[{ on := 24, ground := Ground.guard }], guard := some (24, true) }) (v := ?_) rfl (by kernel_rfl) (by kernel_rfl) (by kernel_rfl) (fun _ _ _ h => h) (Or.inl ⟨by rfl, ?_⟩) (by assumption) ?_
        rotate_left
        · intro w' hSw; (try dsimp only at hSw); go_simp; try with_reducible rfl
        simp only [Act.put, List.setIfInBounds_toArray, List.set_cons_zero, List.set_cons_succ]
        refine wpAnyH_take (i := 26) (oi := { dst := some 39, op := Op.nilCheck (Operand.tmp 38), type := 0, pos := "ref.go:195", after := #[{ on := 25, ground := Ground.data }, { on := 24, ground := Ground.guard }], guard := some (24, true) }) (v := ?_) rfl (by kernel_rfl) (by kernel_rfl) (by kernel_rfl) (fun _ _ _ h => h) (Or.inl ⟨by rfl, ?_⟩) (by assumption) ?_
        rotate_left
        · intro w' hSw; (try dsimp only at hSw); go_simp; try with_reducible rfl
        simp only [Act.put, List.setIfInBounds_toArray, List.set_cons_zero, List.set_cons_succ]
        refine wpAnyH_take (i := 27) (oi := { dst := some 40, op := Op.fieldAddr 57 (Operand.tmp 39) 0, type := 0, pos := "ref.go:195", after := #[{ on := 26, ground := Ground.data }, { on := 24, ground := Ground.guard }], guard := some (24, true) }) (v := ?_) rfl (by kernel_rfl) (by kernel_rfl) (by kernel_rfl) (fun _ _ _ h => h) (Or.inl ⟨by rfl, ?_⟩) (by assumption) ?_
        rotate_left
        · intro w' hSw; (try dsimp only at hSw); go_simp; try with_reducible rfl
        simp only [Act.put, List.setIfInBounds_toArray, List.set_cons_zero, List.set_cons_succ]
        refine wpAnyH_take (i := 28) (oi := { dst := some 41, op := Op.load 22 (Operand.tmp 40), type := 22, pos := "ref.go:195", after := #[{ on := 27, ground := Ground.data }, { on := 24, ground := Ground.guard }], guard := some (24, true) }) (v := ?_) rfl (by kernel_rfl) (by kernel_rfl) (by kernel_rfl) (fun _ _ _ h => h) (Or.inl ⟨by rfl, ?_⟩) (by assumption) ?_
        rotate_left
        · intro w' hSw; (try dsimp only at hSw); go_simp; try with_reducible rfl
        simp only [Act.put, List.setIfInBounds_toArray, List.set_cons_zero, List.set_cons_succ]
        refine wpAnyH_take (i := 29) (oi := { dst := some 42, op := Op.move (Operand.tmp 0), type := 55, pos := "ref.go:195", after := #[{ on := 24, ground := Ground.guard }], guard := some (24, true) }) (v := ?_) rfl (by kernel_rfl) (by kernel_rfl) (by kernel_rfl) (fun _ _ _ h => h) (Or.inl ⟨by rfl, ?_⟩) (by assumption) ?_
        rotate_left
        · intro w' hSw; (try dsimp only at hSw); go_simp; try with_reducible rfl
        simp only [Act.put, List.setIfInBounds_toArray, List.set_cons_zero, List.set_cons_succ]
        refine wpAnyH_take (i := 30) (oi := { dst := some 43, op := Op.nilCheck (Operand.tmp 42), type := 0, pos := "ref.go:195", after := #[{ on := 29, ground := Ground.data }, { on := 24, ground := Ground.guard }], guard := some (24, true) }) (v := ?_) rfl (by kernel_rfl) (by kernel_rfl) (by kernel_rfl) (fun _ _ _ h => h) (Or.inl ⟨by rfl, ?_⟩) (by assumption) ?_
        rotate_left
        · intro w' hSw; (try dsimp only at hSw); go_simp; try with_reducible rfl
        simp only [Act.put, List.setIfInBounds_toArray, List.set_cons_zero, List.set_cons_succ]
        refine wpAnyH_take (i := 31) (oi := { dst := some 44, op := Op.fieldAddr 57 (Operand.tmp 43) 1, type := 0, pos := "ref.go:195", after := #[{ on := 30, ground := Ground.data }, { on := 24, ground := Ground.guard }], guard := some (24, true) }) (v := ?_) rfl (by kernel_rfl) (by kernel_rfl) (by kernel_rfl) (fun _ _ _ h => h) (Or.inl ⟨by rfl, ?_⟩) (by assumption) ?_
        rotate_left
        · intro w' hSw; (try dsimp only at hSw); go_simp; try with_reducible rfl
        simp only [Act.put, List.setIfInBounds_toArray, List.set_cons_zero, List.set_cons_succ]
        refine wpAnyH_take (i := 32) (oi := { dst := some 45, op := Op.load 3 (Operand.tmp 44), type := 3, pos := "ref.go:195", after := #[{ on := 31, ground := Ground.data }, { on := 24, ground := Ground.guard }], guard := some (24, true) }) (v := ?_) rfl (by kernel_rfl) (by kernel_rfl) (by kernel_rfl) (fun _ _ _ h => h) (Or.inl ⟨by rfl, ?_⟩) (by assumption) ?_
        rotate_left
        · intro w' hSw; (try dsimp only at hSw); go_simp; try with_reducible rfl
        simp only [Act.put, List.setIfInBounds_toArray, List.set_cons_zero, List.set_cons_succ]
        refine wpAnyH_take (i := 33) (oi := { dst := some 46, op := Op.indexAddr 22 (Operand.tmp 41) (Operand.tmp 45), type := 0, pos := "ref.go:195", after := #[{ on := 28, ground := Ground.data }, { on := 32, ground := Ground.data }, { on := 24, ground := Ground.guard }], guard := some (24, true) }) (v := ?_) rfl (by kernel_rfl) (by kernel_rfl) (by kernel_rfl) (fun _ _ _ h => h) (Or.inl ⟨by rfl, ?_⟩) (by assumption) ?_
        rotate_left
        · intro w' hSw; (try dsimp only at hSw); go_simp; try with_reducible rfl
        simp only [Act.put, List.setIfInBounds_toArray, List.set_cons_zero, List.set_cons_succ]
        refine wpAnyH_take (i := 34) (oi := { dst := some 47, op := Op.fieldAddr 42 (Operand.tmp 46) 3, type := 0, pos := "ref.go:195", after := #[{ on := 33, ground := Ground.data }, { on := 24, ground := Ground.guard }], guard := some (24, true) }) (v := ?_) rfl (by kernel_rfl) (by kernel_rfl) (by kernel_rfl) (fun _ _ _ h => h) (Or.inl ⟨by rfl, ?_⟩) (by assumption) ?_
        rotate_left
        · intro w' hSw; (try dsimp only at hSw); go_simp; try with_reducible rfl
        simp only [Act.put, List.setIfInBounds_toArray, List.set_cons_zero, List.set_cons_succ]
        refine wpAnyH_take (i := 35) (oi := { dst := some 48, op := Op.load 9 (Operand.tmp 47), type := 9, pos := "ref.go:195", after := #[{ on := 34, ground := Ground.data }, { on := 24, ground := Ground.guard }], guard := some (24, true) }) (v := ?_) rfl (by kernel_rfl) (by kernel_rfl) (by kernel_rfl) (fun _ _ _ h => h) (Or.inl ⟨by rfl, ?_⟩) (by assumption) ?_
        rotate_left
        · intro w' hSw; (try dsimp only at hSw); go_simp; try with_reducible rfl
        simp only [Act.put, List.setIfInBounds_toArray, List.set_cons_zero, List.set_cons_succ]
        refine wpAnyH_take (i := 37) (oi := { dst := some 50, op := Op.move (Operand.tmp 1), type := 3, pos := "ref.go:195", after := #[{ on := 24, ground := Ground.guard }], guard := some (24, true) }) (v := ?_) rfl (by kernel_rfl) (by kernel_rfl) (by kernel_rfl) (fun _ _ _ h => h) (Or.inl ⟨by rfl, ?_⟩) (by assumption) ?_
        rotate_left
        · intro w' hSw; (try dsimp only at hSw); go_simp; try with_reducible rfl
        simp only [Act.put, List.setIfInBounds_toArray, List.set_cons_zero, List.set_cons_succ]
        refine wpAnyH_ready (rs := [36]) (by kernel_rfl) (by simp) (AllReadyH.cons rfl (fun K hK => ?_) AllReadyH.nil)
        go_simp
        go_wp2_with (go_at_call 22; refine (words_any _).mono ?_; rintro r w2 ⟨bw, rfl, hbw1, hbw2, hwc, hb2⟩)
        have hwk := hwc k (by omega)
        rw [HWd.out] at hwk
        have hb2' : Below wr.heap.size wr w2 := z0.trans (hb2.mono z0.size)
        have hcells := HS.out _ hb2'
        clear hwc hb2
        refine hK.out _ _ hcells (fun _ => held_switch (S' := fun w' => w' = w2) (fun w' hw => by subst hw; exact hcells) ?_)
        clear hK K hHeld
        obtain ⟨d0, d1, d2, d3⟩ := id hcells
        have hww : w2 = w2 := rfl
        have hk9 : (k : Int) < 9 := by omega
        have hwl3 : ¬ 9223372036854775807 < 3 + wd.length := by omega
        refine wpAnyH_take (i := 38) (oi := { dst := some 51, op := Op.indexAddr 65 (Operand.tmp 49) (Operand.tmp 50), type := 0, pos := "ref.go:195", after := #[{ on := 36, ground := Ground.data }, { on := 37, ground := Ground.data }, { on := 24, ground := Ground.guard }], guard := some (24, true) }) (v := ?_) rfl (by kernel_rfl) (by kernel_rfl) (by kernel_rfl) (fun _ _ _ h => h) (Or.inl ⟨by rfl, ?_⟩) (by assumption) ?_
        rotate_left
        · intro w' hSw; subst hSw; go_simp; try with_reducible rfl
        simp only [Act.put, List.setIfInBounds_toArray, List.set_cons_zero, List.set_cons_succ]
        refine wpAnyH_take (i := 39) (oi := { dst := some 52, op := Op.load 9 (Operand.tmp 51), type := 9, pos := "ref.go:195", after := #[{ on := 38, ground := Ground.data }, { on := 24, ground := Ground.guard }], guard := some (24, true) }) (v := ?_) rfl (by kernel_rfl) (by kernel_rfl) (by kernel_rfl) (fun _ _ _ h => h) (Or.inl ⟨by rfl, ?_⟩) (by assumption) ?_
        rotate_left
        · intro w' hSw; subst hSw; go_simp; try with_reducible rfl
        simp only [Act.put, List.setIfInBounds_toArray, List.set_cons_zero, List.set_cons_succ]
        refine wpAnyH_take (i := 40) (oi := { dst := some 53, op := Op.binOp BinOp.add 9 (Operand.const (Value.string { data := #[101, 110, 100] })) (Operand.tmp 52) 9, type := 9, pos := "ref.go:195", after := #[{ on := 39, ground := Ground.data }, { on := 24, ground := Ground.guard }], guard := some (24, true) }) (v := ?_) rfl (by kernel_rfl) (by kernel_rfl) (by kernel_rfl) (fun _ _ _ h => h) (Or.inl ⟨by rfl, ?_⟩) (by assumption) ?_
        rotate_left
        · intro w' hSw; subst hSw; go_simp; try with_reducible rfl
        simp only [Act.put, List.setIfInBounds_toArray, List.set_cons_zero, List.set_cons_succ]
        refine wpAnyH_take (i := 41) (oi := { dst := some 54, op := Op.binOp BinOp.eql 9 (Operand.tmp 48) (Operand.tmp 53) 9, type := 4, pos := "ref.go:195", after := #[{ on := 35, ground := Ground.data }, { on := 40, ground := Ground.data }, { on := 24, ground := Ground.guard }], guard := some (24, true) }) (v := ?_) rfl (by kernel_rfl) (by kernel_rfl) (by kernel_rfl) (fun _ _ _ h => h) (Or.inl ⟨by rfl, ?_⟩) (by assumption) ?_
        rotate_left
        · intro w' hSw; subst hSw; go_simp; try with_reducible rfl
        simp only [Act.put, List.setIfInBounds_toArray, List.set_cons_zero, List.set_cons_succ]
        refine wpAnyH_take (i := 42) (oi := { dst := some 55, op := Op.pick (Operand.tmp 37) (Operand.tmp 54) (Operand.const (Value.bool false)), type := 4, pos := "ref.go:195", after := #[{ on := 24, ground := Ground.data }, { on := 41, ground := Ground.data }], guard := none }) (v := ?_) rfl (by kernel_rfl) (by kernel_rfl) (by kernel_rfl) (fun _ _ _ h => h) (Or.inl ⟨by rfl, ?_⟩) (by assumption) ?_
        rotate_left
        · intro w' hSw; subst hSw; go_simp; try with_reducible rfl
        simp only [Act.put, List.setIfInBounds_toArray, List.set_cons_zero, List.set_cons_succ]
        refine wpAnyH_done (by kernel_rfl) ?_ _
        have c1 := (HQ.out.over hb2').c1
        have z1 := (HQ.out.over hb2').z1
        have c0 := (HQ.out.over hb2').c0
        have g1 := (hb2'.cell (p := ⟨b, o + ir * 4 + 1, none⟩) hbw).trans HG1.out
        have HQ2 := Lib.hid (HQ.out.over hb2')
        have hfr2 : Fr wr w2 P := (Fr.refl wr P).over hb2'
        have hbw2 : b < w2.heap.size := by have := hb2'.size; omega
        cases hq : ((out.length : Int) != n) with
        | true =>
          have hD := HD.out
          rw [hq, fA_yes, fE_yes] at hD
          have hF : ∀ w', Ps w' P (some ⟨b, o, none⟩) c L ir en ar 0 → Calls Tryz.prog 19 #[.pointer (some ⟨P, 0, none⟩), .int .i64 q2, .int .i64 6] w' fun r w'' => r = .returned (.tuple #[]) ∧ Ps w'' P (some ⟨b, o, none⟩) c L ir en q2 6 ∧ Fr w' w'' P := fun w' hq => by
            have := pfail_any hq q2 6
            rwa [if_pos rfl, if_pos rfl] at this
          have HFl := Lib.hid hF
          have HD2 := Lib.hid hD
          have HC : Hid (w2.cell? ⟨P, 0, none⟩ = some (.slice (some ⟨b, o, none⟩) L.length c) ∧ w2.cell? ⟨P, 1, none⟩ = some (.int .i64 (ir : Int)) ∧ w2.cell? ⟨b, o + ir * 4 + 1, none⟩ = some (.int .i64 q2)) := Lib.hid ⟨c0, c1, g1⟩
          clear hF hD
          go_wp2
          go_region_held (fun w' => w'.cell? ⟨P, 0, none⟩ = some (.slice (some ⟨b, o, none⟩) L.length c) ∧ w'.cell? ⟨P, 1, none⟩ = some (.int .i64 (ir : Int)) ∧ w'.cell? ⟨b, o + ir * 4 + 1, none⟩ = some (.int .i64 q2))
            (first | exact HC.out | exact hcells4)
            ((go_at_call 19; refine (HFl.out _ HQ2.out.drew).mono ?_; rintro r w4 ⟨rfl, hps, hfr⟩; have hcells4 : w4.cell? ⟨P, 0, none⟩ = some (.slice (some ⟨b, o, none⟩) L.length c) ∧ w4.cell? ⟨P, 1, none⟩ = some (.int .i64 (ir : Int)) ∧ w4.cell? ⟨b, o + ir * 4 + 1, none⟩ = some (.int .i64 q2) := ⟨hps.c0, hps.c1, (hfr.cell ⟨b, o + ir * 4 + 1, none⟩ hbw2 (by show b ≠ P; omega)).trans HC.out.2.2⟩))
          have c1' := hps.c1
          have z1' := hps.z1
          have hfr' : Fr wr w4 P := (hfr2.drew).trans hfr
          have hpn := hps.next (ir + 1)
          have hfn := hfr'.set 1 (.int .i64 ((ir + 1 : Nat) : Int))
          have eir : (((ir + 1 : Nat) : Int)) = (ir : Int) + 1 := by omega
          rw [eir] at hpn hfn
          have HFin : Hid (Px w P (some ⟨b, o, none⟩) c L en (k : Int) n i a 0 (.returned (.slice A' out.length c')) (w4.setCell ⟨P, 1, none⟩ (.int .i64 ((ir : Int) + 1)))) := Lib.hid ⟨_, out.map (·.1), ir + 1, q2, 6, rfl, Ex.of_loop HO.out HN.out hfn hlt, hpn, by omega, HF.out.trans hfn, .inr ⟨rfl, HD2.out⟩⟩
          clear hps hfr hpn hfn hcells4 hfr' c1 z1 c0 g1
          go_wp2
          refine bodyPost_ret (v := _) (by simp [results, Tryz.results30, go_sem]; try rfl) rfl HFin.out
        | false =>
          have hD := HD.out
          rw [hq, fA_no, fE_no] at hD
          have hpn := HQ2.out.next (ir + 1)
          have hfn := hfr2.set 1 (.int .i64 ((ir + 1 : Nat) : Int))
          have eir : (((ir + 1 : Nat) : Int)) = (ir : Int) + 1 := by omega
          rw [eir] at hpn hfn
          have HFin : Hid (Px w P (some ⟨b, o, none⟩) c L en (k : Int) n i a 0 (.returned (.slice A' out.length c')) (w2.setCell ⟨P, 1, none⟩ (.int .i64 ((ir : Int) + 1)))) := Lib.hid ⟨_, out.map (·.1), ir + 1, ar, 0, rfl, Ex.of_loop HO.out HN.out hfn hlt, hpn, by omega, HF.out.trans hfn, .inr ⟨rfl, hD⟩⟩
          clear hpn hfn hD
          go_wp2
          refine bodyPost_ret (v := _) (by simp [results, Tryz.results30, go_sem]; try rfl) rfl HFin.out
      | false =>
        have hgo : decide (ir < L.length) = false ∨ (decide (ir < L.length) = true ∧ ∃ b o q1 q4, A = some ⟨b, o, none⟩ ∧ b < P ∧ wr.cell? ⟨b, o + ir * 4, none⟩ = some (.int .i64 q1) ∧ wr.cell? ⟨b, o + ir * 4 + 3, none⟩ = some (.string (str q4)) ∧ ((q1 == 3) = false ∨ (q1 = 3 ∧ q4 ≠ we))) := by
          by_cases hi2 : ir < L.length
          · right
            refine ⟨by simpa using hi2, ?_⟩
            obtain ⟨b, o, hAe, hbP, hcl⟩ := HQ.out.tl (by omega)
            obtain ⟨g0, _, _, g3⟩ := hcl ir hi2
            refine ⟨b, o, _, _, hAe, hbP, g0, g3, ?_⟩
            by_cases h3 : (tg L ir).kind = 3
            · right
              refine ⟨h3, fun e => ?_⟩
              rw [← HWe.out] at e
              simp [atW, atB, hi2, h3, e] at hat
            · left; rw [beq_eq_false_iff_ne]; exact h3
          · left; simpa using hi2
        have hEn : ∀ w', Below wr.heap.size wr w' → Calls Tryz.prog 52 #[.pointer (some ⟨P, 0, none⟩), .int .i64 (k : Int)] w' (Pe w' P A c L en (k : Int) ir ar 0) := fun w' hb => pent_any (HQ.out.over hb) hir hL (k : Int) (by omega)
        have HEn := Lib.hid hEn
        have HAt := Lib.hid hat
        clear hEn hat hv
        have hsz := HF.out.size
        rcases hgo with ti | ⟨ti, b, o, q1, q4, hAe, hbP, g0, g3, t3 | ⟨t3, hne⟩⟩
        · go_wp2
          go_quiet (fail)
          go_wp2_with fail
          refine (HEn.out _ (below_drewN (Below.refl _ _) _)).mono ?_
          rintro r w3 ⟨p, i2, a2, e2, rfl, heo0, hq3, hi3, hf3, hoc⟩
          have hfr : Fr wr w3 P := ((Fr.refl wr P).drewN _).trans hf3
          have heo : Eo w3 (fun b => b < wr.heap.size) p := heo0
          clear HEn heo0 hf3
          obtain ⟨x, vu, vl⟩ := p
          obtain ⟨Au, cu, hvu, _⟩ := id heo.1
          obtain ⟨Al, nl, cl, hvl⟩ := Lx.shape heo.2
          simp only at hvu hvl
          subst hvu
          subst hvl
          unfold entV
          simp only
          have HR2 := Lib.hid (HR.out.step HAt.out hoc)
          have hown3 := own_fr HO.out hfr hlt
          have HU3 := Lib.hid heo
          have HQ3 := Lib.hid hq3
          have hsz3 := hfr.size
          have hi2 : e2 = 0 → ir + 1 ≤ i2 := by
            intro he
            rcases hoc with ⟨h1, _⟩ | ⟨_, _, h3, _⟩ | ⟨_, h2, _, _⟩
            · exact absurd rfl h1
            · exact absurd he h3
            · exact (ent_ok h2).1
          clear hoc heo hq3
          go_wp2_with (at_builtin; refine wpList_append_lies _ rfl _ _ _ rfl w.heap.size 75 e0 (.agg #[.int .i64 0, .int .i64 0, .int .i64 0, .int .i64 0, .int .i64 0, .slice none 0 0, .slice none 0 0]) 7 88 Tryz.underlying59 he0 hy0 hy1 hy2 rfl (by omega) _ _ _ rfl (hown3.alloc _) ⟨w3.heap.size, 0, none⟩ 1 1 (dq (x, .slice Au x.u.length cu, .slice Al nl cl)) rfl rfl (World.news_of_block (heap_alloc_new w3 _)) (dq_one _ rfl rfl) (by omega) (by unfold maxLen; omega) (by omega) (by simp; omega) _ rfl ?_; intro g cap w4 hown4 hgrow hat4 hgl)
          have hv : ∀ b, u7.ownBlock = some b → w.heap.size ≤ b ∧ b < wr.heap.size := HO.out.lt
          have hbel : Below w.heap.size (w3.alloc (.cells #[.int .i64 x.lo.n, .int .i64 x.lo.v, .int .i64 x.hi.n, .int .i64 x.hi.v, .int .i64 x.to, .slice Au x.u.length cu, .slice Al nl cl] 75)) w4 := (Below.refl _ _).grown hgrow (by simp; omega) (fun k hk => (hv k hk).1)
          have hbA : Below w3.heap.size w3 (w3.alloc (.cells #[.int .i64 x.lo.n, .int .i64 x.lo.v, .int .i64 x.hi.n, .int .i64 x.hi.v, .int .i64 x.to, .slice Au x.u.length cu, .slice Al nl cl] 75)) := (Below.refl _ _).alloc (Nat.le_refl _) _
          have hQ4 := (HQ3.out.alloc (.cells #[.int .i64 x.lo.n, .int .i64 x.lo.v, .int .i64 x.hi.n, .int .i64 x.hi.v, .int .i64 x.to, .slice Au x.u.length cu, .slice Al nl cl] 75)).bel hlt hbel
          have hat5 : u7.ownBlock = some g ∨ g = (w3.alloc (.cells #[.int .i64 x.lo.n, .int .i64 x.lo.v, .int .i64 x.hi.n, .int .i64 x.hi.v, .int .i64 x.to, .slice Au x.u.length cu, .slice Al nl cl] 75)).heap.size := hat4
          refine ⟨⟨out ++ [(x, .slice Au x.u.length cu, .slice Al nl cl)], i2, a2, e2, hi3, ⟨by simp; omega, fun he => by have := hi2 he; simp; omega⟩, Lib.hid hQ4, Lib.hid (((HF.out.trans hfr).alloc _).bel (Nat.le_refl _) hbel), Lib.hid (by rw [flat_snoc, List.length_append]; exact hown4), Lib.hid ?_, Lib.hid (by rw [List.map_append]; exact HR2.out)⟩, ?_⟩
          · intro p hp
            rcases List.mem_append.1 hp with hp | hp
            · exact (HN.out p hp).to (push_old hfr hlt hbA hgrow) (push_oldX (by simp; omega) hat5)
            · obtain rfl : p = (x, .slice Au x.u.length cu, .slice Al nl cl) := by simpa using hp
              exact HU3.out.to (push_new (M := wr.heap.size) (fun b hb => (hv b hb).2) hbA hgrow) (push_newX (by omega) (fun b hb => (hv b hb).2) (by simp) hat5)
          · rw [hQ4.mp, HQ.out.mp, if_pos rfl]
            by_cases he : e2 = 0
            · rw [if_pos he]; have := hi2 he; omega
            · rw [if_neg he]; omega
        · subst hAe
          have hbw : b < wr.heap.size := by have := HQ.out.lt; omega
          have hil : ir < L.length := by simpa using ti
          clear g3
          go_wp2
          go_quiet (fail)
          go_wp2_with fail
          refine (HEn.out _ (below_drewN (Below.refl _ _) _)).mono ?_
          rintro r w3 ⟨p, i2, a2, e2, rfl, heo0, hq3, hi3, hf3, hoc⟩
          have hfr : Fr wr w3 P := ((Fr.refl wr P).drewN _).trans hf3
          have heo : Eo w3 (fun b => b < wr.heap.size) p := heo0
          clear HEn heo0 hf3 g0
          obtain ⟨x, vu, vl⟩ := p
          obtain ⟨Au, cu, hvu, _⟩ := id heo.1
          obtain ⟨Al, nl, cl, hvl⟩ := Lx.shape heo.2
          simp only at hvu hvl
          subst hvu
          subst hvl
          unfold entV
          simp only
          have HR2 := Lib.hid (HR.out.step HAt.out hoc)
          have hown3 := own_fr HO.out hfr hlt
          have HU3 := Lib.hid heo
          have HQ3 := Lib.hid hq3
          have hsz3 := hfr.size
          have hi2 : e2 = 0 → ir + 1 ≤ i2 := by
            intro he
            rcases hoc with ⟨h1, _⟩ | ⟨_, _, h3, _⟩ | ⟨_, h2, _, _⟩
            · exact absurd rfl h1
            · exact absurd he h3
            · exact (ent_ok h2).1
          clear hoc heo hq3
          go_wp2_with (at_builtin; refine wpList_append_lies _ rfl _ _ _ rfl w.heap.size 75 e0 (.agg #[.int .i64 0, .int .i64 0, .int .i64 0, .int .i64 0, .int .i64 0, .slice none 0 0, .slice none 0 0]) 7 88 Tryz.underlying59 he0 hy0 hy1 hy2 rfl (by omega) _ _ _ rfl (hown3.alloc _) ⟨w3.heap.size, 0, none⟩ 1 1 (dq (x, .slice Au x.u.length cu, .slice Al nl cl)) rfl rfl (World.news_of_block (heap_alloc_new w3 _)) (dq_one _ rfl rfl) (by omega) (by unfold maxLen; omega) (by omega) (by simp; omega) _ rfl ?_; intro g cap w4 hown4 hgrow hat4 hgl)
          have hv : ∀ b, u7.ownBlock = some b → w.heap.size ≤ b ∧ b < wr.heap.size := HO.out.lt
          have hbel : Below w.heap.size (w3.alloc (.cells #[.int .i64 x.lo.n, .int .i64 x.lo.v, .int .i64 x.hi.n, .int .i64 x.hi.v, .int .i64 x.to, .slice Au x.u.length cu, .slice Al nl cl] 75)) w4 := (Below.refl _ _).grown hgrow (by simp; omega) (fun k hk => (hv k hk).1)
          have hbA : Below w3.heap.size w3 (w3.alloc (.cells #[.int .i64 x.lo.n, .int .i64 x.lo.v, .int .i64 x.hi.n, .int .i64 x.hi.v, .int .i64 x.to, .slice Au x.u.length cu, .slice Al nl cl] 75)) := (Below.refl _ _).alloc (Nat.le_refl _) _
          have hQ4 := (HQ3.out.alloc (.cells #[.int .i64 x.lo.n, .int .i64 x.lo.v, .int .i64 x.hi.n, .int .i64 x.hi.v, .int .i64 x.to, .slice Au x.u.length cu, .slice Al nl cl] 75)).bel hlt hbel
          have hat5 : u7.ownBlock = some g ∨ g = (w3.alloc (.cells #[.int .i64 x.lo.n, .int .i64 x.lo.v, .int .i64 x.hi.n, .int .i64 x.hi.v, .int .i64 x.to, .slice Au x.u.length cu, .slice Al nl cl] 75)).heap.size := hat4
          refine ⟨⟨out ++ [(x, .slice Au x.u.length cu, .slice Al nl cl)], i2, a2, e2, hi3, ⟨by simp; omega, fun he => by have := hi2 he; simp; omega⟩, Lib.hid hQ4, Lib.hid (((HF.out.trans hfr).alloc _).bel (Nat.le_refl _) hbel), Lib.hid (by rw [flat_snoc, List.length_append]; exact hown4), Lib.hid ?_, Lib.hid (by rw [List.map_append]; exact HR2.out)⟩, ?_⟩
          · intro p hp
            rcases List.mem_append.1 hp with hp | hp
            · exact (HN.out p hp).to (push_old hfr hlt hbA hgrow) (push_oldX (by simp; omega) hat5)
            · obtain rfl : p = (x, .slice Au x.u.length cu, .slice Al nl cl) := by simpa using hp
              exact HU3.out.to (push_new (M := wr.heap.size) (fun b hb => (hv b hb).2) hbA hgrow) (push_newX (by omega) (fun b hb => (hv b hb).2) (by simp) hat5)
          · rw [hQ4.mp, HQ.out.mp, if_pos rfl]
            by_cases he : e2 = 0
            · rw [if_pos he]; have := hi2 he; omega
            · rw [if_neg he]; omega
        · subst hAe
          subst t3
          have hbw : b < wr.heap.size := by have := HQ.out.lt; omega
          have hil : ir < L.length := by simpa using ti
          have hn1 : (q4 == we) = false := by simpa using hne
          have hS : ∀ w', Below wr.heap.size wr w' → w'.cell? ⟨P, 0, none⟩ = some (.slice (some ⟨b, o, none⟩) L.length c) ∧ w'.cell? ⟨P, 1, none⟩ = some (.int .i64 (ir : Int)) ∧ w'.cell? ⟨b, o + ir * 4, none⟩ = some (.int .i64 3) ∧ w'.cell? ⟨b, o + ir * 4 + 3, none⟩ = some (.string (str q4)) := fun w' hb => ⟨(HQ.out.over hb).c0, (HQ.out.over hb).c1, (hb.cell (p := ⟨b, o + ir * 4, none⟩) hbw).trans g0, (hb.cell (p := ⟨b, o + ir * 4 + 3, none⟩) hbw).trans g3⟩
          have HS := Lib.hid hS
          have z0 : Below wr.heap.size wr wr.drew := (Below.refl _ _).drew
          clear hS c0 c1 z1 g0 g3
          go_wp2
          refine wp_region_held_drew (S := fun w' => w'.cell? ⟨P, 0, none⟩ = some (.slice (some ⟨b, o, none⟩) L.length c) ∧ w'.cell? ⟨P, 1, none⟩ = some (.int .i64 (ir : Int)) ∧ w'.cell? ⟨b, o + ir * 4, none⟩ = some (.int .i64 3) ∧ w'.cell? ⟨b, o + ir * 4 + 3, none⟩ = some (.string (str q4))) (by kernel_rfl) (HS.out _ z0) (fun hHeld => ?_)
          refine wpAnyH_take (i := 0) (oi := { dst := some 13, op := Op.move (Operand.tmp 0), type := 55, pos := "ref.go:195", after := #[], guard := none }) (v := ?_) rfl (by kernel_rfl) (by kernel_rfl) (by kernel_rfl) (fun _ _ _ h => h) (Or.inl ⟨by rfl, ?_⟩) (by assumption) ?_
          rotate_left
          · intro w' hSw; (try dsimp only at hSw); go_simp; try with_reducible rfl
          simp only [Act.put, List.setIfInBounds_toArray, List.set_cons_zero, List.set_cons_succ]
          refine wpAnyH_take (i := 1) (oi := { dst := some 14, op := Op.nilCheck (Operand.tmp 13), type := 0, pos := "ref.go:195", after := #[{ on := 0, ground := Ground.data }], guard := none }) (v := ?_) rfl (by kernel_rfl) (by kernel_rfl) (by kernel_rfl) (fun _ _ _ h => h) (Or.inl ⟨by rfl, ?_⟩) (by assumption) ?_
          rotate_left
          · intro w' hSw; (try dsimp only at hSw); go_simp; try with_reducible rfl
          simp only [Act.put, List.setIfInBounds_toArray, List.set_cons_zero, List.set_cons_succ]
          refine wpAnyH_take (i := 2) (oi := { dst := some 15, op := Op.fieldAddr 57 (Operand.tmp 14) 1, type := 0, pos := "ref.go:195", after := #[{ on := 1, ground := Ground.data }], guard := none }) (v := ?_) rfl (by kernel_rfl) (by kernel_rfl) (by kernel_rfl) (fun _ _ _ h => h) (Or.inl ⟨by rfl, ?_⟩) (by assumption) ?_
          rotate_left
          · intro w' hSw; (try dsimp only at hSw); go_simp; try with_reducible rfl
          simp only [Act.put, List.setIfInBounds_toArray, List.set_cons_zero, List.set_cons_succ]
          refine wpAnyH_take (i := 3) (oi := { dst := some 16, op := Op.load 3 (Operand.tmp 15), type := 3, pos := "ref.go:195", after := #[{ on := 2, ground := Ground.data }], guard := none }) (v := ?_) rfl (by kernel_rfl) (by kernel_rfl) (by kernel_rfl) (fun _ _ _ h => h) (Or.inl ⟨by rfl, ?_⟩) (by assumption) ?_
          rotate_left
          · intro w' hSw; (try dsimp only at hSw); go_simp; try with_reducible rfl
          simp only [Act.put, List.setIfInBounds_toArray, List.set_cons_zero, List.set_cons_succ]
          refine wpAnyH_take (i := 4) (oi := { dst := some 17, op := Op.move (Operand.tmp 0), type := 55, pos := "ref.go:195", after := #[], guard := none }) (v := ?_) rfl (by kernel_rfl) (by kernel_rfl) (by kernel_rfl) (fun _ _ _ h => h) (Or.inl ⟨by rfl, ?_⟩) (by assumption) ?_
          rotate_left
          · intro w' hSw; (try dsimp only at hSw); go_simp; try with_reducible rfl
          simp only [Act.put, List.setIfInBounds_toArray, List.set_cons_zero, List.set_cons_succ]
          refine wpAnyH_take (i := 5) (oi := { dst := some 18, op := Op.nilCheck (Operand.tmp 17), type := 0, pos := "ref.go:195", after := #[{ on := 4, ground := Ground.data }], guard := none }) (v := ?_) rfl (by kernel_rfl) (by kernel_rfl) (by kernel_rfl) (fun _ _ _ h => h) (Or.inl ⟨by rfl, ?_⟩) (by assumption) ?_
          rotate_left
          · intro w' hSw; (try dsimp only at hSw); go_simp; try with_reducible rfl
          simp only [Act.put, List.setIfInBounds_toArray, List.set_cons_zero, List.set_cons_succ]
          refine wpAnyH_take (i := 6) (oi := { dst := some 19, op := Op.fieldAddr 57 (Operand.tmp 18) 0, type := 0, pos := "ref.go:195", after := #[{ on := 5, ground := Ground.data }], guard := none }) (v := ?_) rfl (by kernel_rfl) (by kernel_rfl) (by kernel_rfl) (fun _ _ _ h => h) (Or.inl ⟨by rfl, ?_⟩) (by assumption) ?_
          rotate_left
          · intro w' hSw; (try dsimp only at hSw); go_simp; try with_reducible rfl
          simp only [Act.put, List.setIfInBounds_toArray, List.set_cons_zero, List.set_cons_succ]
          refine wpAnyH_take (i := 7) (oi := { dst := some 20, op := Op.load 22 (Operand.tmp 19), type := 22, pos := "ref.go:195", after := #[{ on := 6, ground := Ground.data }], guard := none }) (v := ?_) rfl (by kernel_rfl) (by kernel_rfl) (by kernel_rfl) (fun _ _ _ h => h) (Or.inl ⟨by rfl, ?_⟩) (by assumption) ?_
          rotate_left
          · intro w' hSw; (try dsimp only at hSw); go_simp; try with_reducible rfl
          simp only [Act.put, List.setIfInBounds_toArray, List.set_cons_zero, List.set_cons_succ]
          refine wpAnyH_take (i := 8) (oi := { dst := some 21, op := Op.call { callee := Callee.builtin Builtin.len, args := #[Operand.tmp 20], argTypes := #[22] }, type := 3, pos := "ref.go:195", after := #[{ on := 7, ground := Ground.data }], guard := none }) (v := ?_) rfl (by kernel_rfl) (by kernel_rfl) (by kernel_rfl) (fun _ _ _ h => h) (Or.inl ⟨by rfl, ?_⟩) (by assumption) ?_
          rotate_left
          · intro w' hSw; (try dsimp only at hSw); go_simp; try with_reducible rfl
          simp only [Act.put, List.setIfInBounds_toArray, List.set_cons_zero, List.set_cons_succ]
          refine wpAnyH_take (i := 9) (oi := { dst := some 22, op := Op.binOp BinOp.lss 3 (Operand.tmp 16) (Operand.tmp 21) 3, type := 4, pos := "ref.go:195", after := #[{ on := 3, ground := Ground.data }, { on := 8, ground := Ground.data }], guard := none }) (v := ?_) rfl (by kernel_rfl) (by kernel_rfl) (by kernel_rfl) (fun _ _ _ h => h) (Or.inl ⟨by rfl, ?_⟩) (by assumption) ?_
          rotate_left
          · intro w' hSw; (try dsimp only at hSw); go_simp; try with_reducible rfl
          simp only [Act.put, List.setIfInBounds_toArray, List.set_cons_zero, List.set_cons_succ]
          refine wpAnyH_take (i := 10) (oi := { dst := some 23, op := Op.move (Operand.tmp 22), type := 4, pos := "ref.go:195", after := #[{ on := 9, ground := Ground.data }], guard := none }) (v := ?_) rfl (by kernel_rfl) (by kernel_rfl) (by kernel_rfl) (fun _ _ _ h => h) (Or.inl ⟨by rfl, ?_⟩) (by assumption) ?_
          rotate_left
          · intro w' hSw; (try dsimp only at hSw); go_simp; try with_reducible rfl
          simp only [Act.put, List.setIfInBounds_toArray, List.set_cons_zero, List.set_cons_succ]
          refine wpAnyH_take (i := 11) (oi := { dst := some 24, op := Op.move (Operand.tmp 0), type := 55, pos := "ref.go:195", after := #[{ on := 10, ground := Ground.guard }], guard := some (10, true) }) (v := ?_) rfl (by kernel_rfl) (by kernel_rfl) (by kernel_rfl) (fun _ _ _ h => h) (Or.inl ⟨by rfl, ?_⟩) (by assumption) ?_
          rotate_left
          · intro w' hSw; (try dsimp only at hSw); go_simp; try with_reducible rfl
          simp only [Act.put, List.setIfInBounds_toArray, List.set_cons_zero, List.set_cons_succ]
          refine wpAnyH_take (i := 12) (oi := { dst := some 25, op := Op.nilCheck (Operand.tmp 24), type := 0, pos := "ref.go:195", after := #[{ on := 11, ground := Ground.data }, { on := 10, ground := Ground.guard }], guard := some (10, true) }) (v := ?_) rfl (by kernel_rfl) (by kernel_rfl) (by kernel_rfl) (fun _ _ _ h => h) (Or.inl ⟨by rfl, ?_⟩) (by assumption) ?_
          rotate_left
          · intro w' hSw; (try dsimp only at hSw); go_simp; try with_reducible rfl
          simp only [Act.put, List.setIfInBounds_toArray, List.set_cons_zero, List.set_cons_succ]
          refine wpAnyH_take (i := 13) (oi := { dst := some 26, op := Op.fieldAddr 57 (Operand.tmp 25) 0, type := 0, pos := "ref.go:195", after := #[{ on := 12, ground := Ground.data }, { on := 10, ground := Ground.guard }], guard := some (10, true) }) (v := ?_) rfl (by kernel_rfl) (by kernel_rfl) (by kernel_rfl) (fun _ _ _ h => h) (Or.inl ⟨by rfl, ?_⟩) (by assumption) ?_
          rotate_left
          · intro w' hSw; (try dsimp only at hSw); go_simp; try with_reducible rfl
          simp only [Act.put, List.setIfInBounds_toArray, List.set_cons_zero, List.set_cons_succ]
          refine wpAnyH_take (i := 14) (oi := { dst := some 27, op := Op.load 22 (Operand.tmp 26), type := 22, pos := "ref.go:195", after := #[{ on := 13, ground := Ground.data }, { on := 10, ground := Ground.guard }], guard := some (10, true) }) (v := ?_) rfl (by kernel_rfl) (by kernel_rfl) (by kernel_rfl) (fun _ _ _ h => h) (Or.inl ⟨by rfl, ?_⟩) (by assumption) ?_
          rotate_left
          · intro w' hSw; (try dsimp only at hSw); go_simp; try with_reducible rfl
          simp only [Act.put, List.setIfInBounds_toArray, List.set_cons_zero, List.set_cons_succ]
          refine wpAnyH_take (i := 15) (oi := { dst := some 28, op := Op.move (Operand.tmp 0), type := 55, pos := "ref.go:195", after := #[{ on := 10, ground := Ground.guard }], guard := some (10, true) }) (v := ?_) rfl (by kernel_rfl) (by kernel_rfl) (by kernel_rfl) (fun _ _ _ h => h) (Or.inl ⟨by rfl, ?_⟩) (by assumption) ?_
          rotate_left
          · intro w' hSw; (try dsimp only at hSw); go_simp; try with_reducible rfl
          simp only [Act.put, List.setIfInBounds_toArray, List.set_cons_zero, List.set_cons_succ]
          refine wpAnyH_take (i := 16) (oi := { dst := some 29, op := Op.nilCheck (Operand.tmp 28), type := 0, pos := "ref.go:195", after := #[{ on := 15, ground := Ground.data }, { on := 10, ground := Ground.guard }], guard := some (10, true) }) (v := ?_) rfl (by kernel_rfl) (by kernel_rfl) (by kernel_rfl) (fun _ _ _ h => h) (Or.inl ⟨by rfl, ?_⟩) (by assumption) ?_
          rotate_left
          · intro w' hSw; (try dsimp only at hSw); go_simp; try with_reducible rfl
          simp only [Act.put, List.setIfInBounds_toArray, List.set_cons_zero, List.set_cons_succ]
          refine wpAnyH_take (i := 17) (oi := { dst := some 30, op := Op.fieldAddr 57 (Operand.tmp 29) 1, type := 0, pos := "ref.go:195", after := #[{ on := 16, ground := Ground.data }, { on := 10, ground := Ground.guard }], guard := some (10, true) }) (v := ?_) rfl (by kernel_rfl) (by kernel_rfl) (by kernel_rfl) (fun _ _ _ h => h) (Or.inl ⟨by rfl, ?_⟩) (by assumption) ?_
          rotate_left
          · intro w' hSw; (try dsimp only at hSw); go_simp; try with_reducible rfl
          simp only [Act.put, List.setIfInBounds_toArray, List.set_cons_zero, List.set_cons_succ]
          refine wpAnyH_take (i := 18) (oi := { dst := some 31, op := Op.load 3 (Operand.tmp 30), type := 3, pos := "ref.go:195", after := #[{ on := 17, ground := Ground.data }, { on := 10, ground := Ground.guard }], guard := some (10, true) }) (v := ?_) rfl (by kernel_rfl) (by kernel_rfl) (by kernel_rfl) (fun _ _ _ h => h) (Or.inl ⟨by rfl, ?_⟩) (by assumption) ?_
          rotate_left
          · intro w' hSw; (try dsimp only at hSw); go_simp; try with_reducible rfl
          simp only [Act.put, List.setIfInBounds_toArray, List.set_cons_zero, List.set_cons_succ]
          refine wpAnyH_take (i := 19) (oi := { dst := some 32, op := Op.indexAddr 22 (Operand.tmp 27) (Operand.tmp 31), type := 0, pos := "ref.go:195", after := #[{ on := 14, ground := Ground.data }, { on := 18, ground := Ground.data }, { on := 10, ground := Ground.guard }], guard := some (10, true) }) (v := ?_) rfl (by kernel_rfl) (by kernel_rfl) (by kernel_rfl) (fun _ _ _ h => h) (Or.inl ⟨by rfl, ?_⟩) (by assumption) ?_
          rotate_left
          · intro w' hSw; (try dsimp only at hSw); go_simp; try with_reducible rfl
          simp only [Act.put, List.setIfInBounds_toArray, List.set_cons_zero, List.set_cons_succ]
          refine wpAnyH_take (i := 20) (oi := { dst := some 33, op := Op.fieldAddr 42 (Operand.tmp 32) 0, type := 0, pos := "ref.go:195", after := #[{ on := 19, ground := Ground.data }, { on := 10, ground := Ground.guard }], guard := some (10, true) }) (v := ?_) rfl (by kernel_rfl) (by kernel_rfl) (by kernel_rfl) (fun _ _ _ h => h) (Or.inl ⟨by rfl, ?_⟩) (by assumption) ?_
          rotate_left
          · intro w' hSw; (try dsimp only at hSw); go_simp; try with_reducible rfl
          simp only [Act.put, List.setIfInBounds_toArray, List.set_cons_zero, List.set_cons_succ]
          refine wpAnyH_take (i := 21) (oi := { dst := some 34, op := Op.load 3 (Operand.tmp 33), type := 3, pos := "ref.go:195", after := #[{ on := 20, ground := Ground.data }, { on := 10, ground := Ground.guard }], guard := some (10, true) }) (v := ?_) rfl (by kernel_rfl) (by kernel_rfl) (by kernel_rfl) (fun _ _ _ h => h) (Or.inl ⟨by rfl, ?_⟩) (by assumption) ?_
          rotate_left
          · intro w' hSw; (try dsimp only at hSw); go_simp; try with_reducible rfl
          simp only [Act.put, List.setIfInBounds_toArray, List.set_cons_zero, List.set_cons_succ]
          refine wpAnyH_take (i := 22) (oi := { dst := some 35, op := Op.binOp BinOp.eql 3 (Operand.tmp 34) (Operand.const (Value.int IntKind.i64 3)) 3, type := 4, pos := "ref.go:195", after := #[{ on := 21, ground := Ground.data }, { on := 10, ground := Ground.guard }], guard := some (10, true) }) (v := ?_) rfl (by kernel_rfl) (by kernel_rfl) (by kernel_rfl) (fun _ _ _ h => h) (Or.inl ⟨by rfl, ?_⟩) (by assumption) ?_
          rotate_left
          · intro w' hSw; (try dsimp only at hSw); go_simp; try with_reducible rfl
          simp only [Act.put, List.setIfInBounds_toArray, List.set_cons_zero, List.set_cons_succ]
          refine wpAnyH_take (i := 23) (oi := { dst := some 36, op := Op.pick (Operand.tmp 23) (Operand.tmp 35) (Operand.const (Value.bool false)), type := 4, pos := "ref.go:195", after := #[{ on := 10, ground := Ground.data }, { on := 22, ground := Ground.data }], guard := none }) (v := ?_) rfl (by kernel_rfl) (by kernel_rfl) (by kernel_rfl) (fun _ _ _ h => h) (Or.inl ⟨by rfl, ?_⟩) (by assumption) ?_
          rotate_left
          · intro w' hSw; (try dsimp only at hSw); go_simp; try with_reducible rfl
          simp only [Act.put, List.setIfInBounds_toArray, List.set_cons_zero, List.set_cons_succ]
          refine wpAnyH_take (i := 24) (oi := { dst := some 37, op := Op.move (Operand.tmp 36), type := 4, pos := "ref.go:195", after := #[{ on := 23, ground := Ground.data }, { on := 10, ground := Ground.chain }], guard := none }) (v := ?_) rfl (by kernel_rfl) (by kernel_rfl) (by kernel_rfl) (fun _ _ _ h => h) (Or.inl ⟨by rfl, ?_⟩) (by assumption) ?_
          rotate_left
          · intro w' hSw; (try dsimp only at hSw); go_simp; try with_reducible rfl
          simp only [Act.put, List.setIfInBounds_toArray, List.set_cons_zero, List.set_cons_succ]
          refine wpAnyH_take (i := 25) (oi := { dst := some 38, op := Op.move (Operand.tmp 0), type := 55, pos := "ref.go:195", after := #[{ on := 24, ground := Ground.guard }], guard := some (24, true) }) (v := ?_) rfl (by kernel_rfl) (by kernel_rfl) (by kernel_rfl) (fun _ _ _ h => h) (Or.inl ⟨by rfl, ?_⟩) (by assumption) ?_
          rotate_left
          · intro w' hSw; (try dsimp only at hSw); go_simp; try with_reducible rfl
          simp only [Act.put, List.setIfInBounds_toArray, List.set_cons_zero, List.set_cons_succ]
          refine wpAnyH_take (i := 26) (oi := { dst := some 39, op := Op.nilCheck (Operand.tmp 38), type := 0, pos := "ref.go:195", after := #[{ on := 25, ground := Ground.data }, { on := 24, ground := Ground.guard }], guard := some (24, true) }) (v := ?_) rfl (by kernel_rfl) (by kernel_rfl) (by kernel_rfl) (fun _ _ _ h => h) (Or.inl ⟨by rfl, ?_⟩) (by assumption) ?_
          rotate_left
          · intro w' hSw; (try dsimp only at hSw); go_simp; try with_reducible rfl
          simp only [Act.put, List.setIfInBounds_toArray, List.set_cons_zero, List.set_cons_succ]
          refine wpAnyH_take (i := 27) (oi := { dst := some 40, op := Op.fieldAddr 57 (Operand.tmp 39) 0, type := 0, pos := "ref.go:195", after := #[{ on := 26, ground := Ground.data }, { on := 24, ground := Ground.guard }], guard := some (24, true) }) (v := ?_) rfl (by kernel_rfl) (by kernel_rfl) (by kernel_rfl) (fun _ _ _ h => h) (Or.inl ⟨by rfl, ?_⟩) (by assumption) ?_
          rotate_left
          · intro w' hSw; (try dsimp only at hSw); go_simp; try with_reducible rfl
          simp only [Act.put, List.setIfInBounds_toArray, List.set_cons_zero, List.set_cons_succ]
          refine wpAnyH_take (i := 28) (oi := { dst := some 41, op := Op.load 22 (Operand.tmp 40), type := 22, pos := "ref.go:195", after := #[{ on := 27, ground := Ground.data }, { on := 24, ground := Ground.guard }], guard := some (24, true) }) (v := ?_) rfl (by kernel_rfl) (by kernel_rfl) (by kernel_rfl) (fun _ _ _ h => h) (Or.inl ⟨by rfl, ?_⟩) (by assumption) ?_
          rotate_left
          · intro w' hSw; (try dsimp only at hSw); go_simp; try with_reducible rfl
          simp only [Act.put, List.setIfInBounds_toArray, List.set_cons_zero, List.set_cons_succ]
          refine wpAnyH_take (i := 29) (oi := { dst := some 42, op := Op.move (Operand.tmp 0), type := 55, pos := "ref.go:195", after := #[{ on := 24, ground := Ground.guard }], guard := some (24, true) }) (v := ?_) rfl (by kernel_rfl) (by kernel_rfl) (by kernel_rfl) (fun _ _ _ h => h) (Or.inl ⟨by rfl, ?_⟩) (by assumption) ?_
          rotate_left
          · intro w' hSw; (try dsimp only at hSw); go_simp; try with_reducible rfl
          simp only [Act.put, List.setIfInBounds_toArray, List.set_cons_zero, List.set_cons_succ]
          refine wpAnyH_take (i := 30) (oi := { dst := some 43, op := Op.nilCheck (Operand.tmp 42), type := 0, pos := "ref.go:195", after := #[{ on := 29, ground := Ground.data }, { on := 24, ground := Ground.guard }], guard := some (24, true) }) (v := ?_) rfl (by kernel_rfl) (by kernel_rfl) (by kernel_rfl) (fun _ _ _ h => h) (Or.inl ⟨by rfl, ?_⟩) (by assumption) ?_
          rotate_left
          · intro w' hSw; (try dsimp only at hSw); go_simp; try with_reducible rfl
          simp only [Act.put, List.setIfInBounds_toArray, List.set_cons_zero, List.set_cons_succ]
          refine wpAnyH_take (i := 31) (oi := { dst := some 44, op := Op.fieldAddr 57 (Operand.tmp 43) 1, type := 0, pos := "ref.go:195", after := #[{ on := 30, ground := Ground.data }, { on := 24, ground := Ground.guard }], guard := some (24, true) }) (v := ?_) rfl (by kernel_rfl) (by kernel_rfl) (by kernel_rfl) (fun _ _ _ h => h) (Or.inl ⟨by rfl, ?_⟩) (by assumption) ?_
          rotate_left
          · intro w' hSw; (try dsimp only at hSw); go_simp; try with_reducible rfl
          simp only [Act.put, List.setIfInBounds_toArray, List.set_cons_zero, List.set_cons_succ]
          refine wpAnyH_take (i := 32) (oi := { dst := some 45, op := Op.load 3 (Operand.tmp 44), type := 3, pos := "ref.go:195", after := #[{ on := 31, ground := Ground.data }, { on := 24, ground := Ground.guard }], guard := some (24, true) }) (v := ?_) rfl (by kernel_rfl) (by kernel_rfl) (by kernel_rfl) (fun _ _ _ h => h) (Or.inl ⟨by rfl, ?_⟩) (by assumption) ?_
          rotate_left
          · intro w' hSw; (try dsimp only at hSw); go_simp; try with_reducible rfl
          simp only [Act.put, List.setIfInBounds_toArray, List.set_cons_zero, List.set_cons_succ]
          refine wpAnyH_take (i := 33) (oi := { dst := some 46, op := Op.indexAddr 22 (Operand.tmp 41) (Operand.tmp 45), type := 0, pos := "ref.go:195", after := #[{ on := 28, ground := Ground.data }, { on := 32, ground := Ground.data }, { on := 24, ground := Ground.guard }], guard := some (24, true) }) (v := ?_) rfl (by kernel_rfl) (by kernel_rfl) (by kernel_rfl) (fun _ _ _ h => h) (Or.inl ⟨by rfl, ?_⟩) (by assumption) ?_
          rotate_left
          · intro w' hSw; (try dsimp only at hSw); go_simp; try with_reducible rfl
          simp only [Act.put, List.setIfInBounds_toArray, List.set_cons_zero, List.set_cons_succ]
          refine wpAnyH_take (i := 34) (oi := { dst := some 47, op := Op.fieldAddr 42 (Operand.tmp 46) 3, type := 0, pos := "ref.go:195", after := #[{ on := 33, ground := Ground.data }, { on := 24, ground := Ground.guard }], guard := some (24, true) }) (v := ?_) rfl (by kernel_rfl) (by kernel_rfl) (by kernel_rfl) (fun _ _ _ h => h) (Or.inl ⟨by rfl, ?_⟩) (by assumption) ?_
          rotate_left
          · intro w' hSw; (try dsimp only at hSw); go_simp; try with_reducible rfl
          simp only [Act.put, List.setIfInBounds_toArray, List.set_cons_zero, List.set_cons_succ]
          refine wpAnyH_take (i := 35) (oi := { dst := some 48, op := Op.load 9 (Operand.tmp 47), type := 9, pos := "ref.go:195", after := #[{ on := 34, ground := Ground.data }, { on := 24, ground := Ground.guard }], guard := some (24, true) }) (v := ?_) rfl (by kernel_rfl) (by kernel_rfl) (by kernel_rfl) (fun _ _ _ h => h) (Or.inl ⟨by rfl, ?_⟩) (by assumption) ?_
          rotate_left
          · intro w' hSw; (try dsimp only at hSw); go_simp; try with_reducible rfl
          simp only [Act.put, List.setIfInBounds_toArray, List.set_cons_zero, List.set_cons_succ]
          refine wpAnyH_take (i := 37) (oi := { dst := some 50, op := Op.move (Operand.tmp 1), type := 3, pos := "ref.go:195", after := #[{ on := 24, ground := Ground.guard }], guard := some (24, true) }) (v := ?_) rfl (by kernel_rfl) (by kernel_rfl) (by kernel_rfl) (fun _ _ _ h => h) (Or.inl ⟨by rfl, ?_⟩) (by assumption) ?_
          rotate_left
          · intro w' hSw; (try dsimp only at hSw); go_simp; try with_reducible rfl
          simp only [Act.put, List.setIfInBounds_toArray, List.set_cons_zero, List.set_cons_succ]
          refine wpAnyH_ready (rs := [36]) (by kernel_rfl) (by simp) (AllReadyH.cons rfl (fun K hK => ?_) AllReadyH.nil)
          go_simp
          go_wp2_with (go_at_call 22; refine (words_any _).mono ?_; rintro r w2 ⟨bw, rfl, hbw1, hbw2, hwc, hb2⟩)
          have hwk := hwc k (by omega)
          rw [HWd.out] at hwk
          have hb2' : Below wr.heap.size wr w2 := z0.trans (hb2.mono z0.size)
          have hcells := HS.out _ hb2'
          clear hwc hb2
          refine hK.out _ _ hcells (fun _ => held_switch (S' := fun w' => w' = w2) (fun w' hw => by subst hw; exact hcells) ?_)
          clear hK K hHeld
          obtain ⟨d0, d1, d2, d3⟩ := id hcells
          have hww : w2 = w2 := rfl
          have hk9 : (k : Int) < 9 := by omega
          have hwl3 : ¬ 9223372036854775807 < 3 + wd.length := by omega
          refine wpAnyH_take (i := 38) (oi := { dst := some 51, op := Op.indexAddr 65 (Operand.tmp 49) (Operand.tmp 50), type := 0, pos := "ref.go:195", after := #[{ on := 36, ground := Ground.data }, { on := 37, ground := Ground.data }, { on := 24, ground := Ground.guard }], guard := some (24, true) }) (v := ?_) rfl (by kernel_rfl) (by kernel_rfl) (by kernel_rfl) (fun _ _ _ h => h) (Or.inl ⟨by rfl, ?_⟩) (by assumption) ?_
          rotate_left
          · intro w' hSw; subst hSw; go_simp; try with_reducible rfl
          simp only [Act.put, List.setIfInBounds_toArray, List.set_cons_zero, List.set_cons_succ]
          refine wpAnyH_take (i := 39) (oi := { dst := some 52, op := Op.load 9 (Operand.tmp 51), type := 9, pos := "ref.go:195", after := #[{ on := 38, ground := Ground.data }, { on := 24, ground := Ground.guard }], guard := some (24, true) }) (v := ?_) rfl (by kernel_rfl) (by kernel_rfl) (by kernel_rfl) (fun _ _ _ h => h) (Or.inl ⟨by rfl, ?_⟩) (by assumption) ?_
          rotate_left
          · intro w' hSw; subst hSw; go_simp; try with_reducible rfl
          simp only [Act.put, List.setIfInBounds_toArray, List.set_cons_zero, List.set_cons_succ]
          refine wpAnyH_take (i := 40) (oi := { dst := some 53, op := Op.binOp BinOp.add 9 (Operand.const (Value.string { data := #[101, 110, 100] })) (Operand.tmp 52) 9, type := 9, pos := "ref.go:195", after := #[{ on := 39, ground := Ground.data }, { on := 24, ground := Ground.guard }], guard := some (24, true) }) (v := ?_) rfl (by kernel_rfl) (by kernel_rfl) (by kernel_rfl) (fun _ _ _ h => h) (Or.inl ⟨by rfl, ?_⟩) (by assumption) ?_
          rotate_left
          · intro w' hSw; subst hSw; go_simp; try with_reducible rfl
          simp only [Act.put, List.setIfInBounds_toArray, List.set_cons_zero, List.set_cons_succ]
          refine wpAnyH_take (i := 41) (oi := { dst := some 54, op := Op.binOp BinOp.eql 9 (Operand.tmp 48) (Operand.tmp 53) 9, type := 4, pos := "ref.go:195", after := #[{ on := 35, ground := Ground.data }, { on := 40, ground := Ground.data }, { on := 24, ground := Ground.guard }], guard := some (24, true) }) (v := ?_) rfl (by kernel_rfl) (by kernel_rfl) (by kernel_rfl) (fun _ _ _ h => h) (Or.inl ⟨by rfl, ?_⟩) (by assumption) ?_
          rotate_left
          · intro w' hSw; subst hSw; go_simp; try with_reducible rfl
          simp only [Act.put, List.setIfInBounds_toArray, List.set_cons_zero, List.set_cons_succ]
          refine wpAnyH_take (i := 42) (oi := { dst := some 55, op := Op.pick (Operand.tmp 37) (Operand.tmp 54) (Operand.const (Value.bool false)), type := 4, pos := "ref.go:195", after := #[{ on := 24, ground := Ground.data }, { on := 41, ground := Ground.data }], guard := none }) (v := ?_) rfl (by kernel_rfl) (by kernel_rfl) (by kernel_rfl) (fun _ _ _ h => h) (Or.inl ⟨by rfl, ?_⟩) (by assumption) ?_
          rotate_left
          · intro w' hSw; subst hSw; go_simp; try with_reducible rfl
          simp only [Act.put, List.setIfInBounds_toArray, List.set_cons_zero, List.set_cons_succ]
          refine wpAnyH_done (by kernel_rfl) ?_ _
          clear hwk hcells
          go_wp2_with fail
          refine (HEn.out _ hb2').mono ?_
          rintro r w3 ⟨p, i2, a2, e2, rfl, heo0, hq3, hi3, hf3, hoc⟩
          have hfr : Fr wr w3 P := ((Fr.refl wr P).over hb2').trans hf3
          have hszw := hb2'.size
          have heo : Eo w3 (fun b => b < wr.heap.size) p := heo0.to (Kp.refl _ _) (fun _ _ h => Nat.lt_of_lt_of_le h hszw)
          clear HEn heo0 hf3
          obtain ⟨x, vu, vl⟩ := p
          obtain ⟨Au, cu, hvu, _⟩ := id heo.1
          obtain ⟨Al, nl, cl, hvl⟩ := Lx.shape heo.2
          simp only at hvu hvl
          subst hvu
          subst hvl
          unfold entV
          simp only
          have HR2 := Lib.hid (HR.out.step HAt.out hoc)
          have hown3 := own_fr HO.out hfr hlt
          have HU3 := Lib.hid heo
          have HQ3 := Lib.hid hq3
          have hsz3 := hfr.size
          have hi2 : e2 = 0 → ir + 1 ≤ i2 := by
            intro he
            rcases hoc with ⟨h1, _⟩ | ⟨_, _, h3, _⟩ | ⟨_, h2, _, _⟩
            · exact absurd rfl h1
            · exact absurd he h3
            · exact (ent_ok h2).1
          clear hoc heo hq3
          go_wp2_with (at_builtin; refine wpList_append_lies _ rfl _ _ _ rfl w.heap.size 75 e0 (.agg #[.int .i64 0, .int .i64 0, .int .i64 0, .int .i64 0, .int .i64 0, .slice none 0 0, .slice none 0 0]) 7 88 Tryz.underlying59 he0 hy0 hy1 hy2 rfl (by omega) _ _ _ rfl (hown3.alloc _) ⟨w3.heap.size, 0, none⟩ 1 1 (dq (x, .slice Au x.u.length cu, .slice Al nl cl)) rfl rfl (World.news_of_block (heap_alloc_new w3 _)) (dq_one _ rfl rfl) (by omega) (by unfold maxLen; omega) (by omega) (by simp; omega) _ rfl ?_; intro g cap w4 hown4 hgrow hat4 hgl)
          have hv : ∀ b, u7.ownBlock = some b → w.heap.size ≤ b ∧ b < wr.heap.size := HO.out.lt
          have hbel : Below w.heap.size (w3.alloc (.cells #[.int .i64 x.lo.n, .int .i64 x.lo.v, .int .i64 x.hi.n, .int .i64 x.hi.v, .int .i64 x.to, .slice Au x.u.length cu, .slice Al nl cl] 75)) w4 := (Below.refl _ _).grown hgrow (by simp; omega) (fun k hk => (hv k hk).1)
          have hbA : Below w3.heap.size w3 (w3.alloc (.cells #[.int .i64 x.lo.n, .int .i64 x.lo.v, .int .i64 x.hi.n, .int .i64 x.hi.v, .int .i64 x.to, .slice Au x.u.length cu, .slice Al nl cl] 75)) := (Below.refl _ _).alloc (Nat.le_refl _) _
          have hQ4 := (HQ3.out.alloc (.cells #[.int .i64 x.lo.n, .int .i64 x.lo.v, .int .i64 x.hi.n, .int .i64 x.hi.v, .int .i64 x.to, .slice Au x.u.length cu, .slice Al nl cl] 75)).bel hlt hbel
          have hat5 : u7.ownBlock = some g ∨ g = (w3.alloc (.cells #[.int .i64 x.lo.n, .int .i64 x.lo.v, .int .i64 x.hi.n, .int .i64 x.hi.v, .int .i64 x.to, .slice Au x.u.length cu, .slice Al nl cl] 75)).heap.size := hat4
          refine ⟨⟨out ++ [(x, .slice Au x.u.length cu, .slice Al nl cl)], i2, a2, e2, hi3, ⟨by simp; omega, fun he => by have := hi2 he; simp; omega⟩, Lib.hid hQ4, Lib.hid (((HF.out.trans hfr).alloc _).bel (Nat.le_refl _) hbel), Lib.hid (by rw [flat_snoc, List.length_append]; exact hown4), Lib.hid ?_, Lib.hid (by rw [List.map_append]; exact HR2.out)⟩, ?_⟩
          · intro p hp
            rcases List.mem_append.1 hp with hp | hp
            · exact (HN.out p hp).to (push_old hfr hlt hbA hgrow) (push_oldX (by simp; omega) hat5)
            · obtain rfl : p = (x, .slice Au x.u.length cu, .slice Al nl cl) := by simpa using hp
              exact HU3.out.to (push_new (M := wr.heap.size) (fun b hb => (hv b hb).2) hbA hgrow) (push_newX (by omega) (fun b hb => (hv b hb).2) (by simp) hat5)
          · rw [hQ4.mp, HQ.out.mp, if_pos rfl]
            by_cases he : e2 = 0
            · rw [if_pos he]; have := hi2 he; omega
            · rw [if_neg he]; omega
    · have te : (er == 0) = false := by rw [beq_eq_false_iff_ne]; exact he
      have hD := HR.out.1 he
      subst hv
      have HFin : Hid (Px w P A c L en (k : Int) n i a 0 (.returned (.slice A' out.length c')) wr) := Lib.hid ⟨_, out.map (·.1), ir, ar, er, rfl, Ex.of_loop HO.out HN.out (Fr.refl _ P) hlt, HQ.out, hir, HF.out, .inr ⟨rfl, .inl ⟨he, hD⟩⟩⟩
      clear he hol0 hD
      go_wp2
      refine bodyPost_ret (v := _) (by simp [results, Tryz.results30, go_sem]; try rfl) rfl HFin.out
theorem psection_any (h : Ps w P A c L i en a e) (hi : i ≤ L.length) (hL : Sm L) (k : Nat) (hk2 : 2 ≤ k) (hk8 : k ≤ 8) (n : Int) :
    Calls Tryz.prog 30 #[.pointer (some ⟨P, 0, none⟩), .int .i64 (k : Int), .int .i64 n] w (Px w P A c L en (k : Int) n i a e) := by
  by_cases he : e = 0
  · subst he; exact psection_ok h hi hL k hk2 hk8 n
  · exact psection_err h hi he (k : Int) n
end
end Go.Proofs.YthcnjiigkmljnaaGreatDoor
