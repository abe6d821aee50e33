/-
  The program's parser: entryOf; deeper, shallower.
-/
import Derived.Test.YthcnjiigkmljnaaGreatDoorSynUse
import Derived.Test.YthcnjiigkmljnaaGreatDoorSynEnt3
import Derived.Test.YthcnjiigkmljnaaGreatDoorSynDev9
namespace Go.Proofs.YthcnjiigkmljnaaGreatDoor
open Go.RowKit

/-- Which method takes an entry of a kind. -/
def entF (k : Nat) : Nat := if k = 2 then 93 else if k = 3 then 94 else if k = 5 then 95 else if k = 4 ∨ k = 6 then 96 else if k = 7 then 97 else 98
set_option maxHeartbeats 1000000 in
theorem qentryOf_any (P k : Nat) (hk2 : 2 ≤ k) (hk8 : k ≤ 8) (w : World) : Calls Tryz.prog 71 #[.pointer (some ⟨P, 0, none⟩), .int .i64 (k : Int)] w fun r w'' => r = .returned (.func (.func (entF k)) #[.pointer (some ⟨P, 0, none⟩)] #[]) ∧ w'' = w := by
  have hmf : ∀ (fn : Fn) (first cap : Array Value) (w : World), (Instr.makeFunc fn first cap).run Tryz.prog w = .ok (.func fn first cap) w := fun _ _ _ _ => rfl
  rcases (show k = 2 ∨ k = 3 ∨ k = 4 ∨ k = 5 ∨ k = 6 ∨ k = 7 ∨ k = 8 by omega) with rfl | rfl | rfl | rfl | rfl | rfl | rfl
  all_goals
    clear hk2 hk8
    go_enter Tryz.func71, Tryz.ntmps71
    go_wp2
    go_ret
    exact ⟨rfl, rfl⟩
theorem qent_any {P : Nat} {A : Option Addr} {c : Nat} {L : List Tk} {en : Int} {vc vi : Value} (hL : Sm L) (k : Nat) (hk2 : 2 ≤ k) (hk8 : k ≤ 8) (w' : World) (i' : Nat) (a' e' : Int) (hq : Qs w' P A c L i' en vc vi a' e') (hi : i' ≤ L.length) : Calls Tryz.prog (entF k) #[.pointer (some ⟨P, 0, none⟩)] w' (Ep w' P A c L en vc vi (k : Int) i' a' e') := by
  rcases (show k = 2 ∨ k = 3 ∨ k = 4 ∨ k = 5 ∨ k = 6 ∨ k = 7 ∨ k = 8 by omega) with rfl | rfl | rfl | rfl | rfl | rfl | rfl
  · exact qspace_any hq hi hL
  · exact qcidRange_any hq hi hL
  · exact qchar_any hq hi hL 4 (.inl rfl)
  · exact qnotRange_any hq hi hL
  · exact qchar_any hq hi hL 6 (.inr rfl)
  · exact qbfRange_any hq hi hL
  · exact qbfChar_any hq hi hL
section
variable {w : World} {P : Nat} {A : Option Addr} {c : Nat} {L : List Tk} {i : Nat} {en a e : Int} {vc vi : Value} {acc : List Im} {op : List Int}
/-- What deeper and shallower leave: an error, or what is open now. -/
def Cp (w : World) (P : Nat) (A : Option Addr) (c : Nat) (L : List Tk) (i : Nat) (en : Int) (vi : Value) (a : Int) (acc : List Im) (bad : Bool) (a' e' : Int) (op' : List Int) (r : Ending) (w' : World) : Prop :=
  r = .returned (.tuple #[]) ∧ Below P w w' ∧ if bad = true then (∃ A' n c', Qs w' P A c L i en (.slice A' n c') vi a' e') else ∃ vc', Qs w' P A c L i en vc' vi a 0 ∧ Js w' P vc' vi op' acc
set_option maxRecDepth 100000 in
set_option maxHeartbeats 1000000 in
theorem qdeeper_any (h : Qs w P A c L i en vc vi a 0) (hj : Js w P vc vi op acc) (hop : op.length ≤ 32) (t : Tk) (k : Int) :
    Calls Tryz.prog 25 #[.pointer (some ⟨P, 0, none⟩), tv t, .int .i64 k] w (Cp w P A c L i en vi a acc (op.length == 32) t.at_ 5 (k :: op)) := by
  obtain ⟨i0, hi0, hz0, hz1, hz2⟩ := info_parts info64
  have hlt := h.lt
  obtain ⟨tk, tt, tn, ts⟩ := t
  unfold tv
  simp only
  obtain ⟨Ac, cc, hvc, _⟩ := row_shape hj.oc
  subst hvc
  have c3 := h.c3
  have HP := Lib.hid h
  have HJ := Lib.hid hj
  clear h hj
  by_cases hb : op.length = 32
  · have e1 : (op.length == 32) = true := by simp [hb]
    rw [e1]
    have d1 : ((op.length : Int) == 32) = true := by rw [beq_iff_eq]; omega
    have hFl := qfail_ok (HP.out.alloc (.cells #[.int .i64 tk, .int .i64 tt, .int .i64 tn, .string (str ts)] 42)) tt 5
    have HFl := Lib.hid hFl
    clear hFl hb e1
    go_enter Tryz.func25, Tryz.ntmps25
    go_wp2_with fail
    refine HFl.out.mono ?_
    rintro r w3 ⟨rfl, hq3, hf3⟩
    have hfin : Cp w P A c L i en vi a acc true tt 5 (k :: op) (.returned (.tuple #[])) w3 := ⟨rfl, (((Fr.refl w P).alloc _).trans hf3).below (Nat.le_of_lt hlt) (Nat.le_refl _), by rw [if_pos rfl]; exact ⟨Ac, _, cc, hq3⟩⟩
    have HFin := Lib.hid hfin
    clear hfin
    go_wp2_with (with_reducible exact ret0 Tryz.results25 rfl HFin.out)
  · have e1 : (op.length == 32) = false := by simp [hb]
    rw [e1]
    have d1 : ((op.length : Int) == 32) = false := by rw [beq_eq_false_iff_ne]; omega
    have hown := own_fr HJ.out.oc ((Fr.refl w P).alloc (.cells #[.int .i64 tk, .int .i64 tt, .int .i64 tn, .string (str ts)] 42)) (Nat.lt_succ_self P)
    have hv : ∀ b, (Value.slice Ac op.length cc).ownBlock = some b → P < b ∧ b < w.heap.size := fun b hb => ⟨(HJ.out.oc.lt b hb).1, (HJ.out.oc.lt b hb).2⟩
    have hq1 := (HP.out.alloc (.cells #[.int .i64 tk, .int .i64 tt, .int .i64 tn, .string (str ts)] 42)).alloc (.cells #[.int .i64 k] 3)
    have hfw : Fr w ((w.alloc (.cells #[.int .i64 tk, .int .i64 tt, .int .i64 tn, .string (str ts)] 42)).alloc (.cells #[.int .i64 k] 3)) P := ((Fr.refl w P).alloc _).alloc _
    clear hb e1
    go_enter Tryz.func25, Tryz.ntmps25
    go_wp2_with (first | (at_builtin; refine wpList_append_lies _ rfl _ _ _ rfl (P + 1) 3 i0 (.int .i64 0) 1 8 Tryz.underlying48 hi0 hz0 hz1 hz2 rfl (by omega) _ _ _ rfl (hown.alloc _) ⟨w.heap.size + 1, 0, none⟩ 1 1 (uq k) rfl rfl (World.news_of_block (heap_alloc_two w _ _)) (by intro u hu; simp [uq] at hu; subst hu; rfl) (by omega) (by unfold maxLen; omega) (by omega) (by simp; omega) _ rfl ?_; intro g cap w3 hown3 hgrow hat hgl; have hq3 := hq1.grown hgrow (fun b hb => (hv b hb).1); have e3 := hq3.c3; have ez3 := hq3.z3; have hfin : Cp w P A c L i en vi a acc false tt 5 (k :: op) (.returned (.tuple #[])) (w3.setCell ⟨P, 3, none⟩ (.slice (some ⟨g, 0, none⟩) (op.length + 1) cap)) := ⟨rfl, ((hfw.below (Nat.le_of_lt hlt) (Nat.le_refl _)).grown hgrow (by have := hfw.size; omega) (fun b hb => Nat.le_of_lt (hv b hb).1)).setCell (p := ⟨P, 3, none⟩) (Nat.le_refl _) _, by rw [if_neg (by decide)]; exact ⟨_, hq3.setC _, HJ.out.open hfw hgrow hat hown3⟩⟩; have HFin := Lib.hid hfin; clear hfin) | (with_reducible exact end0 Tryz.results25 rfl HFin.out))
set_option maxRecDepth 100000 in
set_option maxHeartbeats 1000000 in
theorem qshallower_any (h : Qs w P A c L i en vc vi a 0) (hj : Js w P vc vi op acc) (hop : op.length ≤ 32) (t : Tk) :
    Calls Tryz.prog 26 #[.pointer (some ⟨P, 0, none⟩), tv t] w (Cp w P A c L i en vi a acc (!(op.head? == some t.kind)) t.at_ 3 op.tail) := by
  have hlt := h.lt
  obtain ⟨tk, tt, tn, ts⟩ := t
  unfold tv
  simp only
  obtain ⟨Ac, cc, hvc, hcc⟩ := row_shape hj.oc
  subst hvc
  have c3 := h.c3
  have z3 := h.z3
  have HP := Lib.hid h
  have HJ := Lib.hid hj
  have hFl := fun n => qfail_ok ((HP.out.alloc (.cells #[.int .i64 tk, .int .i64 tt, .int .i64 tn, .string (str ts)] 42)).drewN n) tt 3
  have HFl := Lib.hid hFl
  clear h hj hFl
  have hlw : w.heap.size < w.heap.size + 1 := by omega
  have nP : P ≠ w.heap.size := by omega
  cases op with
  | nil =>
    have e1 : (!(([] : List Int).head? == some tk)) = true := by simp
    rw [e1]
    simp only [List.length_nil] at *
    go_enter Tryz.func26, Tryz.ntmps26
    go_wp2
    go_quiet (fail)
    go_wp2_with fail
    refine (HFl.out _).mono ?_
    rintro r w3 ⟨rfl, hq3, hf3⟩
    have hfin : Cp w P A c L i en vi a acc true tt 3 ([] : List Int).tail (.returned (.tuple #[])) w3 := ⟨rfl, ((((Fr.refl w P).alloc _).drewN _).trans hf3).below (Nat.le_of_lt hlt) (Nat.le_refl _), by rw [if_pos rfl]; exact ⟨Ac, _, cc, hq3⟩⟩
    have HFin := Lib.hid hfin
    clear hfin
    go_wp2_with (with_reducible exact ret0 Tryz.results26 rfl HFin.out)
  | cons x xs =>
    have hlast : ∃ g, Ac = some ⟨g, 0, none⟩ ∧ g < w.heap.size ∧ P < g ∧ w.cell? ⟨g, xs.length, none⟩ = some (.int .i64 x) := by
      have ho := HJ.out.oc
      rcases ho.2 with ⟨e1, h0⟩ | ⟨g, cap, cur, e1, hb, hg, _⟩
      · simp at h0
      · injection e1 with e2 _ _
        refine ⟨g, e2, (Array.getElem?_eq_some_iff.1 hg).1, hb, ?_⟩
        have hc := ho.cells (g := g) (by rw [e2]; rfl) xs.length (.int .i64 x) (by rw [List.reverse_cons, flat_snoc, List.getElem?_append_right (by rw [flat_len uq_len]; simp)]; rw [flat_len uq_len]; simp [uq])
        rwa [addr_add, Nat.zero_add] at hc
    obtain ⟨g, hAc, hgl, hgP, hgc⟩ := hlast
    subst hAc
    have ng : g ≠ w.heap.size := by omega
    simp only [List.length_cons] at *
    have hxs : xs.length < 32 := by omega
    have q0 : decide ((xs.length : Int) < 0) = false := by simp
    have q1 : (xs.length : Int) < (xs.length : Int) + 1 := by omega
    have q2 : (0 : Int) ≤ (xs.length : Int) := by omega
    by_cases hx : x = tk
    · subst hx
      have e1 : (!((x :: xs).head? == some x)) = false := by simp
      rw [e1]
      have d1 : (x != x) = false := by simp
      have hfin : ∀ n, Cp w P A c L i en vi a acc false tt 3 (x :: xs).tail (.returned (.tuple #[])) (((w.alloc (.cells #[.int .i64 x, .int .i64 tt, .int .i64 tn, .string (str ts)] 42)).drewN n).setCell ⟨P, 3, none⟩ (.slice (some ⟨g, 0, none⟩) xs.length cc)) := fun n => by
        have hj3 := ((HJ.out.over ((Below.refl _ _).alloc (Nat.le_refl _) (.cells #[.int .i64 x, .int .i64 tt, .int .i64 tn, .string (str ts)] 42))).over (below_drewN (Below.refl _ _) n)).close rfl
        have hq3 := ((HP.out.alloc (.cells #[.int .i64 x, .int .i64 tt, .int .i64 tn, .string (str ts)] 42)).drewN n).setC (.slice (some ⟨g, 0, none⟩) xs.length cc)
        exact ⟨rfl, (below_drewN ((Below.refl P w).alloc (Nat.le_of_lt hlt) _) n).setCell (p := ⟨P, 3, none⟩) (Nat.le_refl _) _, by rw [if_neg (by decide)]; exact ⟨_, hq3, hj3⟩⟩
      have HFin := Lib.hid hfin
      clear hfin
      go_enter Tryz.func26, Tryz.ntmps26
      go_wp2
      go_quiet (fail)
      go_wp2_with (with_reducible exact end0 Tryz.results26 rfl (HFin.out _))
    · have e1 : (!((x :: xs).head? == some tk)) = true := by simp [hx]
      rw [e1]
      have d1 : (x != tk) = true := by simp [hx]
      go_enter Tryz.func26, Tryz.ntmps26
      go_wp2
      go_quiet (fail)
      go_wp2_with fail
      refine (HFl.out _).mono ?_
      rintro r w3 ⟨rfl, hq3, hf3⟩
      have hfin : Cp w P A c L i en vi a acc true tt 3 (x :: xs).tail (.returned (.tuple #[])) w3 := ⟨rfl, ((((Fr.refl w P).alloc _).drewN _).trans hf3).below (Nat.le_of_lt hlt) (Nat.le_refl _), by rw [if_pos rfl]; exact ⟨_, _, cc, hq3⟩⟩
      have HFin := Lib.hid hfin
      clear hfin
      go_wp2_with (with_reducible exact ret0 Tryz.results26 rfl HFin.out)
end
end Go.Proofs.YthcnjiigkmljnaaGreatDoor
