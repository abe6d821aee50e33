/-
  The program's parser: section.
-/
import Derived.Test.YthcnjiigkmljnaaGreatDoorSynSec0
import Derived.Test.YthcnjiigkmljnaaGreatDoorSynUse
namespace Go.Proofs.YthcnjiigkmljnaaGreatDoor
open Go.RowKit

/-- What a section tells. -/
def secW (L : List Tk) (en : Int) (t ta : Tk) (kind : Int) (i : Nat) : Rs (List Im) :=
  if ta.kind = 1 then (if ta.n < 0 ∨ 100 < ta.n then .no ta.at_ 6 else (secT L en kind ta.n [] (i + 1)).then fun x j => .ok [⟨kind, t.at_, [], noT, x⟩] j) else .no t.at_ 3
theorem iq_one' (p : Im × Value) (h : p.2.oneCell' = true) : ∀ u ∈ iq p, u.oneCell' = true := by
  intro u hu
  simp only [iq, List.mem_cons, List.not_mem_nil, or_false] at hu
  rcases hu with rfl | rfl | rfl | rfl | rfl | rfl | rfl | rfl
  all_goals first | rfl | exact h
theorem dq_one (p : En × Value × Value) (h : p.2.1.oneCell' = true) (h' : p.2.2.oneCell' = true) : ∀ u ∈ dq p, u.oneCell' = true := by
  intro u hu
  simp only [dq, List.mem_cons, List.not_mem_nil, or_false] at hu
  rcases hu with rfl | rfl | rfl | rfl | rfl | rfl | rfl
  all_goals first | rfl | exact h | exact h'
theorem heap_alloc_1 (w : World) (o : Obj) : (w.alloc o).drew.heap[w.heap.size]? = some o := heap_alloc_new w o
section
variable {w : World} {P : Nat} {A : Option Addr} {c : Nat} {L : List Tk} {i : Nat} {en a e : Int} {vc vi : Value} {acc : List Im}
set_option maxRecDepth 100000 in
set_option maxHeartbeats 1000000 in
/-- section, where no number stands ahead, or one that may not be. -/
theorem qsection_bad (h : Qs w P A c L (i + 1) en vc vi a 0) (hi : i < L.length) (hL : Sm L) (t : Tk) (k : Nat) (hbad : (backT L i 1).kind ≠ 1 ∨ ((backT L i 1).n < 0 ∨ 100 < (backT L i 1).n)) :
    Calls Tryz.prog 51 #[.pointer (some ⟨P, 0, none⟩), .int .i64 (k : Int), tv t] w (Wp w P A c L en vc a acc (secW L en t (backT L i 1) (k : Int) i)) := by
  have hlt := h.lt
  have hL1 := hL.1
  have h1 : ∀ w', Qs w' P A c L (i + 1) en vc vi a 0 → Calls Tryz.prog 70 #[.pointer (some ⟨P, 0, none⟩), .int .i64 1] w' fun r w'' => r = .returned (tv (backT L i 1)) ∧ Below w'.heap.size w' w'' := fun w' hq => qahead_any hq hi hL1 1 (by decide) (by decide)
  generalize backT L i 1 = ta at *
  obtain ⟨tk, tt, tn, ts⟩ := t
  obtain ⟨ak, at_, an, as_⟩ := ta
  unfold tv at *
  simp only at *
  have H1 := Lib.hid h1
  have HP := Lib.hid h
  clear h1 h
  go_enter Tryz.func51, Tryz.ntmps51
  go_wp2_with fail
  refine (H1.out _ (HP.out.alloc _)).mono ?_
  rintro r w1 ⟨rfl, hb1⟩
  have z1 := hb1.size
  simp at z1
  have hlw : w.heap.size < w1.heap.size := by omega
  have k5 : w1.cell? ⟨w.heap.size, 1, none⟩ = some (.int .i64 tt) := (hb1.cell (p := ⟨w.heap.size, 1, none⟩) (by simp)).trans (by simp)
  have hf1 : Fr w w1 P := ((Fr.refl w P).alloc (.cells #[.int .i64 tk, .int .i64 tt, .int .i64 tn, .string (str ts)] 42)).over hb1
  have hq1 := (HP.out.alloc (.cells #[.int .i64 tk, .int .i64 tt, .int .i64 tn, .string (str ts)] 42)).over hb1
  have nT : w.heap.size ≠ w1.heap.size := by omega
  have HQ := Lib.hid (hq1.alloc (.cells #[.int .i64 ak, .int .i64 at_, .int .i64 an, .string (str as_)] 42))
  have HF := Lib.hid (hf1.alloc (.cells #[.int .i64 ak, .int .i64 at_, .int .i64 an, .string (str as_)] 42))
  have hlt1 := hq1.lt
  clear hq1 hf1 hb1 H1
  by_cases hk : ak = 1
  · have hn : an < 0 ∨ 100 < an := by rcases hbad with h | h; exact absurd hk h; exact h
    have hd : secW L en ⟨tk, tt, tn, ts⟩ ⟨ak, at_, an, as_⟩ (k : Int) i = .no at_ 6 := by unfold secW; rw [if_pos hk]; exact if_pos hn
    have HD := Lib.hid hd
    have d1 : (ak != 1) = false := by simp [hk]
    have hFl := qfail_ok HQ.out at_ 6
    have HFl := Lib.hid hFl
    have hcs : decide (an < 0) = true ∨ (decide (an < 0) = false ∧ decide ((100 : Int) < an) = true) := by simp; omega
    clear hFl hd hbad hn hk
    rcases hcs with d2 | ⟨d2, d3⟩
    all_goals
      go_wp2_with fail
      refine HFl.out.mono ?_
      rintro r w3 ⟨rfl, hq3, hf3⟩
      have hfin : Wp w P A c L en vc a acc (secW L en ⟨tk, tt, tn, ts⟩ ⟨ak, at_, an, as_⟩ (k : Int) i) (.returned (.tuple #[])) w3 := ⟨rfl, (HF.out.trans hf3).below (Nat.le_of_lt hlt) (Nat.le_refl _), .inl ⟨at_, 6, i + 1, _, HD.out, by decide, hq3⟩⟩
      have HFin := Lib.hid hfin
      clear hfin
      go_wp2_with (with_reducible exact ret0 Tryz.results51 rfl HFin.out)
  · have hd : secW L en ⟨tk, tt, tn, ts⟩ ⟨ak, at_, an, as_⟩ (k : Int) i = .no tt 3 := by unfold secW; exact if_neg hk
    have HD := Lib.hid hd
    have d1 : (ak != 1) = true := by simp [hk]
    have hFl := qfail_ok HQ.out tt 3
    have HFl := Lib.hid hFl
    clear hFl hd hbad hk
    go_wp2_with fail
    refine HFl.out.mono ?_
    rintro r w3 ⟨rfl, hq3, hf3⟩
    have hfin : Wp w P A c L en vc a acc (secW L en ⟨tk, tt, tn, ts⟩ ⟨ak, at_, an, as_⟩ (k : Int) i) (.returned (.tuple #[])) w3 := ⟨rfl, (HF.out.trans hf3).below (Nat.le_of_lt hlt) (Nat.le_refl _), .inl ⟨tt, 3, i + 1, _, HD.out, by decide, hq3⟩⟩
    have HFin := Lib.hid hfin
    clear hfin
    go_wp2_with (with_reducible exact ret0 Tryz.results51 rfl HFin.out)
end
end Go.Proofs.YthcnjiigkmljnaaGreatDoor
