/-
  The program's parser: word.
-/
import Derived.Test.YthcnjiigkmljnaaGreatDoorSynItem0
import Derived.Test.YthcnjiigkmljnaaGreatDoorSynSec2
import Derived.Test.YthcnjiigkmljnaaGreatDoorSynDefn
import Derived.Test.YthcnjiigkmljnaaGreatDoorSynClo
namespace Go.Proofs.YthcnjiigkmljnaaGreatDoor
open Go.RowKit

set_option maxRecDepth 1000000 in
theorem ent_enter (k : Nat) (hk2 : 2 ≤ k) (hk8 : k ≤ 8) : ∀ (args : Array Value) (w' : World), (callFunc (entF k) args).run Tryz.prog w' = .ok (.enter (entF k) args) w' := by
  rcases (show k = 2 ∨ k = 3 ∨ k = 4 ∨ k = 5 ∨ k = 6 ∨ k = 7 ∨ k = 8 by omega) with rfl | rfl | rfl | rfl | rfl | rfl | rfl
  all_goals (intro args w'; rfl)
section
variable {w : World} {P : Nat} {A : Option Addr} {c : Nat} {L : List Tk} {i : Nat} {en a e : Int} {vc vi : Value} {acc : List Im}
theorem qsection_any (h : Qs w P A c L (i + 1) en vc vi a 0) (hj : Js w P vc vi [] acc) (hs : Sec w) (hgP : 0 < P) (hi : i < L.length) (hL : Sm L) (hal : acc.length ≤ 1048576) (t : Tk) (k : Nat) (hk2 : 2 ≤ k) (hk8 : k ≤ 8) :
    Calls Tryz.prog 51 #[.pointer (some ⟨P, 0, none⟩), .int .i64 (k : Int), tv t] w (Wp w P A c L en vc a acc (secW L en t (backT L i 1) (k : Int) i)) := by
  by_cases h1 : (backT L i 1).kind = 1
  · by_cases h2 : (backT L i 1).n < 0 ∨ 100 < (backT L i 1).n
    · exact qsection_bad h hi hL t k (.inr h2)
    · exact qsection_good h hj hs hgP hi hL hal t k hk2 hk8 (entF k) (fun w' i' a' e' hq hi' => qent_any hL k hk2 hk8 w' i' a' e' hq hi') (fun w' => qentryOf_any P k hk2 hk8 w') (ent_enter k hk2 hk8) h1 h2
  · exact qsection_bad h hi hL t k (.inl h1)
set_option maxRecDepth 100000 in
set_option maxHeartbeats 1000000 in
theorem qword_any (h : Qs w P A c L (i + 1) en vc vi a 0) (hj : Js w P vc vi [] acc) (hs : Sec w) (hgP : 0 < P) (hi : i < L.length) (hL1 : L.length ≤ 1048576) (hW : Sm L ∨ Idle (tg L i).s) (hal : acc.length ≤ 1048576) :
    Calls Tryz.prog 27 #[.pointer (some ⟨P, 0, none⟩), tv (tg L i)] w (Wp w P A c L en vc a acc (wordT L en i)) := by
  have hlt := h.lt
  have hD := fun o => qdef_any (h.alloc o) (hj.over ((Below.refl _ _).alloc (Nat.le_refl _) o)) hi hL1 hal (tg L i)
  have hU := fun o => quse_any (h.alloc o) (hj.over ((Below.refl _ _).alloc (Nat.le_refl _) o)) hi hL1 hal (tg L i)
  have hB := fun o => qbegun_any (tg L i).s (w.alloc o) (hs.below' ((Below.refl _ _).alloc (Nat.le_refl _) o))
  have hS := fun (hL : Sm L) (w' : World) (hb : Below w.heap.size w w') (k : Nat) hk2 hk8 => qsection_any (h.over hb) (hj.over hb) (hs.below' hb) hgP hi hL hal (tg L i) k hk2 hk8
  have hwd := @wordT_def L en i
  have hwu := @wordT_use L en i
  have hwn := @wordT_none L en i
  have hws := @wordT_sec L en i
  have hfz : ∀ w', Below w.heap.size w w' → Qs w' P A c L (i + 1) en vc vi a 0 ∧ Js w' P vc vi [] acc := fun w' hb => ⟨h.over hb, hj.over hb⟩
  generalize wordT L en i = res at *
  generalize tg L i = t at *
  obtain ⟨tk, tt, tn, ts⟩ := t
  unfold tv at *
  simp only at *
  have hbA : ∀ o, Below P w (w.alloc o) := fun o => (Below.refl P w).alloc (Nat.le_of_lt hlt) o
  by_cases h1 : ts = [100, 101, 102]
  · have hr := hwd h1
    subst hr
    have e1 : (ts == [100, 101, 102]) = true := by rw [h1]; rfl
    have HD := Lib.hid (hD (.cells #[.int .i64 tk, .int .i64 tt, .int .i64 tn, .string (str ts)] 42))
    have HBA := Lib.hid (hbA (.cells #[.int .i64 tk, .int .i64 tt, .int .i64 tn, .string (str ts)] 42))
    clear hW hD hU hB hS hwd hwu hwn hws hfz hbA h hj hs h1
    go_enter Tryz.func27, Tryz.ntmps27
    go_wp2_with fail
    refine HD.out.mono ?_
    rintro r w2 hw2
    obtain ⟨rfl, hw3⟩ := hw2
    have HFin := Lib.hid (Wp.ahead ⟨rfl, hw3⟩ HBA.out)
    clear hw3
    go_wp2_with (with_reducible exact end0 Tryz.results27 rfl HFin.out)
  · have e1 : (ts == [100, 101, 102]) = false := by rw [beq_eq_false_iff_ne]; exact h1
    by_cases h2 : ts = [117, 115, 101, 99, 109, 97, 112]
    · have hr := hwu h2
      subst hr
      have e2 : (ts == [117, 115, 101, 99, 109, 97, 112]) = true := by rw [h2]; rfl
      have HD := Lib.hid (hU (.cells #[.int .i64 tk, .int .i64 tt, .int .i64 tn, .string (str ts)] 42))
      have HBA := Lib.hid (hbA (.cells #[.int .i64 tk, .int .i64 tt, .int .i64 tn, .string (str ts)] 42))
      clear hW hD hU hB hS hwd hwu hwn hws hfz hbA h hj hs h1 h2
      go_enter Tryz.func27, Tryz.ntmps27
      go_wp2_with fail
      refine HD.out.mono ?_
      rintro r w2 hw2
      obtain ⟨rfl, hw3⟩ := hw2
      have HFin := Lib.hid (Wp.ahead ⟨rfl, hw3⟩ HBA.out)
      clear hw3
      go_wp2_with (with_reducible exact end0 Tryz.results27 rfl HFin.out)
    · have e2 : (ts == [117, 115, 101, 99, 109, 97, 112]) = false := by rw [beq_eq_false_iff_ne]; exact h2
      have hB' := hB (.cells #[.int .i64 tk, .int .i64 tt, .int .i64 tn, .string (str ts)] 42)
      rcases begunT_range ts with h3 | ⟨k, hk2, hk8, h3⟩
      · have hr := hwn h1 h2 h3
        subst hr
        rw [h3] at hB'
        have e3 : ((0 : Int) != 0) = false := by decide
        rw [e3] at hB'
        have HB := Lib.hid hB'
        have hfin : ∀ w', Below w.heap.size w w' → Wp w P A c L en vc a acc (.ok [] (i + 1)) (.returned (.tuple #[])) w' := fun w' hb => ⟨rfl, hb.mono (Nat.le_of_lt hlt), .inr ⟨[], i + 1, vi, rfl, hi, (hfz w' hb).1, by rw [List.append_nil]; exact (hfz w' hb).2⟩⟩
        have HFi := Lib.hid hfin
        clear hW hD hU hB hS hwd hwu hwn hws hfz hbA h hj hs h1 h2 h3 hB' hfin
        go_enter Tryz.func27, Tryz.ntmps27
        go_wp2_with fail
        refine HB.out.mono ?_
        rintro r w2 ⟨rfl, hb2⟩
        have HFin := Lib.hid (HFi.out w2 (((Below.refl _ _).alloc (Nat.le_refl _) _).trans (hb2.mono (by simp))))
        clear hb2
        go_wp2_with (with_reducible exact end0 Tryz.results27 rfl HFin.out)
      · have hSm : Sm L := by rcases hW with h | h; exact h; exact absurd (h.2.2.symm.trans h3) (by omega)
        have hr := hws h1 h2 (by rw [h3]; omega)
        subst hr
        rw [h3] at hB'
        have e3 : ((k : Int) != 0) = true := by rw [bne_iff_ne]; omega
        rw [e3] at hB'
        have HB := Lib.hid hB'
        have HS := Lib.hid (hS hSm)
        have H3 := Lib.hid h3
        clear hW hD hU hB hS hwd hwu hwn hws hfz h hj hs h1 h2 h3 hB' hbA
        go_enter Tryz.func27, Tryz.ntmps27
        go_wp2_with fail
        refine HB.out.mono ?_
        rintro r w2 ⟨rfl, hb2⟩
        have hbw : Below w.heap.size w w2 := ((Below.refl _ _).alloc (Nat.le_refl _) _).trans (hb2.mono (by simp))
        have k0 : w2.cell? ⟨w.heap.size, 0, none⟩ = some (.int .i64 tk) := (hb2.cell (p := ⟨w.heap.size, 0, none⟩) (by simp)).trans (by simp)
        have k1 : w2.cell? ⟨w.heap.size, 1, none⟩ = some (.int .i64 tt) := (hb2.cell (p := ⟨w.heap.size, 1, none⟩) (by simp)).trans (by simp)
        have k2 : w2.cell? ⟨w.heap.size, 2, none⟩ = some (.int .i64 tn) := (hb2.cell (p := ⟨w.heap.size, 2, none⟩) (by simp)).trans (by simp)
        have k3 : w2.cell? ⟨w.heap.size, 3, none⟩ = some (.string (str ts)) := (hb2.cell (p := ⟨w.heap.size, 3, none⟩) (by simp)).trans (by simp)
        have hS2 := HS.out w2 hbw k hk2 hk8
        have HS2 := Lib.hid hS2
        have HBw := Lib.hid (hbw.mono (Nat.le_of_lt hlt))
        clear hS2 hbw hb2 HS HB
        go_wp2_with fail
        refine HS2.out.mono ?_
        rintro r w3 hw3
        obtain ⟨rfl, hw4⟩ := hw3
        have hfin := Wp.ahead ⟨rfl, hw4⟩ HBw.out
        rw [← H3.out] at hfin
        have HFin := Lib.hid hfin
        clear hw4 hfin
        go_wp2_with (with_reducible exact end0 Tryz.results27 rfl HFin.out)
end
end Go.Proofs.YthcnjiigkmljnaaGreatDoor
