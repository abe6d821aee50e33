/-
  The program's parser: the entry of a codespace range.
-/
import Derived.Test.YthcnjiigkmljnaaGreatDoorSynEnt0
namespace Go.Proofs.YthcnjiigkmljnaaGreatDoor
open Go.RowKit

section
variable {w : World} {P : Nat} {A : Option Addr} {c : Nat} {L : List Tk} {i : Nat} {en a e : Int} {vc vi : Value}
set_option maxRecDepth 100000 in
set_option maxHeartbeats 1000000 in
theorem qspace_any (h : Qs w P A c L i en vc vi a e) (hi : i ≤ L.length) (hL : Sm L) :
    Calls Tryz.prog 93 #[.pointer (some ⟨P, 0, none⟩)] w (Ep w P A c L en vc vi 2 i a e) := by
  have hlt := h.lt
  have hT := qcodes_rect (h.alloc (.cells #[.int .i64 0, .int .i64 0, .int .i64 0, .int .i64 0, .int .i64 0, .slice none 0 0, .slice none 0 0] 51)) hi hL
  have HT := Lib.hid hT
  clear hT h
  go_enter Tryz.func93, Tryz.ntmps93
  go_wp2_with fail
  refine HT.out.mono ?_
  rintro r w1 ⟨x, i1, a1, e1, rfl, hbc, hp1, hi1, hf1, hoc⟩
  obtain ⟨⟨ln, lv⟩, ⟨hn, hv⟩⟩ := x
  simp only
  clear HT
  obtain ⟨⟨f0, f1, f2, f3, f4, f5, f6⟩, ⟨y0, y1, y2, y3, y4, y5, y6⟩, hl1, hfr⟩ := kept7 hf1 hlt
  have HG := Lib.hid (set7 f0 f1 f2 f3 f4 f5 f6 (.int .i64 ln) (.int .i64 lv) (.int .i64 hn) (.int .i64 hv) (.int .i64 0) (.slice none 0 0) (.slice none 0 0))
  have hb7 := set7_bel w1 w.heap.size (.int .i64 ln) (.int .i64 lv) (.int .i64 hn) (.int .i64 hv) (.int .i64 0) (.slice none 0 0) (.slice none 0 0)
  have hO : Oc (entT L en 2 i) (fun _ => True) i a e (⟨⟨ln, lv⟩, ⟨hn, hv⟩, 0, [], []⟩ : En) i1 a1 e1 := by
    rcases hoc with ⟨h1, h2, h3, h4, _⟩ | ⟨h1, h2, h3, _⟩ | ⟨h1, h2, h3, h4⟩
    · exact .inl ⟨h1, h2, h3, h4, trivial⟩
    · exact .inr (.inl ⟨h1, by unfold entT; rw [if_pos rfl, h2, then_no], h3, trivial⟩)
    · exact .inr (.inr ⟨h1, by unfold entT; rw [if_pos rfl, h2, then_ok], h3, h4⟩)
  have hfin := fun (act : Act) (hd : act.defers = []) (h2 : act.tmps[2]?.getD undef = .pointer (some ⟨w.heap.size, 0, none⟩)) => ent_ret (R := Ep w P A c L en vc vi 2 i a e) Tryz.results93 hd h2 (cell_more (cell_more HG.out.1 _) _) (cell_more (cell_more HG.out.2.1 _) _) (cell_more (cell_more HG.out.2.2.1 _) _) (cell_more (cell_more HG.out.2.2.2.1 _) _) (cell_more (cell_more HG.out.2.2.2.2.1 _) _) (cell_more (cell_more HG.out.2.2.2.2.2.1 _) _) (cell_more (cell_more HG.out.2.2.2.2.2.2 _) _)
    ⟨(⟨⟨ln, lv⟩, ⟨hn, hv⟩, 0, [], []⟩, .slice none 0 0, .slice none 0 0), i1, a1, e1, rfl, ⟨Ux.nil, Lx.nil⟩, ((hp1.bel hlt hb7).alloc (.cells #[.int .i64 ln, .int .i64 lv] 47)).alloc (.cells #[.int .i64 hn, .int .i64 hv] 47), hi1, ((hfr.bel (Nat.le_refl _) hb7).alloc _).alloc _, hO⟩
  have HFin := Lib.hid hfin
  have nS : w.heap.size ≠ w1.heap.size := by omega
  have nS' : w.heap.size ≠ w1.heap.size + 1 := by omega
  clear hO hb7 hoc hbc hp1 hfr hf1 hfin
  go_wp2_with (with_reducible exact HFin.out _ rfl rfl)
end
end Go.Proofs.YthcnjiigkmljnaaGreatDoor
