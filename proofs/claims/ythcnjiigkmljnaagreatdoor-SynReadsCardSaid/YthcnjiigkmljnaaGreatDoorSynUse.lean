/-
  The program's parser: use.
-/
import Derived.Test.YthcnjiigkmljnaaGreatDoorSynDev11
import Derived.Test.YthcnjiigkmljnaaGreatDoorPart3
import Derived.Deep.RegionHeldLaw
import Derived.Deep.RegionLaw
import Derived.Test.YthcnjiigkmljnaaGreatDoorPart5
namespace Go.Proofs.YthcnjiigkmljnaaGreatDoor
open Go.RowKit

@[go_sem] theorem bldI4 (k at_ : Int) (s : ByteArray) (a b n : Int) (z : ByteArray) (w : World) : (Instr.build 45 #[(0, .int .i64 k), (1, .int .i64 at_), (2, .string s), (3, .agg #[.int .i64 a, .int .i64 b, .int .i64 n, .string z])]).run Tryz.prog w = .ok (.agg #[.int .i64 k, .int .i64 at_, .string s, .int .i64 a, .int .i64 b, .int .i64 n, .string z, .slice none 0 0]) w := run_build w 45 _ _ (by kernel_rfl)
@[go_sem] theorem bldI3 (k at_ : Int) (s : ByteArray) (w : World) : (Instr.build 45 #[(0, .int .i64 k), (1, .int .i64 at_), (2, .string s)]).run Tryz.prog w = .ok (.agg #[.int .i64 k, .int .i64 at_, .string s, .int .i64 0, .int .i64 0, .int .i64 0, .string ⟨#[]⟩, .slice none 0 0]) w := run_build w 45 _ _ (by kernel_rfl)
@[go_sem] theorem bldI5 (k at_ : Int) (A : Option Addr) (n c : Nat) (w : World) : (Instr.build 45 #[(0, .int .i64 k), (1, .int .i64 at_), (4, .slice A n c)]).run Tryz.prog w = .ok (.agg #[.int .i64 k, .int .i64 at_, .string ⟨#[]⟩, .int .i64 0, .int .i64 0, .int .i64 0, .string ⟨#[]⟩, .slice A n c]) w := run_build w 45 _ _ (by kernel_rfl)
/-- What a method that does what a word asks for leaves. -/
def Wp (w : World) (P : Nat) (A : Option Addr) (c : Nat) (L : List Tk) (en : Int) (vc : Value) (a : Int) (acc : List Im) (res : Rs (List Im)) (r : Ending) (w' : World) : Prop :=
  r = .returned (.tuple #[]) ∧ Below P w w' ∧ ((∃ a' e' i' vi', res = .no a' e' ∧ e' ≠ 0 ∧ Qs w' P A c L i' en vc vi' a' e') ∨ (∃ x j vi', res = .ok x j ∧ j ≤ L.length ∧ Qs w' P A c L j en vc vi' a 0 ∧ Js w' P vc vi' [] (acc ++ x)))
/-- What def tells. -/
def defT (t tb ta : Tk) : List Im := if tb.kind = 2 ∧ (ta.kind = 1 ∨ ta.kind = 2 ∨ ta.kind = 5) then [⟨0, t.at_, tb.s, ta, []⟩] else []
theorem end0 {W : World} {fn : Func} {R : Ending → World → Prop} {act : Act} (hres : fn.results = #[]) (hd : act.defers = []) (hR : R (.returned (.tuple #[])) W) : bodyPost Tryz.prog fn R .normal act W :=
  bodyPost_end (v := _) (by simp [results, hres, go_sem]; try rfl) hd hR
theorem ret0 {W : World} {fn : Func} {R : Ending → World → Prop} {act : Act} (hres : fn.results = #[]) (hd : act.defers = []) (hR : R (.returned (.tuple #[])) W) : bodyPost Tryz.prog fn R .ret act W :=
  bodyPost_ret (v := _) (by simp [results, hres, go_sem]; try rfl) hd hR
theorem heap_alloc_2 (w : World) (o o' : Obj) : ((w.alloc o).alloc o').drew.heap[w.heap.size + 1]? = some o' := heap_alloc_two w o o'
theorem heap_alloc_3 (w : World) (o o' o'' : Obj) : (((w.alloc o).alloc o').alloc o'').drew.heap[w.heap.size + 2]? = some o'' := by
  have h := heap_alloc_new ((w.alloc o).alloc o') o''
  have e : ((w.alloc o).alloc o').heap.size = w.heap.size + 2 := by simp
  rw [e] at h
  exact h
theorem iq_one (p : Im × Value) (hv : p.2 = .slice none 0 0) : ∀ u ∈ iq p, u.oneCell' = true := by
  intro u hu
  simp only [iq, List.mem_cons, List.not_mem_nil, or_false] at hu
  rcases hu with rfl | rfl | rfl | rfl | rfl | rfl | rfl | rfl
  all_goals first | rfl | (rw [hv]; rfl)
section
variable {w : World} {P : Nat} {A : Option Addr} {c : Nat} {L : List Tk} {i : Nat} {en a e : Int} {vc vi : Value} {acc : List Im}
/-- What usecmap tells. -/
def useT (t ta : Tk) (i : Nat) : Rs (List Im) := if ta.kind = 2 then .ok [⟨1, t.at_, ta.s, noT, []⟩] (i + 1) else .no t.at_ 3
set_option maxRecDepth 100000 in
set_option maxHeartbeats 2000000 in
theorem quse_any (h : Qs w P A c L (i + 1) en vc vi a 0) (hj : Js w P vc vi [] acc) (hi : i < L.length) (hL : L.length ≤ 1048576) (hal : acc.length ≤ 1048576) (t : Tk) :
    Calls Tryz.prog 49 #[.pointer (some ⟨P, 0, none⟩), tv t] w (Wp w P A c L en vc a acc (useT t (backT L i 1) i)) := by
  obtain ⟨i0, hi0, hz0, hz1, hz2⟩ := info_parts infoI
  have hlt := h.lt
  have h1 : ∀ w', Qs w' P A c L (i + 1) en vc vi a 0 → Calls Tryz.prog 70 #[.pointer (some ⟨P, 0, none⟩), .int .i64 1] w' fun r w'' => r = .returned (tv (backT L i 1)) ∧ Below w'.heap.size w' w'' := fun w' hq => qahead_any hq hi hL 1 (by decide) (by decide)
  generalize backT L i 1 = ta at *
  obtain ⟨tk, tt, tn, ts⟩ := t
  obtain ⟨ak, at_, an, as_⟩ := ta
  unfold tv at *
  simp only at *
  obtain ⟨d, hacc, hod, hnd⟩ := hj.oi
  obtain ⟨Ai, ci, hvie, _⟩ := row_shape hod
  subst hvie
  have hdl : d.length ≤ 1048576 := by rw [hacc, List.length_map] at hal; exact hal
  have H1 := Lib.hid h1
  have HP := Lib.hid h
  have HJ := Lib.hid hj
  clear h1 h hj
  go_enter Tryz.func49, Tryz.ntmps49
  go_wp2_with fail
  refine (H1.out _ (HP.out.alloc _)).mono ?_
  rintro r w2 ⟨rfl, hb1⟩
  have z1 := hb1.size
  simp at z1
  have k3 : w2.cell? ⟨w.heap.size, 1, none⟩ = some (.int .i64 tt) := (hb1.cell (p := ⟨w.heap.size, 1, none⟩) (by simp)).trans (by simp)
  have hf2 : Fr w w2 P := ((Fr.refl w P).alloc _).over hb1
  have hq2 := (HP.out.alloc (.cells #[.int .i64 tk, .int .i64 tt, .int .i64 tn, .string (str ts)] 42)).over hb1
  have hbel2 : Below P w w2 := hf2.below (Nat.le_of_lt hlt) (Nat.le_refl _)
  have nT : w.heap.size ≠ w2.heap.size := by omega
  have hlw : w.heap.size < w2.heap.size := by omega
  have hlt2 := hq2.lt
  have HQ := Lib.hid hq2
  have HF := Lib.hid hf2
  have HB := Lib.hid hbel2
  have c4 := hq2.c4
  clear hq2 hf2 hbel2 hb1 H1
  by_cases hk : ak = 2
  · have hd : useT ⟨tk, tt, tn, ts⟩ ⟨ak, at_, an, as_⟩ i = .ok [(⟨1, tt, as_, noT, []⟩ : Im)] (i + 1) := by unfold useT; exact if_pos hk
    have d1 : (ak != 2) = false := by simp [hk]
    have hown := own_fr hod (HF.out.alloc (.cells #[.int .i64 ak, .int .i64 at_, .int .i64 an, .string (str as_)] 42)) (Nat.lt_succ_self P)
    have hqb := HQ.out.alloc (.cells #[.int .i64 ak, .int .i64 at_, .int .i64 an, .string (str as_)] 42)
    have hvi : ∀ b, (Value.slice Ai d.length ci).ownBlock = some b → P < b ∧ b < w.heap.size := fun b hb => ⟨(hod.lt b hb).1, (hod.lt b hb).2⟩
    have hfin : ∀ (g n cap : Nat) (w3 : World), (((w2.alloc (.cells #[.int .i64 ak, .int .i64 at_, .int .i64 an, .string (str as_)] 42)).alloc (.cells #[.int .i64 1, .int .i64 tt, .string (str as_), .int .i64 0, .int .i64 0, .int .i64 0, .string ⟨#[]⟩, .slice none 0 0] 45)).drew).grownBy w3 (Value.slice Ai d.length ci).ownBlock → ((Value.slice Ai d.length ci).ownBlock = some g ∨ g = (((w2.alloc (.cells #[.int .i64 ak, .int .i64 at_, .int .i64 an, .string (str as_)] 42)).alloc (.cells #[.int .i64 1, .int .i64 tt, .string (str as_), .int .i64 0, .int .i64 0, .int .i64 0, .string ⟨#[]⟩, .slice none 0 0] 45)).drew).heap.size) → w3.ownsRow (P + 1) 45 8 (.slice (some ⟨g, 0, none⟩) n cap) (d.length + 1) (d.flatMap iq ++ iq ((⟨1, tt, as_, noT, []⟩ : Im), .slice none 0 0)) → Wp w P A c L en vc a acc (useT ⟨tk, tt, tn, ts⟩ ⟨ak, at_, an, as_⟩ i) (.returned (.tuple #[])) (w3.setCell ⟨P, 4, none⟩ (.slice (some ⟨g, 0, none⟩) n cap)) := fun g n cap w3 hgrow hat hown3 => by
      have hq3 := ((hqb.alloc (.cells #[.int .i64 1, .int .i64 tt, .string (str as_), .int .i64 0, .int .i64 0, .int .i64 0, .string ⟨#[]⟩, .slice none 0 0] 45)).drew).grown hgrow (fun b hb => (hvi b hb).1)
      have hfw : Fr w (((w2.alloc (.cells #[.int .i64 ak, .int .i64 at_, .int .i64 an, .string (str as_)] 42)).alloc (.cells #[.int .i64 1, .int .i64 tt, .string (str as_), .int .i64 0, .int .i64 0, .int .i64 0, .string ⟨#[]⟩, .slice none 0 0] 45)).drew) P := ((HF.out.alloc _).alloc _).drew
      refine ⟨rfl, ?_, .inr ⟨[(⟨1, tt, as_, noT, []⟩ : Im)], i + 1, _, hd, hi, hq3.setI _, HJ.out.item hlt hfw Ex.nil hgrow hat d hacc hod hnd hown3⟩⟩
      have hb3 : Below P w (((w2.alloc (.cells #[.int .i64 ak, .int .i64 at_, .int .i64 an, .string (str as_)] 42)).alloc (.cells #[.int .i64 1, .int .i64 tt, .string (str as_), .int .i64 0, .int .i64 0, .int .i64 0, .string ⟨#[]⟩, .slice none 0 0] 45)).drew) := hfw.below (Nat.le_of_lt hlt) (Nat.le_refl _)
      exact (hb3.grown hgrow (by have := hfw.size; omega) (fun b hb => Nat.le_of_lt (hvi b hb).1)).setCell (p := ⟨P, 4, none⟩) (Nat.le_refl _) _
    have hcl : ∀ w3 : World, (((w2.alloc (.cells #[.int .i64 ak, .int .i64 at_, .int .i64 an, .string (str as_)] 42)).alloc (.cells #[.int .i64 1, .int .i64 tt, .string (str as_), .int .i64 0, .int .i64 0, .int .i64 0, .string ⟨#[]⟩, .slice none 0 0] 45)).drew).grownBy w3 (Value.slice Ai d.length ci).ownBlock → w3.cell? ⟨P, 4, none⟩ = some (.slice Ai d.length ci) ∧ w3.frozen? ⟨P, 4, none⟩ = false := fun w3 hgrow => by
      have hq3 := ((hqb.alloc (.cells #[.int .i64 1, .int .i64 tt, .string (str as_), .int .i64 0, .int .i64 0, .int .i64 0, .string ⟨#[]⟩, .slice none 0 0] 45)).drew).grown hgrow (fun b hb => (hvi b hb).1)
      exact ⟨hq3.c4, hq3.z4⟩
    have HFin := Lib.hid hfin
    have HCl := Lib.hid hcl
    have HOwn := Lib.hid hown
    have nP : P ≠ w2.heap.size := by omega
    have nP1 : P ≠ w2.heap.size + 1 := by omega
    clear hfin hcl hown hqb hd hnd hod hvi hk
    go_wp2
    go_region_law ((refine step_append_lies _ (by rfl) _ _ _ (by rfl) (P + 1) 45 i0 (.agg #[.int .i64 0, .int .i64 0, .string ⟨#[]⟩, .int .i64 0, .int .i64 0, .int .i64 0, .string ⟨#[]⟩, .slice none 0 0]) 8 96 Tryz.underlying25 hi0 hz0 hz1 hz2 rfl (by omega) (.slice Ai d.length ci) d.length (d.flatMap iq) (by rfl) (HOwn.out.alloc _).drew ⟨w2.heap.size + 1, 0, none⟩ 1 1 (iq ((⟨1, tt, as_, noT, []⟩ : Im), .slice none 0 0)) (by rfl) (by rfl) (World.news_of_block (heap_alloc_2 w2 _ _)) (by intro u hu; exact iq_one _ rfl u hu) (by omega) (by unfold maxLen; omega) (by omega) (by simp; omega) _ rfl ?_; intro g cap w3 hown3 hgrow hat hgl; obtain ⟨e4, ez4⟩ := HCl.out w3 hgrow))
    all_goals
      have HZ := Lib.hid (HFin.out g (d.length + 1) cap w3 hgrow hat hown3)
      go_wp2_with (with_reducible exact end0 Tryz.results49 rfl HZ.out)
  · have hd : useT ⟨tk, tt, tn, ts⟩ ⟨ak, at_, an, as_⟩ i = .no tt 3 := by unfold useT; exact if_neg hk
    have d1 : (ak != 2) = true := by simp [hk]
    have hFl := qfail_ok (HQ.out.alloc (.cells #[.int .i64 ak, .int .i64 at_, .int .i64 an, .string (str as_)] 42)) tt 3
    have HFl := Lib.hid hFl
    have HD := Lib.hid hd
    clear hFl hk hd
    go_wp2_with fail
    refine HFl.out.mono ?_
    rintro r w3 ⟨rfl, hq3, hf3⟩
    have hfin : Wp w P A c L en vc a acc (useT ⟨tk, tt, tn, ts⟩ ⟨ak, at_, an, as_⟩ i) (.returned (.tuple #[])) w3 := ⟨rfl, (((HF.out.alloc _).trans hf3)).below (Nat.le_of_lt hlt) (Nat.le_refl _), .inl ⟨tt, 3, i + 1, _, HD.out, by decide, hq3⟩⟩
    have HFin := Lib.hid hfin
    clear hfin
    go_wp2_with (with_reducible exact ret0 Tryz.results49 rfl HFin.out)
end
end Go.Proofs.YthcnjiigkmljnaaGreatDoor
