/-
  The program's own Put.
-/
import Derived.Test.YtdlkgcbiekilhaaSpanCat
import Derived.Test.YtdlkgcbiekilhaaSpanBuild
namespace Go.Proofs.Ytdlkgcbiekilhaa
open Go.RowKit
attribute [local go_sem ↓] Go.wp_at_zero Go.wp_at_succ

theorem two_new (W : World) (u0 u1 : Value) (t : TypeId) : (W.alloc (.cells #[u0, u1] t)).cell? ⟨W.heap.size, 0, none⟩ = some u0 ∧ (W.alloc (.cells #[u0, u1] t)).cell? ⟨W.heap.size, 1, none⟩ = some u1 := ⟨by simp, by simp⟩
set_option maxRecDepth 100000 in
set_option maxHeartbeats 4000000 in
theorem Put_any (st : Bool) (l : List Sp) (s : Sp) (hl : l.length ≤ 3000) (A : Option Addr) (c : Nat) (w : World) (hA : Ss w w.heap.size A l) (hn : A = none → c = 0) :
    Calls Try.prog 23 #[.slice A l.length c, sv s, .bool st] w (Bld w st (l ++ [s])) := by
  obtain ⟨sn, slo, shi, sto⟩ := s
  have bl : ∀ (a b : World) (o : Obj), Below w.heap.size a b → w.heap.size ≤ b.heap.size → Below w.heap.size a (b.alloc o) ∧ w.heap.size ≤ (b.alloc o).heap.size := fun a b o k1 k2 => ⟨k1.alloc k2 o, by rw [World.size_alloc]; omega⟩
  have k1 := bl w w (.cells #[.int .i64 sn, .int .i64 slo, .int .i64 shi, .int .i64 sto] 24) (Below.refl _ _) (Nat.le_refl _)
  have k2 := bl _ _ (.cells #[.int .i64 sn, .int .i64 slo, .int .i64 shi, .int .i64 sto] 24) k1.1 k1.2
  have k3 := bl _ _ (.cells #[.slice A l.length c, .slice (some ⟨w.heap.size + 1, 0, none⟩) 1 1] 22) k2.1 k2.2
  have hs1 := (Bs.new (w.alloc (.cells #[.int .i64 sn, .int .i64 slo, .int .i64 shi, .int .i64 sto] 24)) ⟨sn, slo, shi, sto⟩ 24).below ((Below.refl _ _).alloc (Nat.le_refl _) (.cells #[.slice A l.length c, .slice (some ⟨w.heap.size + 1, 0, none⟩) 1 1] 22)) (by simp)
  have hb01 := two_new ((w.alloc (.cells #[.int .i64 sn, .int .i64 slo, .int .i64 shi, .int .i64 sto] 24)).alloc (.cells #[.int .i64 sn, .int .i64 slo, .int .i64 shi, .int .i64 sto] 24)) (.slice A l.length c) (.slice (some ⟨w.heap.size + 1, 0, none⟩) 1 1) 22
  have hsz : (((w.alloc (.cells #[.int .i64 sn, .int .i64 slo, .int .i64 shi, .int .i64 sto] 24)).alloc (.cells #[.int .i64 sn, .int .i64 slo, .int .i64 shi, .int .i64 sto] 24)).alloc (.cells #[.slice A l.length c, .slice (some ⟨w.heap.size + 1, 0, none⟩) 1 1] 22)).heap.size = w.heap.size + 3 := by simp
  simp only [World.size_alloc] at hs1 hb01
  have K1 := Lib.hid (Concat_any A (some ⟨w.heap.size + 1, 0, none⟩) c 1 l [⟨sn, slo, shi, sto⟩] (w.heap.size + 1 + 1) _ (hA.over k3.1) (fun _ => ⟨w.heap.size + 1, 0, rfl, by omega, fun j x hx => by
    cases j with
    | zero => cases hx; exact hs1
    | succ j => simp at hx⟩) hn (fun e => by cases e) (by omega) (by simp) (by simp) hb01.1 hb01.2 (by omega))
  have hbk := k3.1
  clear bl k1 k2 k3 hs1 hb01 hsz hA hn
  unfold sv
  go_enter Try.func23, Try.ntmps23
  go_wp2_with fail
  generalize (((w.alloc (.cells #[.int .i64 sn, .int .i64 slo, .int .i64 shi, .int .i64 sto] 24)).alloc (.cells #[.int .i64 sn, .int .i64 slo, .int .i64 shi, .int .i64 sto] 24)).alloc (.cells #[.slice A l.length c, .slice (some ⟨w.heap.size + 1, 0, none⟩) 1 1] 22)) = W3 at *
  refine K1.out.mono ?_
  rintro e w1 ⟨A1, c1, rfl, h2, h3, h4, h5⟩
  have hb1 := hbk.trans (h5.mono hbk.size)
  have K2 := Lib.hid (Build_any st (l ++ [⟨sn, slo, shi, sto⟩]) (by simp; omega) A1 c1 w1 h4)
  clear h2 h3 h4 h5 hbk K1
  generalize (l ++ [(⟨sn, slo, shi, sto⟩ : Sp)]).length = k at *
  go_wp2_with fail
  refine K2.out.mono ?_
  rintro e w2 ⟨m, p1, p2, A3, c3, rfl, p3, p4, p5, p6⟩
  go_wp2
  go_ret
  exact ⟨m, p1, p2, A3, c3, rfl, p3, p4, p5, hb1.trans (p6.mono hb1.size)⟩
end Go.Proofs.Ytdlkgcbiekilhaa
