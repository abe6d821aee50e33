/-
  The program's own left: an iterator that reads a list.
-/
import Derived.RangeFuncNested
import Derived.RangeFuncBound
import Derived.RangeFuncCalls
import Derived.RangeFuncLeaves
import Derived.Shelf.Abstract
import Derived.Shelf.RegionOpen
import Derived.WalkKit
import Derived.OwnWalkIn
import Derived.TacticsInMore
import Derived.LoopNIn
import Derived.LoopIn
import Derived.Test.YtdlkgcbiekilhaaSpanPro3
import Derived.Test.YtdlkgcbiekilhaaSpanKp
namespace Go.Proofs.Ytdlkgcbiekilhaa
open Go.RowKit Go.Shelf
attribute [local go_sem] Oper.semAt_some

theorem leftG_stop {st : Bool} {s c : Sp} {cs : List Sp} {lo : Int} (h : ahS s c) : leftG st s lo (c :: cs) = if lo ≤ s.hi then [partS st s lo s.hi] else [] := by
  rw [leftG, if_pos h]
theorem leftG_cut {st : Bool} {s c : Sp} {cs : List Sp} {lo : Int} (h : ¬ ahS s c) (k : lo < c.lo) : leftG st s lo (c :: cs) = partS st s lo (c.lo - 1) :: leftG st s (c.hi + 1) cs := by
  rw [leftG, if_neg h, if_pos k]
  rfl
theorem leftG_skip {st : Bool} {s c : Sp} {cs : List Sp} {lo : Int} (h : ¬ ahS s c) (k : ¬ lo < c.lo) : leftG st s lo (c :: cs) = leftG st s (c.hi + 1) cs := by
  rw [leftG, if_neg h, if_neg k]
  rfl
set_option maxRecDepth 100000 in
set_option maxHeartbeats 8000000 in
theorem left1_in (m : Nat) (hm : 1 ≤ m) (st : Bool) (q sB cB tB n₀ : Nat) (A : Option Addr) (cap : Nat) (cs : List Sp) (s : Sp) (hl : cs.length ≤ 1048576) (hns : Nr s) (hnc : ∀ c ∈ cs, Nr c) (OB VB : Nat) (B0 : Nat) (J Jx : List Sp → World → Prop)
    (hJ : AbidesFrom B0 J)
    (hLn : ∀ p ∈ leftG st s s.lo cs, Nr p) (hY : ∀ pre x W, Nr x → J pre W → pre.length < (leftG st s s.lo cs).length → YieldAt Fence.wide (m - 1) Try.prog q #[sv x] W fun e W' =>
      (e = .returned (.bool true) ∧ J (pre ++ [x]) W' ∧ KpO OB VB W W') ∨ (e = .returned (.bool false) ∧ Jx (pre ++ [x]) W'))
    (W : World) (hs : Bs W sB s) (hc : W.cell? ⟨cB, 0, none⟩ = some (.slice A cs.length cap)) (ht : W.cell? ⟨tB, 0, none⟩ = some (.bool st)) (hA : Ss W n₀ A cs) (hO : OB < W.heap.size) (hV : VB < W.heap.size) (hok : ∀ g, rowB OB W = some g → g < W.heap.size) (hsB : Safe OB VB W sB) (htB : Safe OB VB W tB) (hSf : ∀ b, b < n₀ → Safe OB VB W b) (h0 : J [] W) :
    CallsIn Fence.wide m Try.prog 47 #[.func (.yield q) #[] #[], .pointer (some ⟨sB, 0, none⟩), .pointer (some ⟨cB, 0, none⟩), .pointer (some ⟨tB, 0, none⟩)] W fun e W' => (∃ v, e = .returned v) ∧
      ((∃ ys, leftG st s s.lo cs = ys ∧ J ys W') ∨ (∃ pre, pre <+: leftG st s s.lo cs ∧ Jx pre W')) := by
  obtain ⟨n, hn⟩ : ∃ n, n = cs.length := ⟨_, rfl⟩
  have HN := Lib.hid hn
  have HNC := Lib.hid hnc
  obtain ⟨L, hL⟩ : ∃ L, L = leftG st s s.lo cs := ⟨_, rfl⟩
  rw [← hL] at hY hLn ⊢
  have HLN := Lib.hid hLn
  clear hLn
  have HL0 := Lib.hid hL
  rw [← hn] at hl hc
  have HS : Hid (∀ w', KpO OB VB W w' → (w'.cell? ⟨sB, 0, none⟩ = some (.int .i64 s.n) ∧ w'.cell? ⟨sB, 1, none⟩ = some (.int .i64 s.lo) ∧ w'.cell? ⟨sB, 2, none⟩ = some (.int .i64 s.hi) ∧ w'.cell? ⟨sB, 3, none⟩ = some (.int .i64 s.to)) ∧ w'.cell? ⟨tB, 0, none⟩ = some (.bool st)) := Lib.hid fun w' hw => by
    have p := hw.bs hs hsB
    exact ⟨⟨p.c0, by simpa using p.c1, by simpa using p.c2, by simpa using p.c3⟩, hw.cell ht htB⟩
  have HAS : Hid (∀ w', KpO OB VB W w' → Ss w' n₀ A cs) := Lib.hid fun w' hw hn0 => by
    obtain ⟨b, o, e, hb, hc⟩ := hA hn0
    have hsf := hSf b hb
    exact ⟨b, o, e, hb, fun j x hj => ⟨hw.cell (hc j x hj).c0 hsf, hw.cell (hc j x hj).c1 hsf, hw.cell (hc j x hj).c2 hsf, hw.cell (hc j x hj).c3 hsf⟩⟩
  have HOK := Lib.hid hok
  clear hok
  clear hn hA hnc hL hs ht
  obtain ⟨⟨c0, c1, c2, c3⟩, c4⟩ := HS.out W (KpO.refl _ _ _)
  refine callsIn_of_wp Try.func47 rfl trivial ?_ rfl
  simp only [Try.ntmps47, List.size_toArray, List.length_cons, List.length_nil, Nat.reduceAdd, Nat.reduceSub, Array.replicate_succ, Array.replicate_zero, List.push_toArray, List.append_toArray, List.nil_append, List.cons_append]
  gi_wp2
  gi_loopw [5, 12] (fun lv i wr => ∃ (k : Nat) (lo : Int) (pre : List Sp), k ≤ n ∧ i = .int .i64 (k : Int) ∧ lv = .int .i64 lo ∧ 0 ≤ lo ∧ lo ≤ 4294967296 ∧ Hid (pre ++ leftG st s lo (cs.drop k) = L) ∧ J pre wr ∧ KpO OB VB W wr)
    (fun _ i _ => n - (intOf i).toNat)
  case atStart => exact ⟨0, s.lo, [], Nat.zero_le _, rfl, rfl, hns.l0, by have := hns.l1; omega, Lib.hid (by rw [HL0.out]; rfl), h0, KpO.refl _ _ _⟩
  case round =>
    clear c0 c1 c2 c3 c4 hc h0
    obtain ⟨k, lo, pre, hk, rfl, rfl, hlo0, hlo1, HL, hJs, hnx⟩ := hrel
    have hszr := hnx.size
    have hokr : ∀ g, rowB OB wr = some g → g < wr.heap.size := hnx.ok HOK.out
    have HOKR := Lib.hid hokr
    clear hokr
    by_cases hlt : k < n
    · have t0 : decide (k < n) = true := decide_eq_true hlt
      have hx := List.getElem?_eq_getElem (l := cs) (i := k) (by have := HN.out; omega)
      generalize cs[k]'(by have := HN.out; omega) = c at *
      obtain ⟨b, o, rfl, hb, ⟨y0, y1, y2, y3⟩⟩ := (HAS.out _ hnx).at hx
      have hd : cs.drop k = c :: cs.drop (k + 1) := by
        rw [List.drop_eq_getElem_cons (by have := HN.out; omega)]
        have := hx
        rw [List.getElem?_eq_getElem (by have := HN.out; omega)] at this
        injection this with this
        rw [this]
      rw [hd] at HL
      have hncc : Nr c := HNC.out c (List.mem_of_getElem? hx)
      have HX := Lib.hid hx
      clear hx hd
      have hbA : KpO OB VB W (wr.alloc (.cells #[.int .i64 c.n, .int .i64 c.lo, .int .i64 c.hi, .int .i64 c.to] 24)) := hnx.trans (KpO.below (by omega) ((Below.refl _ _).alloc (Nat.le_refl _) _))
      have hJA : J pre (wr.alloc (.cells #[.int .i64 c.n, .int .i64 c.lo, .int .i64 c.hi, .int .i64 c.to] 24)) := hJ pre wr _ none hJs (World.grownBy_alloc _ _ _) (fun r e => by cases e)
      have hszA : (wr.alloc (.cells #[.int .i64 c.n, .int .i64 c.lo, .int .i64 c.hi, .int .i64 c.to] 24)).heap.size = wr.heap.size + 1 := by simp
      have hcB1 : Bs (wr.alloc (.cells #[.int .i64 c.n, .int .i64 c.lo, .int .i64 c.hi, .int .i64 c.to] 24)) wr.heap.size c := Bs.new _ _ _
      have K1 := Lib.hid (fun W => ahead_any s c W)
      unfold sv at K1
      have HAA : Hid (∀ w', Below (wr.alloc (.cells #[.int .i64 c.n, .int .i64 c.lo, .int .i64 c.hi, .int .i64 c.to] 24)).heap.size (wr.alloc (.cells #[.int .i64 c.n, .int .i64 c.lo, .int .i64 c.hi, .int .i64 c.to] 24)) w' → (((w'.cell? ⟨sB, 0, none⟩ = some (.int .i64 s.n) ∧ w'.cell? ⟨sB, 1, none⟩ = some (.int .i64 s.lo) ∧ w'.cell? ⟨sB, 2, none⟩ = some (.int .i64 s.hi) ∧ w'.cell? ⟨sB, 3, none⟩ = some (.int .i64 s.to)) ∧ w'.cell? ⟨tB, 0, none⟩ = some (.bool st)) ∧ (w'.cell? ⟨wr.heap.size, 0, none⟩ = some (.int .i64 c.n) ∧ w'.cell? ⟨wr.heap.size, 1, none⟩ = some (.int .i64 c.lo) ∧ w'.cell? ⟨wr.heap.size, 2, none⟩ = some (.int .i64 c.hi) ∧ w'.cell? ⟨wr.heap.size, 3, none⟩ = some (.int .i64 c.to))) ∧ J pre w' ∧ KpO OB VB W w') := Lib.hid fun w' hw => by
        have p := hcB1.below hw (by omega)
        have hk := hbA.trans (KpO.below (VB := VB) (by omega) hw)
        exact ⟨⟨HS.out w' hk, p.c0, by simpa using p.c1, by simpa using p.c2, by simpa using p.c3⟩, hJ pre _ w' none hJA (gb_below hw none) (fun r e => by cases e), hk⟩
      obtain ⟨⟨⟨s0, s1, s2, s3⟩, s4⟩, z0, z1, z2, z3⟩ := (HAA.out (wr.alloc (.cells #[.int .i64 c.n, .int .i64 c.lo, .int .i64 c.hi, .int .i64 c.to] 24)) (Below.refl _ _)).1
      clear hbA hJA hcB1
      by_cases hah : ahS s c
      · rw [decide_eq_true hah] at K1
        have HAH := Lib.hid hah
        clear hah
        gi_wp2_with fail
        refine ⟨trivial, ?_⟩
        refine (callsIn_wide.2 (K1.out _)).mono ?_
        rintro e w1 ⟨rfl, hb1⟩
        obtain ⟨⟨⟨⟨x0, x1, x2, x3⟩, x4⟩, _⟩, hJ1, hn1⟩ := HAA.out w1 hb1
        clear s0 s1 s2 s3 s4 z0 z1 z2 z3 y0 y1 y2 y3
        by_cases hfin : lo ≤ s.hi
        · have hG : L = pre ++ [partS st s lo s.hi] := by rw [← HL.out, leftG_stop HAH.out, if_pos hfin]
          obtain ⟨px, hpx⟩ : ∃ px, px = partS st s lo s.hi := ⟨_, rfl⟩
          rw [← hpx] at hG
          have KP : Hid (∀ W, Calls Try.prog 48 #[.agg #[.int .i64 s.n, .int .i64 s.lo, .int .i64 s.hi, .int .i64 s.to], .int .i64 lo, .int .i64 s.hi, .bool st] W fun e w' => e = .returned (sv px) ∧ Below W.heap.size W w') := Lib.hid fun W => by rw [hpx]; exact part_any st s lo s.hi W hns hlo0 hlo1
          have HG := Lib.hid hG
          clear hG hpx
          gi_wp2_with fail
          refine ⟨trivial, ?_⟩
          refine (callsIn_wide.2 (KP.out _)).mono ?_
          rintro e w2 ⟨rfl, hb2⟩
          obtain ⟨fn, tmps, assign, body, hy, hR⟩   := hY pre px w2 (HLN.out px (by rw [HG.out]; simp)) (hJ pre _ w2 none hJ1 (gb_below hb2 none) (fun r e => by cases e)) (by rw [HG.out]; simp)
          gi_wp2
          refine hR.mono ?_
          rintro e W3 (⟨rfl, hJ3, hk3⟩ | ⟨rfl, hJx3⟩)
          · gi_wp2
            go_end0
            first | exact ⟨⟨_, rfl⟩, .inl ⟨_, HG.out, hJ3⟩⟩ | (rw [HG.out]; exact ⟨⟨_, rfl⟩, .inl hJ3⟩)
          · gi_wp2
            go_end0
            exact ⟨⟨_, rfl⟩, .inr ⟨pre ++ [px], by rw [HG.out]; exact List.prefix_refl _, hJx3⟩⟩
        · have hG : L = pre := by rw [← HL.out, leftG_stop HAH.out, if_neg hfin, List.append_nil]
          have HG := Lib.hid hG
          clear hG
          gi_wp2
          go_end0
          first | exact ⟨⟨_, rfl⟩, .inl ⟨_, HG.out, hJ1⟩⟩ | (rw [HG.out]; exact ⟨⟨_, rfl⟩, .inl hJ1⟩)
      · rw [decide_eq_false hah] at K1
        by_cases hlc : lo < c.lo
        · have t1 : decide (lo < c.lo) = true := decide_eq_true hlc
          have hLL := HL.out
          rw [leftG_cut hah hlc] at hLL
          obtain ⟨px, hpx⟩ : ∃ px, px = partS st s lo (c.lo - 1) := ⟨_, rfl⟩
          rw [← hpx] at hLL
          have KP : Hid (∀ W, Calls Try.prog 48 #[.agg #[.int .i64 s.n, .int .i64 s.lo, .int .i64 s.hi, .int .i64 s.to], .int .i64 lo, .int .i64 (c.lo - 1), .bool st] W fun e w' => e = .returned (sv px) ∧ Below W.heap.size W w') := Lib.hid fun W => by rw [hpx]; exact part_any st s lo (c.lo - 1) W hns hlo0 hlo1
          have HLL := Lib.hid hLL
          have hwr : IntKind.i64.wrap (c.lo - 1) = c.lo - 1 := IntWalk.i64_in _ (by have := hncc.l0; have := hncc.l1; omega)
          have hwh : IntKind.i64.wrap (c.hi + 1) = c.hi + 1 := IntWalk.i64_in _ (by have := hncc.h0; have := hncc.h1; omega)
          obtain ⟨_, _, n0, n1, _, _⟩ := hncc
          clear hah hlc hLL hpx
          gi_wp2_with fail
          refine ⟨trivial, ?_⟩
          refine (callsIn_wide.2 (K1.out _)).mono ?_
          rintro e w1 ⟨rfl, hb1⟩
          obtain ⟨⟨⟨⟨x0, x1, x2, x3⟩, x4⟩, v0, v1, v2, v3⟩, hJ1, hn1⟩ := HAA.out w1 hb1
          clear s0 s1 s2 s3 s4 z0 z1 z2 z3 y0 y1 y2 y3
          gi_wp2_with fail
          refine ⟨trivial, ?_⟩
          refine (callsIn_wide.2 (KP.out _)).mono ?_
          rintro e w2 ⟨rfl, hb2⟩
          obtain ⟨_, hJ2, hn2⟩ := HAA.out w2 (hb1.trans (hb2.mono hb1.size))
          have hw2 := Nat.le_trans hb1.size hb2.size
          obtain ⟨fn, tmps, assign, body, hy, hR⟩   := hY pre px w2 (HLN.out px (by rw [← HLL.out]; simp)) hJ2 (by rw [← HLL.out]; simp)
          clear x0 x1 x2 x3 x4 v0 v1 v2 v3
          gi_wp2
          refine hR.mono ?_
          rintro e W3 (⟨rfl, hJ3, hk3⟩ | ⟨rfl, hJx3⟩)
          · obtain ⟨⟨_, v0, v1, v2, v3⟩, _, hn2⟩ := HAA.out w2 (hb1.trans (hb2.mono hb1.size))
            have hsafe : Safe OB VB w2 wr.heap.size := ⟨by omega, by omega, fun e => by
              have hbw := hb1.trans (hb2.mono hb1.size)
              rw [rowB_same (hbw.block OB (by omega)), rowB_same (((Below.refl _ wr).alloc (Nat.le_refl _) _).block OB (by omega))] at e
              exact absurd (HOKR.out _ e) (Nat.lt_irrefl _)⟩
            have g2 := hk3.cell (p := ⟨wr.heap.size, 2, none⟩) v2 hsafe
            clear v0 v1 v2 v3
            gi_wp2
            go_roundw
            case rel => exact ⟨k + 1, c.hi + 1, pre ++ [px], by omega, by go_num, rfl, by omega, by omega, Lib.hid (by rw [List.append_assoc]; exact HLL.out), hJ3, hn2.trans hk3⟩
            case measure => simp [intOf]; omega
          · gi_wp2
            refine bodyPost_ret (results_none rfl _ _ _) rfl ?_
            exact ⟨⟨_, rfl⟩, .inr ⟨pre ++ [px], ⟨leftG st s (c.hi + 1) (cs.drop (k + 1)), by rw [List.append_assoc]; exact HLL.out⟩, hJx3⟩⟩
        · have t1 : decide (lo < c.lo) = false := decide_eq_false hlc
          have hLL := HL.out
          rw [leftG_skip hah hlc] at hLL
          have HLL := Lib.hid hLL
          have hwh : IntKind.i64.wrap (c.hi + 1) = c.hi + 1 := IntWalk.i64_in _ (by have := hncc.h0; have := hncc.h1; omega)
          obtain ⟨_, _, n0, n1, _, _⟩ := hncc
          clear hah hlc hLL
          gi_wp2_with fail
          refine ⟨trivial, ?_⟩
          refine (callsIn_wide.2 (K1.out _)).mono ?_
          rintro e w1 ⟨rfl, hb1⟩
          obtain ⟨⟨⟨⟨x0, x1, x2, x3⟩, x4⟩, v0, v1, v2, v3⟩, hJ1, hn1⟩ := HAA.out w1 hb1
          clear s0 s1 s2 s3 s4 z0 z1 z2 z3 y0 y1 y2 y3
          gi_wp2
          refine ⟨trivial, ?_⟩
          gi_wp2
          refine ⟨fun _ h => (by cases h), ?_⟩
          gi_wp2
          go_roundw
          case rel => exact ⟨k + 1, c.hi + 1, pre, by omega, by go_num, rfl, by omega, by omega, HLL, hJ1, hn1⟩
          case measure => simp [intOf]; omega
    · have t0 : decide (k < n) = false := decide_eq_false hlt
      obtain rfl : k = n := by omega
      obtain ⟨⟨x0, x1, x2, x3⟩, x4⟩ := HS.out wr hnx
      by_cases hfin : lo ≤ s.hi
      · have hG : L = pre ++ [partS st s lo s.hi] := by rw [← HL.out, show leftG st s lo (cs.drop k) = (if lo ≤ s.hi then [partS st s lo s.hi] else []) by rw [List.drop_eq_nil_of_le (by rw [← HN.out]; exact Nat.le_refl _), leftG], if_pos hfin]
        obtain ⟨px, hpx⟩ : ∃ px, px = partS st s lo s.hi := ⟨_, rfl⟩
        rw [← hpx] at hG
        have KP : Hid (∀ W, Calls Try.prog 48 #[.agg #[.int .i64 s.n, .int .i64 s.lo, .int .i64 s.hi, .int .i64 s.to], .int .i64 lo, .int .i64 s.hi, .bool st] W fun e w' => e = .returned (sv px) ∧ Below W.heap.size W w') := Lib.hid fun W => by rw [hpx]; exact part_any st s lo s.hi W hns hlo0 hlo1
        have HG := Lib.hid hG
        clear hG hpx
        gi_wp2_with fail
        refine ⟨trivial, ?_⟩
        refine (callsIn_wide.2 (KP.out _)).mono ?_
        rintro e w2 ⟨rfl, hb2⟩
        obtain ⟨fn, tmps, assign, body, hy, hR⟩   := hY pre px w2 (HLN.out px (by rw [HG.out]; simp)) (hJ pre _ w2 none hJs (gb_below hb2 none) (fun r e => by cases e)) (by rw [HG.out]; simp)
        gi_wp2
        refine hR.mono ?_
        rintro e W3 (⟨rfl, hJ3, hk3⟩ | ⟨rfl, hJx3⟩)
        · gi_wp2
          go_end0
          first | exact ⟨⟨_, rfl⟩, .inl ⟨_, HG.out, hJ3⟩⟩ | (rw [HG.out]; exact ⟨⟨_, rfl⟩, .inl hJ3⟩)
        · gi_wp2
          go_end0
          exact ⟨⟨_, rfl⟩, .inr ⟨pre ++ [px], by rw [HG.out]; exact List.prefix_refl _, hJx3⟩⟩
      · have hG : L = pre := by rw [← HL.out, show leftG st s lo (cs.drop k) = (if lo ≤ s.hi then [partS st s lo s.hi] else []) by rw [List.drop_eq_nil_of_le (by rw [← HN.out]; exact Nat.le_refl _), leftG], if_neg hfin, List.append_nil]
        have HG := Lib.hid hG
        clear hG
        gi_wp2
        go_end0
        first | exact ⟨⟨_, rfl⟩, .inl ⟨_, HG.out, hJs⟩⟩ | (rw [HG.out]; exact ⟨⟨_, rfl⟩, .inl hJs⟩)
set_option maxHeartbeats 1000000 in
theorem left_in (m : Nat) (s : Sp) (a : Option Addr) (len cap : Nat) (st : Bool) (w : World) :
    CallsIn Fence.wide m Try.prog 45 #[sv s, .slice a len cap, .bool st] w fun e w' => e = .returned (.func (.func 47) #[] #[.pointer (some ⟨w.heap.size, 0, none⟩), .pointer (some ⟨w.heap.size + 1, 0, none⟩), .pointer (some ⟨w.heap.size + 1 + 1, 0, none⟩)]) ∧ w' = ((w.alloc (.cells #[.int .i64 s.n, .int .i64 s.lo, .int .i64 s.hi, .int .i64 s.to] 24)).alloc (.cells #[.slice a len cap] 22)).alloc (.cells #[.bool st] 4) := by
  unfold sv
  refine callsIn_of_wp Try.func45 rfl trivial ?_ rfl
  simp only [Try.ntmps45, List.size_toArray, List.length_cons, List.length_nil, Nat.reduceAdd, Nat.reduceSub, Array.replicate_succ, Array.replicate_zero, List.push_toArray, List.append_toArray, List.nil_append, List.cons_append]
  gi_wp2
  go_ret
  exact ⟨rfl, rfl⟩
/-- Parts, small. -/
abbrev Pt := { x : Sp // Nr x }
theorem left_stops (m : Nat) (hm : 1 ≤ m) (st : Bool) (sB cB tB n₀ : Nat) (A : Option Addr) (cap : Nat) (cs : List Sp) (s : Sp) (hl : cs.length ≤ 1048576) (hns : Nr s) (hnc : ∀ c ∈ cs, Nr c) (hLn : ∀ p ∈ leftG st s s.lo cs, Nr p) (OB VB : Nat) (w : World) (hs : Bs w sB s) (hc : w.cell? ⟨cB, 0, none⟩ = some (.slice A cs.length cap)) (ht : w.cell? ⟨tB, 0, none⟩ = some (.bool st)) (hA : Ss w n₀ A cs) (hn₀ : n₀ ≤ w.heap.size) (hO : OB < w.heap.size) (hV : VB < w.heap.size) (hok : ∀ g, rowB OB w = some g → g < w.heap.size) (hsB : Safe OB VB w sB) (hsl : sB < w.heap.size) (hcl : cB < w.heap.size) (htB : Safe OB VB w tB) (htl : tB < w.heap.size) (hSf : ∀ b, b < n₀ → Safe OB VB w b) :
    SeqStopsK Fence.wide m Try.prog 47 #[.pointer (some ⟨sB, 0, none⟩), .pointer (some ⟨cB, 0, none⟩), .pointer (some ⟨tB, 0, none⟩)] (fun x : Pt => #[sv x.1]) (KpO OB VB) (fun ys => leftG st s s.lo cs = ys.map (·.1)) (fun _ => True) (leftG st s s.lo cs).length w := fun q J Jx W hW hJ _ hY h0 => by
  have hk : KpO OB VB w W := KpO.below hO hW
  refine (left1_in m hm st q sB cB tB n₀ A cap cs s hl hns hnc OB VB W.heap.size (fun pre W => ∃ p' : List Pt, p'.map (·.1) = pre ∧ J p' W) (fun pre W => ∃ p' : List Pt, p'.map (·.1) = pre ∧ Jx p' W) (fun pre X Y r ⟨p', e, h⟩ hg hr => ⟨p', e, hJ p' X Y r h hg hr⟩) hLn (fun pre x W hx ⟨p', e, h⟩ hlen => ?_) W (hk.bs hs hsB) ((hW.cell (p := ⟨cB, 0, none⟩) hcl).trans hc) ((hW.cell (p := ⟨tB, 0, none⟩) htl).trans ht) (hA.below (hW.mono hn₀)) (Nat.lt_of_lt_of_le hO hW.size) (Nat.lt_of_lt_of_le hV hW.size) (hk.ok hok) (hk.safe hsl hsB) (hk.safe htl htB) (fun b hb => hk.safe (by omega) (hSf b hb)) ⟨[], rfl, h0⟩).mono ?_
  · have hY1 := hY p' ⟨x, hx⟩ W h (by rw [← e, List.length_map] at hlen; exact hlen)
    refine hY1.mono fun e' W' h' => ?_
    rcases h' with ⟨h1, h2, h3⟩ | ⟨h1, h2⟩
    · exact .inl ⟨h1, ⟨p' ++ [⟨x, hx⟩], by rw [List.map_append, e]; rfl, h2⟩, h3⟩
    · exact .inr ⟨h1, ⟨p' ++ [⟨x, hx⟩], by rw [List.map_append, e]; rfl, h2⟩⟩
  · rintro e' W' ⟨h1, ⟨ys, h2, p', h3, h4⟩ | ⟨pre, _, p', _, h4⟩⟩
    · exact ⟨h1, .inl ⟨p', h2.trans h3.symm, h4⟩⟩
    · exact ⟨h1, .inr ⟨p', trivial, h4⟩⟩
end Go.Proofs.Ytdlkgcbiekilhaa
