/-
  The program's own Build.
-/
import Derived.Test.YtmjneokjgcgchaaGreatSpanBld
namespace Go.Proofs.YtmjneokjgcgchaaGreat
open Go.RowKit
attribute [local go_sem ↓] Go.wp_at_zero Go.wp_at_succ

theorem lastS_filter (st : Bool) (l : List Sp) (n v : Int) : lastS st (l.filter fun s => decide (Sn st s)) n v = lastS st l n v := by
  induction l with
  | nil => rfl
  | cons s l ih =>
    rw [List.filter_cons]
    split
    · rw [lastS, lastS, ih]
    · rename_i h
      have h2 : ¬ Sn st s := by simpa using h
      have e : toS st s n v = none := by
        unfold toS
        rw [if_neg (fun k => h2 k.1)]
      rw [lastS, ih, e, Option.or_none]
set_option maxRecDepth 100000 in
set_option maxHeartbeats 4000000 in
theorem Build_any (st : Bool) (l : List Sp) (hl : l.length ≤ 4000) (A : Option Addr) (c : Nat) (w : World) (hA : Ss w w.heap.size A l) :
    Calls Tryz.prog 76 #[.slice A l.length c, .bool st] w (Bld w st l) := by
  obtain ⟨i0, hi, hz0, hz1, hz2⟩ := info_parts infoS
  have HA := Lib.hid hA
  obtain ⟨n, hn⟩ : ∃ n, n = l.length := ⟨_, rfl⟩
  have HN := Lib.hid hn
  rw [← hn] at hl ⊢
  clear hA hn
  have hmk : ∀ W : World, (Instr.makeSlice 24 (.int .i64 0) (.int .i64 (n : Int))).run Tryz.prog W = .ok (.slice (some ⟨W.heap.size, 0, none⟩) 0 n) (W.alloc (.cells (madeCells (Value.agg #[.int .i64 0, .int .i64 0, .int .i64 0, .int .i64 0]).cells (n * 4)) 87)) := fun W => by
    have h := run_make (P := Tryz.prog) W 24 87 i0 (.agg #[.int .i64 0, .int .i64 0, .int .i64 0, .int .i64 0]) Tryz.underlying24 hi hz0 .i64 .i64 0 (n : Int) (Int.le_refl _) (by omega) (by rw [hz2]; omega) (by omega)
    rw [hz1, Int.toNat_natCast] at h
    exact h
  go_enter Tryz.func76, Tryz.ntmps76
  go_wp2
  have hr := World.ownsRow_made (base := w.heap.size) (e := 87) (size := 4) w (madeCells #[.int .i64 0, .int .i64 0, .int .i64 0, .int .i64 0] (n * 4)) n (Nat.le_refl _) (by unfold maxLen; omega) (size_madeCells _ _)
  have hb0 : Below w.heap.size w (w.alloc (.cells (madeCells #[.int .i64 0, .int .i64 0, .int .i64 0, .int .i64 0] (n * 4)) 87)) := (Below.refl _ _).alloc (Nat.le_refl _) _
  clear hmk
  generalize w.alloc (.cells (madeCells #[.int .i64 0, .int .i64 0, .int .i64 0, .int .i64 0] (n * 4)) 87) = W0 at *
  go_loopw [5, 13] (fun v i wr => ∃ (k : Nat) (out : List Sp), k ≤ n ∧ out.length ≤ k ∧ i = .int .i64 (k : Int) ∧ Hid (out = (l.take k).filter (fun s => decide (Sn st s))) ∧ wr.ownsRow w.heap.size 87 4 v out.length (svs out) ∧ Below w.heap.size w wr) (fun _ i _ => n - (intOf i).toNat)
  case atStart => exact ⟨0, [], Nat.zero_le _, Nat.le_refl _, rfl, Lib.hid (by simp), hr, hb0⟩
  case round =>
    clear hr hb0
    obtain ⟨k, out, hk, hout, rfl, HE, hown, hbel⟩ := hrel
    have hsz := hbel.size
    by_cases hlt : k < n
    · have t0 : decide (k < n) = true := decide_eq_true hlt
      have hx := List.getElem?_eq_getElem (l := l) (i := k) (by have := HN.out; omega)
      generalize l[k]'(by have := HN.out; omega) = x at *
      obtain ⟨b, o, rfl, hb, ⟨y0, y1, y2, y3⟩⟩ := (HA.out.below hbel).at hx
      have etk : l.take (k + 1) = l.take k ++ [x] := by rw [List.take_add_one, hx]; rfl
      have HTK := Lib.hid etk
      have K1 := Lib.hid (fun W => SSane_any st x W)
      unfold sv at K1
      have hbA : Below w.heap.size w (wr.alloc (.cells #[.int .i64 x.n, .int .i64 x.lo, .int .i64 x.hi, .int .i64 x.to] 87)) := hbel.alloc hsz _
      have hownA := hown.alloc (.cells #[.int .i64 x.n, .int .i64 x.lo, .int .i64 x.hi, .int .i64 x.to] 87)
      have hbx := Bs.new wr x 87
      have hszA : (wr.alloc (.cells #[.int .i64 x.n, .int .i64 x.lo, .int .i64 x.hi, .int .i64 x.to] 87)).heap.size = wr.heap.size + 1 := by simp
      clear hx etk hown hbel
      cases hs : decide (Sn st x) with
      | true =>
        rw [hs] at K1
        have HS := Lib.hid hs
        clear hs
        go_wp2_with fail
        refine (K1.out _).mono ?_
        rintro e w2 ⟨rfl, hb2⟩
        have hown2 := own_belowS hownA hb2 (Nat.le_refl _)
        obtain ⟨c0, c1, c2, c3⟩ := hbx.below hb2 (by omega)
        simp only [Nat.zero_add] at c1 c2 c3
        have hbk := hbA.trans (hb2.mono (by omega))
        have hs2 := hbk.size
        clear hb2 hownA hbx hbA hszA y0 y1 y2 y3
        go_wp2_with (at_builtin; refine wpList_append_lies _ rfl _ _ _ rfl w.heap.size 87 i0 (.agg #[.int .i64 0, .int .i64 0, .int .i64 0, .int .i64 0]) 4 32 Tryz.underlying24 hi hz0 hz1 hz2 rfl (by omega) _ _ _ rfl (hown2.alloc _) ⟨w2.heap.size, 0, none⟩ 1 1 (sq x) rfl rfl (World.news_of_block (heap_alloc_new w2 _)) (by intro u hu; exact svs_one [x] u (by simpa [svs] using hu)) (by omega) (by unfold maxLen; omega) (by omega) (by simp; omega) _ rfl ?_; intro g cap w3 hown3 hgrow hat hgl)
        have hg : ∀ j, (u5).ownBlock = some j → w.heap.size ≤ j := fun j e => (own_lt hown2 e).1
        refine ⟨⟨k + 1, out ++ [x], by omega, by simp; omega, by first | rfl | go_num, Lib.hid ?_, own_sc hown3 (by simp), (hbk.alloc hs2 _).grown hgrow (by simp; omega) hg⟩, by simp [intOf]; omega⟩
        rw [HTK.out, List.filter_append, ← HE.out, List.filter_cons, HS.out]
        rfl
      | false =>
        rw [hs] at K1
        have HS := Lib.hid hs
        clear hs
        go_wp2_with fail
        refine (K1.out _).mono ?_
        rintro e w2 ⟨rfl, hb2⟩
        have hown2 := own_belowS hownA hb2 (Nat.le_refl _)
        have hbk := hbA.trans (hb2.mono (by omega))
        clear hb2 hownA hbx hbA hszA y0 y1 y2 y3
        go_wp2
        refine ⟨⟨k + 1, out, by omega, by omega, by first | rfl | go_num, Lib.hid ?_, hown2, hbk⟩, by simp [intOf]; omega⟩
        rw [HTK.out, List.filter_append, ← HE.out, List.filter_cons, HS.out]
        simp
    · have t0 : decide (k < n) = false := decide_eq_false hlt
      obtain rfl : k = n := by omega
      have eo : out = l.filter (fun s => decide (Sn st s)) := by rw [HE.out, List.take_of_length_le (by rw [← HN.out]; exact Nat.le_refl _)]
      have hos : ∀ s ∈ out, Sn st s := fun s hs => by
        rw [eo, List.mem_filter] at hs
        simpa using hs.2
      obtain ⟨A2, c2, ev, h2, h3, h4, _⟩ := own_ret hown hbel
      injection ev with ev
      subst ev
      have K1 := Lib.hid (build_any st out.length out rfl hos (by omega) A2 c2 wr h4 h2 h3)
      have HEO := Lib.hid eo
      clear eo hos h2 h3 h4 hown
      go_wp2_with fail
      refine K1.out.mono ?_
      rintro e w2 ⟨m, p1, p2, A3, c3, rfl, p3, p4, p5, p6⟩
      go_wp2
      go_ret
      exact ⟨m, p1, fun x y => by rw [p2, HEO.out, lastS_filter], A3, c3, rfl, p3, p4, p5, hbel.trans (p6.mono hsz)⟩
end Go.Proofs.YtmjneokjgcgchaaGreat
