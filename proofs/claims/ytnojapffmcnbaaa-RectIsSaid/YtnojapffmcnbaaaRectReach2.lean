/-
  The walk of the program's own reach.
-/
import Derived.Test.YtnojapffmcnbaaaRectReach
import Derived.Deep.RegionHeld
import Derived.Deep.DrawnRows
namespace Go.Proofs.Ytnojapffmcnbaaa
open Go.RowKit Go.Sort
attribute [local go_sem ↓] Go.wp_at_zero Go.wp_at_succ

@[local go_sem] theorem run_store_cx (P : Program) (w : World) (a : Addr) (m : Mode) (k : FloatKind) (x y : Nat) : (store a (.complex k x y) m).run P w = stored P w a (.complex k x y) m := run_store P w a _ m rfl
set_option maxRecDepth 100000 in
set_option maxHeartbeats 4000000 in
theorem reach_any (A : Option Addr) (c : Nat) (l : List Rc) (w : World) (hA : Sr w w.heap.size A l) (hl : l.length ≤ 1000) (hs : ∀ x ∈ l, Sml x) :
    Calls Try.prog 37 #[.slice A l.length c] w (RetQ w l) := by
  obtain ⟨i0, hi, hz0, hz1, hz2⟩ := info_parts infoZ
  have HA := Lib.hid hA
  have HS := Lib.hid hs
  clear hA hs
  obtain ⟨n, hn⟩ : ∃ n, n = l.length := ⟨_, rfl⟩
  rw [← hn] at hl ⊢
  have HN := Lib.hid hn
  clear hn
  have hmk : (Instr.makeSlice 53 (.int .i64 (n : Int)) (.int .i64 (n : Int))).run Try.prog w = .ok (.slice (some ⟨w.heap.size, 0, none⟩) n n) (w.alloc (.cells (madeCells (Value.complex .f64 0 0).cells n) 62)) := by
    have h := run_make (P := Try.prog) w 53 62 i0 (.complex .f64 0 0) Try.underlying53 hi hz0 .i64 .i64 (n : Int) (n : Int) (by omega) (Int.le_refl _) (by rw [hz2]; omega) (by omega)
    rw [hz1] at h
    simpa using h
  have hq : Qr (w.alloc (.cells (madeCells (Value.complex .f64 0 0).cells n) 62)) w.heap.size n [] := by
    have hsz : (madeCells (Value.complex .f64 0 0).cells n).size = n := size_madeCells _ _
    refine ⟨fun j hj => ?_, fun j hj => by simp, fun j p hp => by simp at hp⟩
    have := World.news_of_block (heap_alloc_new w (.cells (madeCells (Value.complex .f64 0 0).cells n) 62)) j (madeCells (Value.complex .f64 0 0).cells n)[j] (by simp [hsz, hj])
    rw [addr_add, Nat.zero_add] at this
    rw [this]
    rfl
  have hb1 : Below w.heap.size w (w.alloc (.cells (madeCells (Value.complex .f64 0 0).cells n) 62)) := (Below.refl _ _).alloc (Nat.le_refl _) _
  have hz1' : w.heap.size < (w.alloc (.cells (madeCells (Value.complex .f64 0 0).cells n) 62)).heap.size := by simp
  generalize w.alloc (.cells (madeCells (Value.complex .f64 0 0).cells n) 62) = w1 at *
  obtain ⟨g, hg⟩ : ∃ g, g = w.heap.size := ⟨_, rfl⟩
  rw [← hg] at hmk hq hz1'
  have HG := Lib.hid hg
  have HQ := Lib.hid hq
  clear hq hg hi hz0 hz1 hz2
  go_enter Try.func37, Try.ntmps37
  go_wp2
  go_loopw [11] (fun i wr => ∃ (k : Nat) (F : List (Int × Int)), k ≤ n ∧ F.length = k ∧ i = .int .i64 (k : Int) ∧ Hid (Rch F (l.take k)) ∧ Hid (Qr wr g n F) ∧ Below w.heap.size w wr ∧ g < wr.heap.size) (fun i _ => n - (intOf i).toNat)
  case atStart => exact ⟨0, [], Nat.zero_le _, rfl, rfl, Lib.hid (fun i p hp => by simp at hp), HQ, hb1, hz1'⟩
  case round =>
    clear hmk hb1 hz1'
    obtain ⟨k, F, hk, hF, rfl, HR, HW, hbel, hgz⟩ := hrel
    have hsz := hbel.size
    by_cases hlt : k < n
    · have t0 : decide (k < n) = true := decide_eq_true hlt
      have hx := List.getElem?_eq_getElem (l := l) (i := k) (by have := HN.out; omega)
      generalize l[k]'(by have := HN.out; omega) = x at *
      obtain ⟨b, o, rfl, hb, ⟨y0, y1, y2⟩⟩ := (HA.out.below hbel).at hx
      have ht : l.take (k + 1) = l.take k ++ [x] := by rw [List.take_add_one, hx]; rfl
      have hxs := HS.out x (List.mem_of_getElem? hx)
      have K1 := Lib.hid (highest_any x.n x.lo x.hi)
      have HX := Lib.hid ht
      have HXS := Lib.hid hxs
      have hlk : (l.take k).length = k := by rw [List.length_take]; have := HN.out; omega
      have HLK := Lib.hid hlk
      clear hx ht hxs hlk
      go_wp2_with fail
      refine (K1.out _).mono ?_
      rintro e w2 ⟨rfl, hgw⟩
      have hb2 : Below wr.heap.size wr w2 := ((Below.refl _ _).alloc (Nat.le_refl _) _).trans ((Gw.below hgw).mono (by simp))
      have q2 := HW.out.below hb2 hgz
      have hbel2 := hbel.trans (hb2.mono hsz)
      have hgz2 : g < w2.heap.size := Nat.lt_of_lt_of_le hgz hb2.size
      obtain ⟨u, hu⟩ := Option.isSome_iff_exists.1 (q2.sm k hlt)
      have hf := q2.fz k hlt
      have q3 : Qr (w2.setCell ⟨g, k, none⟩ (.complex .f64 (flN x.n) (flN x.hi))) g n (F ++ [(x.n, x.hi)]) := by
        have := q2.set (by omega) (x.n, x.hi)
        rwa [hF] at this
      have hbel3 : Below w.heap.size w (w2.setCell ⟨g, k, none⟩ (.complex .f64 (flN x.n) (flN x.hi))) := hbel2.setCell (by rw [← HG.out]; exact Nat.le_refl _) _
      have hgz3 : g < (w2.setCell ⟨g, k, none⟩ (.complex .f64 (flN x.n) (flN x.hi))).heap.size := by simpa using hgz2
      clear hgw y0 y1 y2 hb2
      go_wp2_with fail
      clear hu hf q2
      generalize w2.setCell ⟨g, k, none⟩ (.complex .f64 (flN x.n) (flN x.hi)) = w3 at *
      have HQ3 := Lib.hid q3
      clear q3
      cases k with
      | zero =>
        have tk : decide ((0 : Int) < ((0 : Nat) : Int)) = false := rfl
        go_quiet (fail)
        go_wp2
        refine ⟨⟨1, F ++ [(x.n, x.hi)], by omega, by simp [hF], by go_num, Lib.hid ?_, Lib.hid (HQ3.out.below (below_drewN (Below.refl w3.heap.size _) _) hgz3), below_drewN hbel3 _, hgz3⟩, by simp [intOf]; omega⟩
        rw [HX.out]
        exact HR.out.step (p := (0, 0)) (by rw [hF, HLK.out]) (fun h => absurd hF h) (by rw [if_neg (fun h => h.1 hF)])
      | succ m =>
        have tk : decide ((0 : Int) < ((m + 1 : Nat) : Int)) = true := decide_eq_true (by omega)
        have em : ((m + 1 : Nat) : Int) - 1 = (m : Int) := by omega
        obtain ⟨p, hp⟩ : ∃ p, F[m]? = some p := ⟨_, List.getElem?_eq_getElem (by omega)⟩
        have hps := Rch.small HR.out (fun y hy => HS.out y (List.mem_of_mem_take hy)) hp
        have v0 : w3.cell? ⟨g, m + 1, none⟩ = some (.complex .f64 (flN x.n) (flN x.hi)) := HQ3.out.val (m + 1) (x.n, x.hi) (by rw [List.getElem?_append_right (by omega), hF, Nat.sub_self]; rfl)
        have v1 : w3.cell? ⟨g, m, none⟩ = some (.complex .f64 (flN p.1) (flN p.2)) := HQ3.out.val m p (by rw [List.getElem?_append_left (by omega)]; exact hp)
        have f1 := fun W => first_any x.n x.hi p.1 p.2 W HXS.out.n0 HXS.out.n1 HXS.out.h0 HXS.out.h1 hps.1.1 hps.1.2 hps.2.1 hps.2.2
        have HP := Lib.hid hp
        clear hps hp
        cases ta : ahB x.n x.hi p.1 p.2 with
        | false =>
          rw [ta] at f1
          have F1 := Lib.hid f1
          have TA := Lib.hid ta
          clear f1 ta
          go_quiet ((go_at_call 47; exact Calls.quiet_of_same (F1.out _)))
          go_wp2
          refine ⟨⟨m + 2, F ++ [(x.n, x.hi)], by omega, by simp [hF], by go_num, Lib.hid ?_, Lib.hid (HQ3.out.below (below_drewN (Below.refl w3.heap.size _) _) hgz3), below_drewN hbel3 _, hgz3⟩, by simp [intOf]; omega⟩
          rw [HX.out]
          exact HR.out.step (p := p) (by rw [hF, HLK.out]) (fun h => by rw [hF]; exact HP.out) (by rw [if_neg (fun h => by have := h.2; rw [TA.out] at this; cases this)])
        | true =>
          rw [ta] at f1
          have F1 := Lib.hid f1
          have TA := Lib.hid ta
          have hf := HQ3.out.fz (m + 1) hlt
          clear f1 ta
          go_quiet ((go_at_call 47; exact Calls.quiet_of_same (F1.out _)))
          go_wp2
          have q4 := (HQ3.out.below (below_drewN (Below.refl w3.heap.size w3) nq) hgz3).reset (by omega) p
          rw [hF] at q4
          refine ⟨⟨m + 2, F ++ [p], by omega, by simp [hF], by go_num, Lib.hid ?_, Lib.hid q4, (below_drewN hbel3 _).setCell (by rw [← HG.out]; exact Nat.le_refl _) _, by simpa using hgz3⟩, by simp [intOf]; omega⟩
          rw [HX.out]
          exact HR.out.step (p := p) (by rw [hF, HLK.out]) (fun h => by rw [hF]; exact HP.out) (by rw [if_pos ⟨by omega, TA.out⟩])
    · have t0 : decide (k < n) = false := decide_eq_false hlt
      have ek : F.length = n := by omega
      go_wp2
      go_ret
      refine ⟨F, some ⟨g, 0, none⟩, n, by rw [ek]; rfl, by rw [ek]; exact HN.out, ?_, fun _ => ⟨g, 0, rfl, hgz, fun j p hp => by rw [Nat.zero_add]; exact HW.out.val j p hp⟩, hbel⟩
      have := HR.out
      rwa [List.take_of_length_le (by have := HN.out; omega)] at this
end Go.Proofs.Ytnojapffmcnbaaa
