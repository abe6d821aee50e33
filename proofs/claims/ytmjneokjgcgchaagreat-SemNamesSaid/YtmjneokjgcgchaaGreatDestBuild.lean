/-
  The program's own Build.
-/
import Derived.Test.YtmjneokjgcgchaaGreatDestBld
namespace Go.Proofs.YtmjneokjgcgchaaGreat
open Go.RowKit
attribute [local go_sem ↓] Go.wp_at_zero Go.wp_at_succ

theorem lastB_filter (l : List Bp) (n v : Int) : lastB (l.filter fun s => decide (Sb s)) n v = lastB l n v := by
  induction l with
  | nil => rfl
  | cons s l ih =>
    rw [List.filter_cons]
    split
    · rw [lastB, lastB, ih]
    · rename_i h
      have h2 : ¬ Sb s := by simpa using h
      have e : toB s n v = none := by
        unfold toB
        rw [if_neg (fun k => h2 k.1)]
      rw [lastB, ih, e, Option.or_none]
/-- A table in memory that tells what some tell. -/
def BuiltB (w : World) (l : List Bp) (e : Ending) (w' : World) : Prop :=
  ∃ m A c, e = .returned (.slice A m.length c) ∧ m.length ≤ c ∧ (A = none → c = 0) ∧ Sd w' A m ∧ Utl w' m ∧ Ct (pl m) ∧ (∀ n v, lastB (pl m) n v = lastB l n v) ∧ Below w.heap.size w w'
theorem ret_e {w w' : World} {b : Bp} {e : Ending} (h : RetE w b e w') : ∃ a c, e = .returned (.agg #[.int .i64 b.n, .int .i64 b.lo, .int .i64 b.hi, .slice a b.u.length c]) ∧ Ut w' a c b.u ∧ Below w.heap.size w w' := h
set_option maxRecDepth 100000 in
set_option maxHeartbeats 1000000 in
theorem build_nil (A : Option Addr) (c : Nat) (w : World) :
    Calls Tryz.prog 115 #[.slice A 0 c] w fun e w' => e = .returned (.slice A 0 c) ∧ Below w.heap.size w w' := by
  have K1 := Lib.hid (dRun_any A c [] w Sd.nil (by simp))
  rw [List.length_nil] at K1
  go_enter Tryz.func115, Tryz.ntmps115
  go_wp2_with fail
  refine K1.out.mono ?_
  rintro e w1 ⟨⟨k, hk, rfl⟩, hb1⟩
  have hk0 : k = 0 := by have := hk.1; simpa [pl] using this
  subst hk0
  clear hk
  go_wp2
  go_ret
  exact ⟨rfl, hb1⟩
theorem own_fd {w : World} {base : Nat} {e : TypeId} {v : Value} {n : Nat} {out : List Me} {x : Me} (h : w.ownsRow base e 4 v n (dvs out ++ fq x)) (hn : n = out.length + 1) : w.ownsRow base e 4 v (out ++ [x]).length (dvs (out ++ [x])) := by
  subst hn
  rw [dvs_append, List.length_append]
  simpa [dvs] using h
set_option maxRecDepth 100000 in
set_option maxHeartbeats 4000000 in
theorem DBuild_any (l : List Me) (hl : l.length ≤ 200000) (A : Option Addr) (c : Nat) (w : World) (hA : Sd w A l) :
    Calls Tryz.prog 82 #[.slice A l.length c] w (BuiltB w (pl l)) := by
  obtain ⟨i0, hi, hz0, hz1, hz2⟩ := info_parts infoB
  have HA := Lib.hid hA
  obtain ⟨n, hn⟩ : ∃ n, n = l.length := ⟨_, rfl⟩
  have HN := Lib.hid hn
  rw [← hn] at hl ⊢
  clear hA hn
  have hmk : ∀ W : World, (Instr.makeSlice 25 (.int .i64 0) (.int .i64 (n : Int))).run Tryz.prog W = .ok (.slice (some ⟨W.heap.size, 0, none⟩) 0 n) (W.alloc (.cells (madeCells (Value.agg #[.int .i64 0, .int .i64 0, .int .i64 0, .slice none 0 0]).cells (n * 4)) 73)) := fun W => by
    have h := run_make (P := Tryz.prog) W 25 73 i0 (.agg #[.int .i64 0, .int .i64 0, .int .i64 0, .slice none 0 0]) Tryz.underlying25 hi hz0 .i64 .i64 0 (n : Int) (Int.le_refl _) (by omega) (by rw [hz2]; omega) (by omega)
    rw [hz1, Int.toNat_natCast] at h
    exact h
  go_enter Tryz.func82, Tryz.ntmps82
  go_wp2
  have hr := World.ownsRow_made (base := w.heap.size) (e := 73) (size := 4) w (madeCells #[.int .i64 0, .int .i64 0, .int .i64 0, .slice none 0 0] (n * 4)) n (Nat.le_refl _) (by unfold maxLen; omega) (size_madeCells _ _)
  have hb0 : Below w.heap.size w (w.alloc (.cells (madeCells #[.int .i64 0, .int .i64 0, .int .i64 0, .slice none 0 0] (n * 4)) 73)) := (Below.refl _ _).alloc (Nat.le_refl _) _
  clear hmk
  generalize w.alloc (.cells (madeCells #[.int .i64 0, .int .i64 0, .int .i64 0, .slice none 0 0] (n * 4)) 73) = W0 at *
  go_loopw [3, 11] (fun v i wr => ∃ (k : Nat) (out : List Me), k ≤ n ∧ out.length ≤ k ∧ i = .int .i64 (k : Int) ∧ Hid (pl out = (pl (l.take k)).filter (fun s => decide (Sb s))) ∧ Hid (Utl wr out) ∧ wr.ownsRow w.heap.size 73 4 v out.length (dvs out) ∧ Below w.heap.size w wr) (fun _ i _ => n - (intOf i).toNat)
  case atStart => exact ⟨0, [], Nat.zero_le _, Nat.le_refl _, rfl, Lib.hid (by simp [pl]), Lib.hid (fun _ h => by cases h), hr, hb0⟩
  case round =>
    clear hr hb0
    obtain ⟨k, out, hk, hout, rfl, HE, HU, hown, hbel⟩ := hrel
    have hsz := hbel.size
    by_cases hlt : k < n
    · have t0 : decide (k < n) = true := decide_eq_true hlt
      have hx := List.getElem?_eq_getElem (l := l) (i := k) (by have := HN.out; omega)
      generalize l[k]'(by have := HN.out; omega) = x at *
      have hux := HA.out.ul x (List.mem_of_getElem? hx)
      obtain ⟨b, o, rfl, hb, ⟨y0, y1, y2, y3⟩⟩ := (HA.out.over hbel).rd.at hx
      have etk : l.take (k + 1) = l.take k ++ [x] := by rw [List.take_add_one, hx]; rfl
      have HTK := Lib.hid etk
      have K1 := Lib.hid (fun W (hW : Below w.heap.size w W) => DSane_any x W (hux.over hW))
      have K2 : Hid (∀ W, Below w.heap.size w W → Sb x.b → Calls Tryz.prog 114 #[fv x, .int .i64 x.b.lo] W fun e w' => ∃ a c, e = .returned (.agg #[.int .i64 x.b.n, .int .i64 x.b.lo, .int .i64 x.b.hi, .slice a x.b.u.length c]) ∧ Ut w' a c x.b.u ∧ Below W.heap.size W w') := Lib.hid fun W hW hs => by
        have p1 := saneB_top hs.1
        have := from_any x x.b.lo W (hux.over hW) hs.2.2.2.1 p1.1 p1.2.1 p1.1 (by omega)
        rw [partB_self] at this
        exact this
      unfold fv at K1 K2
      have hbA : Below w.heap.size w (wr.alloc (.cells #[.int .i64 x.b.n, .int .i64 x.b.lo, .int .i64 x.b.hi, .slice x.a x.b.u.length x.c] 73)) := hbel.alloc hsz _
      have hownA := hown.alloc (.cells #[.int .i64 x.b.n, .int .i64 x.b.lo, .int .i64 x.b.hi, .slice x.a x.b.u.length x.c] 73)
      have hbx := Fb.new wr x 73
      have hszA : (wr.alloc (.cells #[.int .i64 x.b.n, .int .i64 x.b.lo, .int .i64 x.b.hi, .slice x.a x.b.u.length x.c] 73)).heap.size = wr.heap.size + 1 := by simp
      have HUA := Lib.hid (HU.out.ik (Ik.of_below (al_below wr (.cells #[.int .i64 x.b.n, .int .i64 x.b.lo, .int .i64 x.b.hi, .slice x.a x.b.u.length x.c] 73))))
      clear hx etk hown hbel hux
      cases hs : decide (Sb x.b) with
      | true =>
        rw [hs] at K1
        have HS := Lib.hid hs
        clear hs
        go_wp2_with fail
        refine (K1.out _ hbA).mono ?_
        rintro e w2 ⟨rfl, hb2⟩
        have hbk := hbA.trans (hb2.mono (by omega))
        obtain ⟨c0, c1, c2, c3⟩ := hbx.below hb2 (by omega)
        simp only [Nat.zero_add] at c1 c2 c3
        go_wp2_with fail
        refine (K2.out _ hbk (of_decide_eq_true HS.out)).mono ?_
        rintro e w3 ⟨fa, fc, rfl, hut, hb3⟩
        have hbk3 := hbk.trans (hb3.mono hbk.size)
        have hown3 := own_belowD (own_belowD hownA hb2 (Nat.le_refl _)) hb3 (Nat.le_refl _)
        have HU3 := Lib.hid (And.intro ((HUA.out.ik (Ik.of_below hb2)).ik (Ik.of_below hb3)) hut)
        have hs3 := hbk3.size
        clear hb2 hb3 hownA hbx hbA hszA y0 y1 y2 y3 hbk c0 c1 c2 c3 hut
        go_wp2_with (at_builtin; refine wpList_append_lies _ rfl _ _ _ rfl w.heap.size 73 i0 (.agg #[.int .i64 0, .int .i64 0, .int .i64 0, .slice none 0 0]) 4 48 Tryz.underlying25 hi hz0 hz1 hz2 rfl (by omega) _ _ _ rfl (hown3.alloc _) ⟨w3.heap.size, 0, none⟩ 1 1 (fq ⟨x.b, fa, fc⟩) rfl rfl (World.news_of_block (heap_alloc_new w3 _)) (by intro u hu; exact dvs_one [⟨x.b, fa, fc⟩] u (by simpa [dvs] using hu)) (by omega) (by unfold maxLen; omega) (by omega) (by simp; omega) _ rfl ?_; intro g cap w4 hown4 hgrow hat hgl)
        have hg : ∀ j, (u3).ownBlock = some j → w.heap.size ≤ j := fun j e => (own_ltD hown3 e).1
        have hik : Ik w3 w4 := (Ik.of_below (al_below w3 _)).trans (Ik.of_grown hgrow (fun g hg => own_tq (hown3.alloc _) hg))
        refine ⟨⟨k + 1, out ++ [⟨x.b, fa, fc⟩], by omega, by simp; omega, by first | rfl | go_num, Lib.hid ?_, Lib.hid ?_, own_fd hown4 (by simp), (hbk3.alloc hs3 _).grown hgrow (by simp; omega) hg⟩, by simp [intOf]; omega⟩
        · rw [HTK.out, pl_append, pl_append, List.filter_append, ← HE.out]
          show pl out ++ [x.b] = pl out ++ List.filter _ [x.b]
          rw [List.filter_cons, HS.out]
          rfl
        · intro m hm
          rcases List.mem_append.1 hm with hm | hm
          · exact (HU3.out.1 m hm).ik hik
          · rw [List.mem_singleton] at hm
            subst hm
            exact HU3.out.2.ik hik
      | false =>
        rw [hs] at K1
        have HS := Lib.hid hs
        clear hs
        go_wp2_with fail
        refine (K1.out _ hbA).mono ?_
        rintro e w2 ⟨rfl, hb2⟩
        have hown2 := own_belowD hownA hb2 (Nat.le_refl _)
        have hbk := hbA.trans (hb2.mono (by omega))
        have HU2 := Lib.hid (HUA.out.ik (Ik.of_below hb2))
        clear hb2 hownA hbx hbA hszA y0 y1 y2 y3
        go_wp2
        refine ⟨⟨k + 1, out, by omega, by omega, by first | rfl | go_num, Lib.hid ?_, HU2, hown2, hbk⟩, by simp [intOf]; omega⟩
        rw [HTK.out, pl_append, List.filter_append, ← HE.out]
        show pl out = pl out ++ List.filter _ [x.b]
        rw [List.filter_cons, HS.out]
        simp
    · have t0 : decide (k < n) = false := decide_eq_false hlt
      obtain rfl : k = n := by omega
      have eo : pl out = (pl l).filter (fun s => decide (Sb s)) := by rw [HE.out, List.take_of_length_le (by rw [← HN.out]; exact Nat.le_refl _)]
      have hos : ∀ m ∈ out, Sb m.b := fun m hm => by
        have : m.b ∈ pl out := List.mem_map.2 ⟨m, hm, rfl⟩
        rw [eo, List.mem_filter] at this
        simpa using this.2
      have HEO := Lib.hid eo
      have HOS := Lib.hid hos
      clear eo hos
      cases hpo : decide (0 < out.length) with
      | true =>
        obtain ⟨g, cc, ev, _, hcc, hgg, hrt⟩ := own_rs hown (of_decide_eq_true hpo)
        subst ev
        have K1 := Lib.hid (dBuild_any out.length out rfl (of_decide_eq_true hpo) HOS.out (by omega) g 0 cc wr hrt HU.out hcc)
        have HRT := Lib.hid (And.intro hrt (And.intro hgg hbel))
        clear hrt hown hpo
        go_wp2_with fail
        refine K1.out.mono ?_
        rintro e w2 ⟨m, A3, c3, b3, o3, rfl, r⟩
        go_wp2
        go_ret
        obtain ⟨hrt, hgg, hbl⟩ := HRT.out
        exact ⟨m, A3, c3, rfl, r.hc, r.hn, ⟨r.rs.rd _ r.lt, r.ut.ul⟩, r.ut, r.ct, fun x y => by rw [r.tell, HEO.out, lastB_filter], hbl.trans (r.fz.toBelow hgg hbl.size)⟩
      | false =>
        have h0 := of_decide_eq_false hpo
        obtain rfl : out = [] := List.eq_nil_of_length_eq_zero (by omega)
        obtain ⟨cc, _, hcc, AA, ev, hnn, _⟩ := Rd.of_own hown
        rw [List.length_nil] at ev
        subst ev
        have K1 := Lib.hid (build_nil AA cc wr)
        have HB := Lib.hid (And.intro hbel hnn)
        clear hown hpo h0 hbel hnn
        go_wp2_with fail
        refine K1.out.mono ?_
        rintro e w2 ⟨rfl, hb2⟩
        go_wp2
        go_ret
        obtain ⟨hbl, hnn⟩ := HB.out
        exact ⟨[], AA, cc, rfl, Nat.zero_le _, hnn, Sd.nil, (fun _ h => by cases h), Ct.nil, fun x y => by rw [← lastB_filter (pl l), ← HEO.out], hbl.trans (hb2.mono hbl.size)⟩
end Go.Proofs.YtmjneokjgcgchaaGreat
