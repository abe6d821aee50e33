/-
  The program's own Rows.
-/
import Derived.Test.YtkkochjdimegpaaDestARows
import Derived.Test.YtkkochjdimegpaaDestFind
namespace Go.Proofs.Ytkkochjdimegpaa
open Go.RowKit
attribute [local go_sem ↓] Go.wp_at_zero Go.wp_at_succ

/-- Rows of a table; nothing of what is none. -/
noncomputable def rowsC (t : List Bp) : List Bp := if Ct t then rowsB t else []
set_option maxRecDepth 100000 in
set_option maxHeartbeats 4000000 in
theorem DRows_any (A : Option Addr) (c : Nat) (l : List Me) (w : World) (hA : Sd w A l) (hl : l.length ≤ 1000) :
    Calls Try.prog 26 #[.slice A l.length c] w fun e w' => ∃ m A' c', e = .returned (.slice A' m.length c') ∧ m.length ≤ c' ∧ (A' = none → c' = 0) ∧ Sd w' A' m ∧ Utl w' m ∧ pl m = rowsC (pl l) ∧ Below w.heap.size w w' := by
  have K1 := Lib.hid (dCanon_any A c l w hA (by omega))
  have HA := Lib.hid hA
  obtain ⟨n, hn⟩ : ∃ n, n = l.length := ⟨_, rfl⟩
  have HN := Lib.hid hn
  rw [← hn] at K1 hl ⊢
  clear hn hA
  cases hc : decide (Ct (pl l)) with
  | false =>
    rw [hc] at K1
    have HC := Lib.hid (of_decide_eq_false hc)
    clear hc
    go_enter Try.func26, Try.ntmps26
    go_wp2_with ((go_at_call 22; refine K1.out.mono ?_; rintro e w1 ⟨rfl, hb1⟩))
    go_ret
    exact ⟨[], none, 0, rfl, Nat.le_refl _, fun _ => rfl, Sd.nil, (fun _ h => by cases h), by rw [rowsC, if_neg HC.out]; rfl, hb1⟩
  | true =>
    rw [hc] at K1
    have HC := Lib.hid (of_decide_eq_true hc)
    clear hc
    go_enter Try.func26, Try.ntmps26
    go_wp2_with fail
    refine K1.out.mono ?_
    rintro e w1 ⟨rfl, hb1⟩
    have hr : w1.ownsRow w.heap.size 25 4 (.slice none 0 0) ([] : List Me).length (dvs []) := World.ownsRow_nil _ _ _ _
    go_wp2
    go_loopw [3, 11] (fun v i wr => ∃ (k : Nat) (out : List Me), k ≤ n ∧ i = .int .i64 (k : Int) ∧ Hid (pl out = rowsB ((pl l).take k)) ∧ Hid (Utl wr out) ∧ wr.ownsRow w.heap.size 25 4 v out.length (dvs out) ∧ Below w.heap.size w wr) (fun _ i _ => n - (intOf i).toNat)
    case atStart => exact ⟨0, [], Nat.zero_le _, rfl, Lib.hid (by simp [pl, rowsB]), Lib.hid (fun _ h => by cases h), hr, hb1⟩
    case round =>
      clear hr hb1
      obtain ⟨k, out, hk, rfl, HE, HU, hown, hbel⟩ := hrel
      have hsz := hbel.size
      by_cases hlt : k < n
      · have t0 : decide (k < n) = true := decide_eq_true hlt
        have hx := List.getElem?_eq_getElem (l := l) (i := k) (by have := HN.out; omega)
        generalize l[k]'(by have := HN.out; omega) = x at *
        have hux := HA.out.ul x (List.mem_of_getElem? hx)
        obtain ⟨b, o, rfl, hb, ⟨y0, y1, y2, y3⟩⟩ := (HA.out.over hbel).rd.at hx
        have etk : (pl l).take (k + 1) = (pl l).take k ++ [x.b] := by rw [List.take_add_one, pl_get hx]; rfl
        have HTK := Lib.hid etk
        have hs : Sb x.b := HC.out.1 x.b (List.mem_of_getElem? (pl_get hx))
        have HS := Lib.hid hs
        have K2 : Hid (∀ W, Below w.heap.size w W → Calls Try.prog 37 #[fv x, .int .i64 x.b.lo] W fun e w' => ∃ a c, e = .returned (.agg #[.int .i64 x.b.n, .int .i64 x.b.lo, .int .i64 x.b.hi, .slice a x.b.u.length c]) ∧ Ut w' a c x.b.u ∧ Below W.heap.size W w') := Lib.hid fun W hW => by
          have p1 := saneB_top hs.1
          have := from_any x x.b.lo W (hux.over hW) hs.2.2.2.1 p1.1 p1.2.1 p1.1 (by omega)
          rw [partB_self] at this
          exact this
        unfold fv at K2
        have hbA : Below w.heap.size w (wr.alloc (.cells #[.int .i64 x.b.n, .int .i64 x.b.lo, .int .i64 x.b.hi, .slice x.a x.b.u.length x.c] 25)) := hbel.alloc hsz _
        have hownA := hown.alloc (.cells #[.int .i64 x.b.n, .int .i64 x.b.lo, .int .i64 x.b.hi, .slice x.a x.b.u.length x.c] 25)
        have HUA := Lib.hid (HU.out.ik (Ik.of_below (al_below wr (.cells #[.int .i64 x.b.n, .int .i64 x.b.lo, .int .i64 x.b.hi, .slice x.a x.b.u.length x.c] 25))))
        have hol : out.length ≤ 600 * k := by
          have h1 := rowsB_len (t := (pl l).take k) (fun b hb => HC.out.1 b (List.mem_of_mem_take hb))
          rw [← HE.out, pl_length, List.length_take] at h1
          omega
        clear hx etk hown hbel hux hs
        go_wp2_with fail
        refine (K2.out _ hbA).mono ?_
        rintro e w3 ⟨fa, fc, rfl, hut, hb3⟩
        have hbk3 := hbA.trans (hb3.mono hbA.size)
        have hown3 := own_belowD hownA hb3 (Nat.le_refl _)
        have hs3 := hbk3.size
        have K3 := Lib.hid (addRows_any w.heap.size u3 out ⟨x.b, fa, fc⟩ w3 hown3 hs3 (by omega) (HUA.out.ik (Ik.of_below hb3)) hut HS.out)
        unfold fv at K3
        have HO3 : Hid (∀ j, (u3).ownBlock = some j → w.heap.size ≤ j) := Lib.hid fun j e => (own_ltD hown3 e).1
        clear hb3 hownA hbA hown3 y0 y1 y2 y3 hut
        go_wp2_with fail
        refine K3.out.mono ?_
        rintro e w4 ⟨v4, m, rfl, hown4, hpm, hu4, hgr4, _⟩
        have HPM := Lib.hid hpm
        clear hpm
        go_wp2
        refine ⟨⟨k + 1, m, by omega, by first | rfl | go_num, Lib.hid ?_, Lib.hid hu4, hown4, hbk3.grown hgr4 hs3 HO3.out⟩, by simp [intOf]; omega⟩
        rw [HPM.out, HTK.out, rowsB_snoc, HE.out]
      · have t0 : decide (k < n) = false := decide_eq_false hlt
        obtain rfl : k = n := by omega
        obtain ⟨cc, _, hcc, AA, ev, hnn, hrd⟩ := Rd.of_own hown
        subst ev
        go_wp2
        go_ret
        refine ⟨out, AA, cc, rfl, hcc, hnn, ⟨hrd, HU.out.ul⟩, HU.out, ?_, hbel⟩
        rw [HE.out, rowsC, if_pos HC.out, List.take_of_length_le (by rw [pl_length, ← HN.out]; exact Nat.le_refl _)]
end Go.Proofs.Ytkkochjdimegpaa
