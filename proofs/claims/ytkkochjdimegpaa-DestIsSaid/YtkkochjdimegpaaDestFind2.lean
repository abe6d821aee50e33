/-
  The program's own Find.
-/
import Derived.Test.YtkkochjdimegpaaDestFind
namespace Go.Proofs.Ytkkochjdimegpaa
open Go.RowKit
attribute [local go_sem ↓] Go.wp_at_zero Go.wp_at_succ

/-- What a table tells of a code. -/
noncomputable def findB (l : List Bp) (n v : Int) : Option (List Int) := if Ct l then lastB l n v else none
theorem SrchB.yes {l : List Bp} {n v : Int} {i : Nat} (hc : Ct l) (h : SrchB l ⟨n, v, v, []⟩ i true) : ∃ s, l[i]? = some s ∧ lastB l n v = toB s n v := by
  obtain ⟨s, hs, h1, h2⟩ := h.2.1 rfl
  refine ⟨s, hs, ?_⟩
  have hm := List.mem_of_getElem? hs
  have e : n = s.n ∧ s.lo ≤ v ∧ v ≤ s.hi := by
    unfold ahB at h1 h2
    simp only at h1 h2
    omega
  obtain ⟨rfl, e1, e2⟩ := e
  rw [hc.of hm e1 e2, toB_yes (hc.1 s hm) e1 e2]
theorem SrchB.no {l : List Bp} {n v : Int} {i : Nat} (h : SrchB l ⟨n, v, v, []⟩ i false) : lastB l n v = none := by
  rw [lastB_none]
  intro s hs
  rcases h.2.2 rfl s hs with k | k
  · refine toB_none fun q => ?_
    unfold ahB at k
    simp only at k
    omega
  · refine toB_none fun q => ?_
    unfold ahB at k
    simp only at k
    omega
theorem retO_two {w' : World} {o : Option (List Int)} {e : Ending} (h : match o with
  | none => e = .returned (.tuple #[.slice none 0 0, .bool false])
  | some u => ∃ a c, e = .returned (.tuple #[.slice a u.length c, .bool true]) ∧ Ut w' a c u) : ∃ r b, e = .returned (.tuple #[r, b]) := by
  cases o with
  | none => exact ⟨_, _, h⟩
  | some u =>
    obtain ⟨a, c, e, _⟩ := h
    exact ⟨_, _, e⟩
set_option maxRecDepth 100000 in
set_option maxHeartbeats 4000000 in
theorem dFind_any (A : Option Addr) (c : Nat) (l : List Me) (n v : Int) (w : World) (hA : Sd w A l) (hl : l.length ≤ 1048576) :
    Calls Try.prog 16 #[.slice A l.length c, .agg #[.int .i64 n, .int .i64 v]] w (RetO w (findB (pl l) n v)) := by
  obtain ⟨r, hr⟩ : ∃ r, r = findB (pl l) n v := ⟨_, rfl⟩
  rw [← hr]
  have HR := Lib.hid hr
  have HA := Lib.hid hA
  have hb0 : Below w.heap.size w (w.alloc (.cells #[.int .i64 n, .int .i64 v] 27)) := (Below.refl _ _).alloc (Nat.le_refl _) _
  have hd0 := Cd.new w n v 27
  have hz0 : w.heap.size < (w.alloc (.cells #[.int .i64 n, .int .i64 v] 27)).heap.size := by simp
  have K1 := Lib.hid (dCanon_any A c l (w.alloc (.cells #[.int .i64 n, .int .i64 v] 27)) (hA.over hb0) hl)
  obtain ⟨k, hk⟩ : ∃ k, k = l.length := ⟨_, rfl⟩
  have HK := Lib.hid hk
  have K2 : Hid (Ct (pl l) → ∀ W, Below w.heap.size w W → Calls Try.prog 32 #[.slice A k c, .agg #[.int .i64 n, .int .i64 v, .int .i64 v, .slice none 0 0], .func (.func 33) #[] #[]] W fun e w' => (∃ (i : Nat) (ok : Bool), SrchB (pl l) ⟨n, v, v, []⟩ i ok ∧ e = .returned (.tuple #[.int .i64 (i : Int), .bool ok])) ∧ Below W.heap.size W w') := Lib.hid fun h W hW => by
    have := dBsearch_any A c l n v v W (HA.out.over hW) hl h
    rwa [← hk] at this
  rw [← hk] at K1 hl ⊢
  clear hr hA hk
  cases hc : decide (Ct (pl l)) with
  | false =>
    rw [hc] at K1
    have HC := Lib.hid (of_decide_eq_false hc)
    clear hc
    go_enter Try.func16, Try.ntmps16
    go_wp2_with ((go_at_call 22; refine K1.out.mono ?_; rintro e w1 ⟨rfl, hb1⟩))
    go_returns
    rw [HR.out, findB, if_neg HC.out]
    exact ⟨rfl, hb0.trans (hb1.mono (by omega))⟩
  | true =>
    rw [hc] at K1
    have hcn := of_decide_eq_true hc
    have HC := Lib.hid hcn
    have K3 := Lib.hid (K2.out hcn)
    clear hc hcn K2
    go_enter Try.func16, Try.ntmps16
    go_wp2_with fail
    refine K1.out.mono ?_
    rintro e w1 ⟨rfl, hb1⟩
    obtain ⟨f0, f1⟩ := hd0.below hb1 hz0
    have hbk : Below w.heap.size w w1 := hb0.trans (hb1.mono (by omega))
    have hz1 : w.heap.size < w1.heap.size := Nat.lt_of_lt_of_le hz0 hb1.size
    have hd1 : Cd w1 w.heap.size n v := ⟨f0, f1⟩
    clear hb0 hd0 hz0 hb1 K1
    go_wp2_with fail
    refine (K3.out _ hbk).mono ?_
    rintro e w2 ⟨⟨i, ok, hs, rfl⟩, hb2⟩
    have hd2 := hd1.below hb2 hz1
    have hbk2 : Below w.heap.size w w2 := hbk.trans (hb2.mono (by omega))
    have hz2 : w.heap.size < w2.heap.size := Nat.lt_of_lt_of_le hz1 hb2.size
    clear f0 f1 hd1 hb2 hbk hz1 K3
    cases ok with
    | false =>
      have hn := hs.no 
      have HNN := Lib.hid hn
      clear hs hn
      go_wp2
      go_returns
      rw [HR.out, findB, if_pos HC.out, HNN.out]
      exact ⟨rfl, hbk2⟩
    | true =>
      obtain ⟨s, hx0, ex⟩ := hs.yes  HC.out
      obtain ⟨x, hx, ebx⟩ : ∃ x, l[i]? = some x ∧ x.b = s := by
        rw [pl, List.getElem?_map] at hx0
        cases e : l[i]? with
        | none => rw [e] at hx0; cases hx0
        | some x => rw [e] at hx0; injection hx0 with hx0; exact ⟨x, rfl, hx0⟩
      rw [← ebx] at ex
      obtain ⟨b, o, rfl, hb, ⟨y0, y1, y2, y3⟩⟩ := (HA.out.over hbk2).rd.at hx
      have hux := HA.out.ul x (List.mem_of_getElem? hx)
      have hik : i < k := by rw [HK.out]; exact (List.getElem?_eq_some_iff.1 hx).1
      have HEX := Lib.hid ex
      have K4 := Lib.hid (fun W (hW : Below w.heap.size w W) => DTo_any x n v W (hux.over hW))
      unfold fv at K4
      have hSS : ∀ w', Below w2.heap.size w2 w' → (w'.cell? ⟨b, o + i * 4, none⟩ = some (.int .i64 x.b.n) ∧ w'.cell? ⟨b, o + i * 4 + 1, none⟩ = some (.int .i64 x.b.lo) ∧ w'.cell? ⟨b, o + i * 4 + 2, none⟩ = some (.int .i64 x.b.hi) ∧ w'.cell? ⟨b, o + i * 4 + 3, none⟩ = some (.slice x.a x.b.u.length x.c)) ∧ w'.cell? ⟨w.heap.size, 0, none⟩ = some (.int .i64 n) ∧ w'.cell? ⟨w.heap.size, 1, none⟩ = some (.int .i64 v) := fun w' hw => by
        have hbz := hb
        have q := F4.keep (w' := w') ⟨y0, y1, y2, y3⟩ fun i => hw.cell (p := ⟨b, i, none⟩) hbz
        have p := hd2.below hw hz2
        exact ⟨⟨q.c0, q.c1, q.c2, q.c3⟩, p.c0, p.c1⟩
      have HH := Lib.hid hSS
      have z0 : Below w2.heap.size w2 w2.drew := (Below.refl _ _).drew
      have KZ := Lib.hid (hbk2.trans (z0.mono hbk2.size))
      clear hs hx hx0 ebx ex y0 y1 y2 y3 hSS hd2
      go_wp2_with fail
      go_region_held (fun w' => (w'.cell? ⟨b, o + i * 4, none⟩ = some (.int .i64 x.b.n) ∧ w'.cell? ⟨b, o + i * 4 + 1, none⟩ = some (.int .i64 x.b.lo) ∧ w'.cell? ⟨b, o + i * 4 + 2, none⟩ = some (.int .i64 x.b.hi) ∧ w'.cell? ⟨b, o + i * 4 + 3, none⟩ = some (.slice x.a x.b.u.length x.c)) ∧ w'.cell? ⟨w.heap.size, 0, none⟩ = some (.int .i64 n) ∧ w'.cell? ⟨w.heap.size, 1, none⟩ = some (.int .i64 v))
        (first | with_reducible exact HH.out _ z8 | with_reducible exact HH.out _ z0)
        ((go_at_call 12; (with_reducible refine (K4.out _ (KZ.out)).mono ?_); rintro e x1 ⟨y7, y8⟩; obtain ⟨rv, rb, rfl⟩ := retO_two y7; have z8 := z0.trans (y8.mono z0.size)))
      all_goals
        go_wp2
        go_returns
        rw [HR.out, findB, if_pos HC.out, HEX.out]
        exact ⟨y7, hbk2.trans (z8.mono hbk2.size)⟩
end Go.Proofs.Ytkkochjdimegpaa
