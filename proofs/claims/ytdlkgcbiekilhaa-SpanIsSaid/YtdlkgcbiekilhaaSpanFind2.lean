/-
  The program's own Find.
-/
import Derived.Test.YtdlkgcbiekilhaaSpanFind
namespace Go.Proofs.Ytdlkgcbiekilhaa
open Go.RowKit
attribute [local go_sem ↓] Go.wp_at_zero Go.wp_at_succ

/-- What a table tells of a code. -/
noncomputable def findS (st : Bool) (l : List Sp) (n v : Int) : Option Int := if Cn st l then lastS st l n v else none
theorem Srch.yes {st : Bool} {l : List Sp} {n v : Int} {i : Nat} (hc : Cn st l) (h : Srch l ⟨n, v, v, 0⟩ i true) : ∃ s, l[i]? = some s ∧ lastS st l n v = toS st s n v := by
  obtain ⟨s, hs, h1, h2⟩ := h.2.1 rfl
  refine ⟨s, hs, ?_⟩
  have hm := List.mem_of_getElem? hs
  have e : n = s.n ∧ s.lo ≤ v ∧ v ≤ s.hi := by
    unfold ahS at h1 h2
    simp only at h1 h2
    omega
  obtain ⟨rfl, e1, e2⟩ := e
  rw [hc.of hm e1 e2, toS_yes (hc.1 s hm) e1 e2]
theorem Srch.no {st : Bool} {l : List Sp} {n v : Int} {i : Nat} (h : Srch l ⟨n, v, v, 0⟩ i false) : lastS st l n v = none := by
  rw [lastS_none]
  intro s hs
  rcases h.2.2 rfl s hs with k | k
  · refine toS_none fun q => ?_
    unfold ahS at k
    simp only at k
    omega
  · refine toS_none fun q => ?_
    unfold ahS at k
    simp only at k
    omega
set_option maxRecDepth 100000 in
set_option maxHeartbeats 4000000 in
theorem Find_any (st : Bool) (A : Option Addr) (c : Nat) (l : List Sp) (n v : Int) (w : World) (hA : Ss w w.heap.size A l) (hl : l.length ≤ 1048576) :
    Calls Try.prog 14 #[.slice A l.length c, .agg #[.int .i64 n, .int .i64 v], .bool st] w fun e w' => e = .returned (oV (findS st l n v)) ∧ Below w.heap.size w w' := by
  obtain ⟨r, hr⟩ : ∃ r, r = findS st l n v := ⟨_, rfl⟩
  rw [← hr]
  have HR := Lib.hid hr
  have HA := Lib.hid hA
  have hb0 : Below w.heap.size w (w.alloc (.cells #[.int .i64 n, .int .i64 v] 26)) := (Below.refl _ _).alloc (Nat.le_refl _) _
  have hd0 := Bd.new w n v 26
  have hz0 : w.heap.size < (w.alloc (.cells #[.int .i64 n, .int .i64 v] 26)).heap.size := by simp
  have K1 := Lib.hid (Canon_any st A c l (w.alloc (.cells #[.int .i64 n, .int .i64 v] 26)) (hA.over hb0) hl)
  obtain ⟨k, hk⟩ : ∃ k, k = l.length := ⟨_, rfl⟩
  have HK := Lib.hid hk
  have K2 : Hid (Cn st l → ∀ W, Below w.heap.size w W → Calls Try.prog 29 #[.slice A k c, .agg #[.int .i64 n, .int .i64 v, .int .i64 v, .int .i64 0], .func (.func 30) #[] #[]] W fun e w' => (∃ (i : Nat) (ok : Bool), Srch l ⟨n, v, v, 0⟩ i ok ∧ e = .returned (.tuple #[.int .i64 (i : Int), .bool ok])) ∧ Below W.heap.size W w') := Lib.hid fun h W hW => by
    have := bsearch_any st A c l ⟨n, v, v, 0⟩ W (HA.out.over hW) hl h
    rwa [← hk] at this
  rw [← hk] at K1 hl ⊢
  clear hr hA hk
  cases hc : decide (Cn st l) with
  | false =>
    rw [hc] at K1
    have HC := Lib.hid (of_decide_eq_false hc)
    clear hc
    go_enter Try.func14, Try.ntmps14
    go_wp2_with ((go_at_call 18; refine K1.out.mono ?_; rintro e w1 ⟨rfl, hb1⟩))
    go_returns
    exact ⟨by rw [HR.out, findS, if_neg HC.out]; rfl, hb0.trans (hb1.mono (by omega))⟩
  | true =>
    rw [hc] at K1
    have hcn := of_decide_eq_true hc
    have HC := Lib.hid hcn
    have K3 := Lib.hid (K2.out hcn)
    clear hc hcn K2
    go_enter Try.func14, Try.ntmps14
    go_wp2_with fail
    refine K1.out.mono ?_
    rintro e w1 ⟨rfl, hb1⟩
    obtain ⟨f0, f1⟩ := hd0.below hb1 hz0
    have hbk : Below w.heap.size w w1 := hb0.trans (hb1.mono (by omega))
    have hz1 : w.heap.size < w1.heap.size := Nat.lt_of_lt_of_le hz0 hb1.size
    have hd1 : Bd w1 w.heap.size n v := ⟨f0, f1⟩
    clear hb0 hd0 hz0 hb1 K1
    go_wp2_with fail
    refine (K3.out _ hbk).mono ?_
    rintro e w2 ⟨⟨i, ok, hs, rfl⟩, hb2⟩
    have hd2 := hd1.below hb2 hz1
    have hbk2 : Below w.heap.size w w2 := hbk.trans (hb2.mono (by omega))
    have hz2 : w.heap.size < w2.heap.size := Nat.lt_of_lt_of_le hz1 hb2.size
    clear f0 f1 hd1 hb2 hbk hz1 K3
    cases ok with
    | false =>
      have hn := hs.no (st := st)
      have HNN := Lib.hid hn
      clear hs hn
      go_wp2
      go_returns
      exact ⟨by rw [HR.out, findS, if_pos HC.out, HNN.out]; rfl, hbk2⟩
    | true =>
      obtain ⟨x, hx, ex⟩ := hs.yes (st := st) HC.out
      obtain ⟨b, o, rfl, hb, ⟨y0, y1, y2, y3⟩⟩ := (HA.out.below hbk2).at hx
      have hik : i < k := by rw [HK.out]; exact (List.getElem?_eq_some_iff.1 hx).1
      have HEX := Lib.hid ex
      have K4 := Lib.hid (fun W => To_any st x n v W)
      unfold sv at K4
      have hSS : ∀ w', Below w2.heap.size w2 w' → (w'.cell? ⟨b, o + i * 4, none⟩ = some (.int .i64 x.n) ∧ w'.cell? ⟨b, o + i * 4 + 1, none⟩ = some (.int .i64 x.lo) ∧ w'.cell? ⟨b, o + i * 4 + 2, none⟩ = some (.int .i64 x.hi) ∧ w'.cell? ⟨b, o + i * 4 + 3, none⟩ = some (.int .i64 x.to)) ∧ w'.cell? ⟨w.heap.size, 0, none⟩ = some (.int .i64 n) ∧ w'.cell? ⟨w.heap.size, 1, none⟩ = some (.int .i64 v) := fun w' hw => by
        have hbz := Nat.lt_of_lt_of_le hb hbk2.size
        have q := S4.keep (w' := w') ⟨y0, y1, y2, y3⟩ fun i => hw.cell (p := ⟨b, i, none⟩) hbz
        have p := hd2.below hw hz2
        exact ⟨⟨q.c0, q.c1, q.c2, q.c3⟩, p.c0, p.c1⟩
      have HH := Lib.hid hSS
      have z0 : Below w2.heap.size w2 w2.drew := (Below.refl _ _).drew
      clear hs hx ex y0 y1 y2 y3 hSS hd2
      go_wp2_with fail
      go_region_held (fun w' => (w'.cell? ⟨b, o + i * 4, none⟩ = some (.int .i64 x.n) ∧ w'.cell? ⟨b, o + i * 4 + 1, none⟩ = some (.int .i64 x.lo) ∧ w'.cell? ⟨b, o + i * 4 + 2, none⟩ = some (.int .i64 x.hi) ∧ w'.cell? ⟨b, o + i * 4 + 3, none⟩ = some (.int .i64 x.to)) ∧ w'.cell? ⟨w.heap.size, 0, none⟩ = some (.int .i64 n) ∧ w'.cell? ⟨w.heap.size, 1, none⟩ = some (.int .i64 v))
        (first | with_reducible exact HH.out _ z8 | with_reducible exact HH.out _ z0)
        ((go_at_call 10; with_reducible refine (K4.out _).mono ?_; unfold oV; rintro e x1 ⟨rfl, y8⟩; have z8 := z0.trans (y8.mono z0.size)))
      all_goals
        go_wp2
        go_returns
        exact ⟨by rw [HR.out, findS, if_pos HC.out, HEX.out]; rfl, hbk2.trans (z8.mono hbk2.size)⟩
end Go.Proofs.Ytdlkgcbiekilhaa
