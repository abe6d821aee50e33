/-
  The document's own Sane, further, To (hornbookref08).
-/
import Derived.Test.YtkkochjdimegpaaDestSame
import Derived.Test.YtkkochjdimegpaaDestTo
import Derived.Test.YtkkochjdimegpaaRefSane
namespace Go.Proofs.Ytkkochjdimegpaa
open Go.RowKit
attribute [local go_sem ↓] Go.wp_at_zero Go.wp_at_succ

set_option maxRecDepth 100000 in
set_option maxHeartbeats 8000000 in
theorem rDSane_any (x : Me) (w : World) (hu : Un w x.a x.c x.b.u) (hln : x.b.u.length ≤ 9223372036854775807) :
    Calls Try.prog 20 #[fv x] w fun e w' => e = .returned (.bool (decide (Sb x.b))) ∧ Below w.heap.size w w' := by
  have hs := Fb.new w x 25
  have hb0 := al_below w (.cells #[.int .i64 x.b.n, .int .i64 x.b.lo, .int .i64 x.b.hi, .slice x.a x.b.u.length x.c] 25)
  have hz0 : w.heap.size < (w.alloc (.cells #[.int .i64 x.b.n, .int .i64 x.b.lo, .int .i64 x.b.hi, .slice x.a x.b.u.length x.c] 25)).heap.size := by simp
  have K1 := Lib.hid (fun W => rSane_any x.b.n x.b.lo W)
  have K2 := Lib.hid (fun W => rSane_any x.b.n x.b.hi W)
  have HU : Hid (∀ W, Below w.heap.size w W → Un W x.a x.c x.b.u) := Lib.hid fun W hW => hu.over hW
  obtain ⟨R, hR⟩ : ∃ R, R = decide (Sb x.b) := ⟨_, rfl⟩
  rw [← hR]
  rw [Sb_eq] at hR
  have HR := Lib.hid hR
  have key : ∀ w1 w2, Below (w.alloc (.cells #[.int .i64 x.b.n, .int .i64 x.b.lo, .int .i64 x.b.hi, .slice x.a x.b.u.length x.c] 25)).heap.size (w.alloc (.cells #[.int .i64 x.b.n, .int .i64 x.b.lo, .int .i64 x.b.hi, .slice x.a x.b.u.length x.c] 25)) w1 → Below w1.heap.size w1 w2 → Below w.heap.size w w2 ∧ w.heap.size < w2.heap.size ∧ Fb w2 w.heap.size x := fun w1 w2 hb1 hb2 => by
    have a := hb1.size
    have b := hb2.size
    exact ⟨(hb0.trans (hb1.mono (by omega))).trans (hb2.mono (by omega)), by omega, (hs.below hb1 hz0).below hb2 (by omega)⟩
  have KEY := Lib.hid key
  clear hR hu key hs hb0 hz0
  cases d1 : saneB x.b.n x.b.lo with
  | false =>
    have e : R = false := by rw [HR.out, d1]; rfl
    subst e
    rw [d1] at K1
    unfold fv at *
    go_enter Try.func20, Try.ntmps20
    go_wp2_with ((go_at_call 29; refine (K1.out _).mono ?_; rintro e w1 ⟨rfl, hb1⟩))
    go_ret
    exact ⟨rfl, (KEY.out _ _ hb1 (Below.refl _ _)).1⟩
  | true =>
    cases d2 : saneB x.b.n x.b.hi with
    | false =>
      have e : R = false := by rw [HR.out, d1, d2]; rfl
      subst e
      rw [d1] at K1
      rw [d2] at K2
      unfold fv at *
      go_enter Try.func20, Try.ntmps20
      go_wp2_with fail
      refine (K1.out _).mono ?_
      rintro e w1 ⟨rfl, hb1⟩
      obtain ⟨k1, k2, c0, c1, c2, c3⟩ := KEY.out _ _ hb1 (Below.refl _ _)
      rw [Nat.zero_add] at c1 c2 c3
      go_wp2_with fail
      refine (K2.out _).mono ?_
      rintro e w2 ⟨rfl, hb2⟩
      have k3 := (KEY.out _ _ hb1 hb2).1
      go_wp2
      go_ret
      exact ⟨rfl, k3⟩
    | true =>
      have p1 := saneB_top d1
      have p2 := saneB_top d2
      have HP := Lib.hid (And.intro p1 p2)
      rw [d1] at K1
      rw [d2] at K2
      have HR2 : Hid (R = (decide (x.b.lo ≤ x.b.hi) && (decide (okU x.b.u) && decide (lastU x.b.u + (x.b.hi - x.b.lo) ≤ 65535)))) := Lib.hid (by rw [HR.out, d1, d2]; rfl)
      clear HR d1 d2 p1 p2
      obtain ⟨n, hn⟩ : ∃ n, n = x.b.u.length := ⟨_, rfl⟩
      have HN := Lib.hid hn
      unfold fv at *
      rw [← hn] at KEY hln ⊢
      clear hn
      go_enter Try.func20, Try.ntmps20
      go_wp2_with fail
      refine (K1.out _).mono ?_
      rintro e w1 ⟨rfl, hb1⟩
      obtain ⟨k1, k2, c0, c1, c2, c3⟩ := KEY.out _ _ hb1 (Below.refl _ _)
      rw [← HN.out] at c3
      rw [Nat.zero_add] at c1 c2 c3
      go_wp2_with fail
      refine (K2.out _).mono ?_
      rintro e w2 ⟨rfl, hb2⟩
      obtain ⟨hbk, hz2, e0, e1, e2, e3⟩ := KEY.out _ _ hb1 hb2
      rw [← HN.out] at e3
      rw [Nat.zero_add] at e1 e2 e3
      clear hb1 hb2 KEY k1 k2 c0 c1 c2 c3
      by_cases h3 : x.b.lo ≤ x.b.hi
      · have t3 : decide (x.b.hi < x.b.lo) = false := decide_eq_false (by omega)
        by_cases h4 : n < 1
        · have t4 : decide ((n : Int) < 1) = true := decide_eq_true (by omega)
          have e : R = false := by
            rw [HR2.out, decide_eq_false (p := okU x.b.u) (fun h => by have := h.1; have := HN.out; omega)]
            simp
          subst e
          clear h3 h4
          go_wp2
          go_ret
          exact ⟨rfl, hbk⟩
        · have t4 : decide ((n : Int) < 1) = false := decide_eq_false (by omega)
          by_cases h5 : 64 < n
          · have t5 : decide ((64 : Int) < (n : Int)) = true := decide_eq_true (by omega)
            have e : R = false := by
              rw [HR2.out, decide_eq_false (p := okU x.b.u) (fun h => by have := h.2.1; have := HN.out; omega)]
              simp
            subst e
            clear h3 h4 h5
            go_wp2
            go_ret
            exact ⟨rfl, hbk⟩
          · have t5 : decide ((64 : Int) < (n : Int)) = false := decide_eq_false (by omega)
            obtain ⟨b, o, ea, hb, hc⟩ := (HU.out _ hbk).si (by have := HN.out; omega)
            rw [ea] at e3
            have HC := Lib.hid hc
            have H1 := Lib.hid (And.intro h3 (And.intro (show 1 ≤ n by omega) (show n ≤ 64 by omega)))
            clear h3 h4 h5 hc ea HU
            go_wp2
            go_loopw [3] (fun i wr => ∃ k : Nat, k ≤ n ∧ i = .int .i64 (k : Int) ∧ Hid (∀ y ∈ x.b.u.take k, 0 ≤ y ∧ y ≤ 65535) ∧ wr = w2) (fun i _ => n - (intOf i).toNat)
            case atStart => exact ⟨0, Nat.zero_le _, rfl, Lib.hid (by simp), rfl⟩
            case round =>
              obtain ⟨k, hk, rfl, HK, hwr⟩ := hrel
              subst hwr
              by_cases hlt : k < n
              · have t0 : decide (k < n) = true := decide_eq_true hlt
                have hx := List.getElem?_eq_getElem (l := x.b.u) (i := k) (by have := HN.out; omega)
                have hcell := HC.out k (by have := HN.out; omega)
                rw [hx] at hcell
                generalize x.b.u[k]'(by have := HN.out; omega) = y at *
                have hcell2 : wr.cell? ⟨b, o + k, none⟩ = some (.int .i64 y) := hcell
                clear hcell
                have HX := Lib.hid hx
                clear hx
                by_cases g1 : y < 0
                · have s1 : decide (y < 0) = true := decide_eq_true g1
                  have e : R = false := by
                    rw [HR2.out, decide_eq_false (p := okU x.b.u) (fun h => by have := (h.2.2 y (List.mem_of_getElem? HX.out)).1; omega)]
                    simp
                  subst e
                  clear g1
                  go_wp2
                  go_ret
                  exact ⟨rfl, hbk⟩
                · have s1 : decide (y < 0) = false := decide_eq_false g1
                  by_cases g2 : 65535 < y
                  · have s2 : decide (65535 < y) = true := decide_eq_true g2
                    have e : R = false := by
                      rw [HR2.out, decide_eq_false (p := okU x.b.u) (fun h => by have := (h.2.2 y (List.mem_of_getElem? HX.out)).2; omega)]
                      simp
                    subst e
                    clear g1 g2
                    go_wp2
                    go_ret
                    exact ⟨rfl, hbk⟩
                  · have s2 : decide (65535 < y) = false := decide_eq_false g2
                    have K2 := Lib.hid (okU_take (k := k) (x := y) HX.out HK.out (by omega) (by omega))
                    clear g1 g2
                    go_wp2
                    exact ⟨⟨k + 1, by omega, by first | rfl | go_num, K2, trivial⟩, by simp [intOf]; omega⟩
              · have t0 : decide (k < n) = false := decide_eq_false hlt
                obtain rfl : k = n := by omega
                have hok : okU x.b.u := ⟨by have := HN.out; have := H1.out.2.1; omega, by have := HN.out; have := H1.out.2.2; omega, fun z hz => HK.out z (by
                  rw [List.take_of_length_le (by have := HN.out; omega)]
                  exact hz)⟩
                obtain ⟨q, hq⟩ : ∃ q, k = q + 1 := ⟨k - 1, by have := H1.out.2.1; omega⟩
                subst hq
                have hlu := hok.last
                have hcell := HC.out q (by have := HN.out; omega)
                rw [lastU_at HN.out.symm] at hcell
                have e : R = decide (lastU x.b.u + x.b.hi - x.b.lo ≤ 65535) := by
                  rw [HR2.out, decide_eq_true H1.out.1, decide_eq_true hok, show lastU x.b.u + x.b.hi - x.b.lo = lastU x.b.u + (x.b.hi - x.b.lo) by omega]
                  rfl
                generalize lastU x.b.u = L at *
                have HE := Lib.hid e
                have f1 : (0 : Int) ≤ (q : Int) := by omega
                have w1 : IntKind.i64.wrap (L + x.b.hi) = L + x.b.hi := IntWalk.i64_in _ (by have := HP.out; omega)
                have w2 : IntKind.i64.wrap (L + x.b.hi - x.b.lo) = L + x.b.hi - x.b.lo := IntWalk.i64_in _ (by have := HP.out; omega)
                clear e hok hlu
                go_wp2_with fail
                go_quiet (fail)
                go_wp2
                go_ret
                exact ⟨by rw [HE.out]; rfl, below_drewN hbk _⟩
      · have t3 : decide (x.b.hi < x.b.lo) = true := decide_eq_true (by omega)
        have e : R = false := by
          rw [HR2.out, decide_eq_false h3]
          rfl
        subst e
        clear h3
        go_wp2
        go_ret
        exact ⟨rfl, hbk⟩
end Go.Proofs.Ytkkochjdimegpaa
