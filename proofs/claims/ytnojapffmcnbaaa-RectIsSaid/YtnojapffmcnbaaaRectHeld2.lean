/-
  The program's own heldBehind.
-/
import Derived.Test.YtnojapffmcnbaaaRectHeld
namespace Go.Proofs.Ytnojapffmcnbaaa
open Go.RowKit Go.Sort
attribute [local go_sem ↓] Go.wp_at_zero Go.wp_at_succ

theorem lowest_b (n lo hi : Int) (w : World) : Calls Try.prog 48 #[.agg #[.int .i64 n, .int .i64 lo, .int .i64 hi]] w fun e w' => e = .returned (.complex .f64 (flN n) (flN lo)) ∧ Go.RowKit.Below w.heap.size w w' := (lowest_any n lo hi w).mono fun _ _ h => ⟨h.1, Gw.below h.2⟩
set_option maxRecDepth 100000 in
set_option maxHeartbeats 4000000 in
theorem heldBehind_any (A : Option Addr) (c : Nat) (l : List Rc) (i : Nat) (x : Rc) (w : World) (hA : Sr w w.heap.size A l) (hl : l.length ≤ 1000) (ho : l.Pairwise (fun a b => ltC a b = true)) (hs : ∀ x ∈ l, Sml x) (hx : l[i]? = some x) :
    Calls Try.prog 39 #[.slice A l.length c, .int .i64 (i : Int)] w fun e w' => e = .returned (.bool ((l.drop (i + 1)).any fun y => hoC y x)) ∧ Below w.heap.size w w' := by
  have hil := (List.getElem?_eq_some_iff.1 hx).1
  obtain ⟨b, o, rfl, hb, _⟩ := hA.at hx
  have hxs := hs x (List.mem_of_getElem? hx)
  have HO : Hid (∀ (s t : Nat) (y z : Rc), s < t → l[s]? = some y → l[t]? = some z → ltC y z = true) := Lib.hid (fun s t y z hst hy hz => by
    obtain ⟨h1, e1⟩ := List.getElem?_eq_some_iff.1 hy
    obtain ⟨h2, e2⟩ := List.getElem?_eq_some_iff.1 hz
    have := List.pairwise_iff_getElem.1 ho s t h1 h2 hst
    rwa [e1, e2] at this)
  have HA := Lib.hid hA
  have HS := Lib.hid hs
  have HX := Lib.hid hx
  have HXS := Lib.hid hxs
  obtain ⟨n, hn⟩ : ∃ n, n = l.length := ⟨_, rfl⟩
  rw [← hn] at hl hil ⊢
  have HN := Lib.hid hn
  clear hn hA hs hx hxs ho
  obtain ⟨r, hr⟩ : ∃ r, r = (l.drop (i + 1)).any fun y => hoC y x := ⟨_, rfl⟩
  rw [← hr]
  have HRR := Lib.hid hr
  clear hr
  go_enter Try.func39, Try.ntmps39
  go_wp2
  go_loopw [5] (fun s wr => ∃ J : Nat, i < J ∧ J ≤ n ∧ s = .int .i64 (J : Int) ∧ Hid (∀ (t : Nat) (y : Rc), i < t → t < J → l[t]? = some y → hoC y x = false) ∧ Below w.heap.size w wr) (fun s _ => n - (intOf s).toNat)
  case atStart => exact ⟨i + 1, by omega, by omega, by go_num, Lib.hid (fun t y h1 h2 => by omega), Below.refl _ _⟩
  case round =>
    obtain ⟨J, hJ, hJn, rfl, HJ, hbel⟩ := hrel
    by_cases hlt : J < n
    · have t0 : decide (J < n) = true := decide_eq_true hlt
      obtain ⟨y, hy⟩ : ∃ y, l[J]? = some y := ⟨_, List.getElem?_eq_getElem (by have := HN.out; omega)⟩
      have hys := HS.out y (List.mem_of_getElem? hy)
      obtain ⟨b', o', eA, _, q1⟩ := (HA.out.below hbel).at hy
      obtain ⟨b'', o'', eA', _, q2⟩ := (HA.out.below hbel).at HX.out
      injection eA with eA
      injection eA with eA1 eA2
      subst eA1 eA2
      injection eA' with eA'
      injection eA' with eA1 eA2
      subst eA1 eA2
      have hbz : b < wr.heap.size := Nat.lt_of_lt_of_le hb hbel.size
      have hlt' := HO.out i J x y hJ HX.out hy
      have L1 := Lib.hid (lowest_b y.n y.lo y.hi)
      have L2 := Lib.hid (lowest_b x.n x.lo x.hi)
      have o1 := flN_order hys.n0 hys.n1 HXS.out.n0 HXS.out.n1
      have o2 := flN_order hys.l0 hys.l1 HXS.out.l0 HXS.out.l1
      have e3 : ((FloatKind.f64.format.order (flN y.n) (flN x.n) == some Ordering.eq) && (FloatKind.f64.format.order (flN y.lo) (flN x.lo) == some Ordering.eq)) = decide (y.n = x.n ∧ y.lo = x.lo) := by rw [o1, o2, cmp_eq, cmp_eq]; exact (Bool.decide_and _ _).symm
      have hSS : ∀ w', Below wr.heap.size wr w' → w'.cell? ⟨b, o + J * 3, none⟩ = some (.int .i64 y.n) ∧ w'.cell? ⟨b, o + J * 3 + 1, none⟩ = some (.int .i64 y.lo) ∧ w'.cell? ⟨b, o + J * 3 + 2, none⟩ = some (.int .i64 y.hi) ∧ w'.cell? ⟨b, o + i * 3, none⟩ = some (.int .i64 x.n) ∧ w'.cell? ⟨b, o + i * 3 + 1, none⟩ = some (.int .i64 x.lo) ∧ w'.cell? ⟨b, o + i * 3 + 2, none⟩ = some (.int .i64 x.hi) := fun w' h => by
        have g1 := q1.keep (w' := w') fun t => h.cell (p := ⟨b, t, none⟩) hbz
        have g2 := q2.keep (w' := w') fun t => h.cell (p := ⟨b, t, none⟩) hbz
        exact ⟨g1.c0, g1.c1, g1.c2, g2.c0, g2.c1, g2.c2⟩
      have z0 : Below wr.heap.size wr wr.drew := (Below.refl _ _).drew
      have HH := Lib.hid hSS
      have HY := Lib.hid hy
      have HLT := Lib.hid hlt'
      clear hSS q1 q2 hy hys o1 o2 hlt'
      by_cases h : y.n = x.n ∧ y.lo = x.lo
      · rw [decide_eq_true h] at e3
        have HE := Lib.hid h
        have k2 := Holds_any y x
        clear h
        cases th : hoC y x with
        | true =>
          rw [th] at k2
          have K2 := Lib.hid k2
          have TH := Lib.hid th
          clear k2 th
          go_wp2_with fail
          go_region_held (fun w' => w'.cell? ⟨b, o + J * 3, none⟩ = some (.int .i64 y.n) ∧ w'.cell? ⟨b, o + J * 3 + 1, none⟩ = some (.int .i64 y.lo) ∧ w'.cell? ⟨b, o + J * 3 + 2, none⟩ = some (.int .i64 y.hi) ∧ w'.cell? ⟨b, o + i * 3, none⟩ = some (.int .i64 x.n) ∧ w'.cell? ⟨b, o + i * 3 + 1, none⟩ = some (.int .i64 x.lo) ∧ w'.cell? ⟨b, o + i * 3 + 2, none⟩ = some (.int .i64 x.hi))
            (first | with_reducible exact HH.out _ z2 | with_reducible exact HH.out _ z1 | with_reducible exact HH.out _ z0)
            (first
              | (go_at_call 48; with_reducible refine (L1.out _).mono ?_; rintro e x1 ⟨rfl, g1⟩; have z1 := z0.trans (g1.mono z0.size))
              | (go_at_call 48; with_reducible refine (L2.out _).mono ?_; rintro e x2 ⟨rfl, g2⟩; have z2 := z1.trans (g2.mono z1.size)))
          all_goals
            go_wp2_with fail
            have w0 : Below wr.heap.size wr (x2.drew) := z2.drew
            go_region_held (fun w' => w'.cell? ⟨b, o + J * 3, none⟩ = some (.int .i64 y.n) ∧ w'.cell? ⟨b, o + J * 3 + 1, none⟩ = some (.int .i64 y.lo) ∧ w'.cell? ⟨b, o + J * 3 + 2, none⟩ = some (.int .i64 y.hi) ∧ w'.cell? ⟨b, o + i * 3, none⟩ = some (.int .i64 x.n) ∧ w'.cell? ⟨b, o + i * 3 + 1, none⟩ = some (.int .i64 x.lo) ∧ w'.cell? ⟨b, o + i * 3 + 2, none⟩ = some (.int .i64 x.hi))
              (first | with_reducible exact HH.out _ z8 | with_reducible exact HH.out _ w0)
              ((go_at_call 21; with_reducible refine (K2.out _).mono ?_; rintro e x3 ⟨rfl, y8⟩; have z8 := w0.trans (y8.mono w0.size)))
            all_goals
              go_wp2
              go_ret
              refine ⟨?_, hbel.trans (z8.mono hbel.size)⟩
              have : r = true := by
                rw [HRR.out]
                exact any_true (j := J - (i + 1)) (by rw [List.getElem?_drop, show i + 1 + (J - (i + 1)) = J by omega]; exact HY.out) TH.out
              rw [this]
              rfl
        | false =>
          rw [th] at k2
          have K2 := Lib.hid k2
          have TH := Lib.hid th
          clear k2 th
          go_wp2_with fail
          go_region_held (fun w' => w'.cell? ⟨b, o + J * 3, none⟩ = some (.int .i64 y.n) ∧ w'.cell? ⟨b, o + J * 3 + 1, none⟩ = some (.int .i64 y.lo) ∧ w'.cell? ⟨b, o + J * 3 + 2, none⟩ = some (.int .i64 y.hi) ∧ w'.cell? ⟨b, o + i * 3, none⟩ = some (.int .i64 x.n) ∧ w'.cell? ⟨b, o + i * 3 + 1, none⟩ = some (.int .i64 x.lo) ∧ w'.cell? ⟨b, o + i * 3 + 2, none⟩ = some (.int .i64 x.hi))
            (first | with_reducible exact HH.out _ z2 | with_reducible exact HH.out _ z1 | with_reducible exact HH.out _ z0)
            (first
              | (go_at_call 48; with_reducible refine (L1.out _).mono ?_; rintro e x1 ⟨rfl, g1⟩; have z1 := z0.trans (g1.mono z0.size))
              | (go_at_call 48; with_reducible refine (L2.out _).mono ?_; rintro e x2 ⟨rfl, g2⟩; have z2 := z1.trans (g2.mono z1.size)))
          all_goals
            go_wp2_with fail
            have w0 : Below wr.heap.size wr (x2.drew) := z2.drew
            go_region_held (fun w' => w'.cell? ⟨b, o + J * 3, none⟩ = some (.int .i64 y.n) ∧ w'.cell? ⟨b, o + J * 3 + 1, none⟩ = some (.int .i64 y.lo) ∧ w'.cell? ⟨b, o + J * 3 + 2, none⟩ = some (.int .i64 y.hi) ∧ w'.cell? ⟨b, o + i * 3, none⟩ = some (.int .i64 x.n) ∧ w'.cell? ⟨b, o + i * 3 + 1, none⟩ = some (.int .i64 x.lo) ∧ w'.cell? ⟨b, o + i * 3 + 2, none⟩ = some (.int .i64 x.hi))
              (first | with_reducible exact HH.out _ z8 | with_reducible exact HH.out _ w0)
              ((go_at_call 21; with_reducible refine (K2.out _).mono ?_; rintro e x3 ⟨rfl, y8⟩; have z8 := w0.trans (y8.mono w0.size)))
            all_goals
              go_wp2
              refine ⟨⟨J + 1, by omega, by omega, by go_num, Lib.hid (fun t z h1 h2 hz => ?_), hbel.trans (z8.mono hbel.size)⟩, by simp [intOf]; omega⟩
              by_cases e : t = J
              · subst e
                rw [HY.out] at hz
                cases hz
                exact TH.out
              · exact HJ.out t z h1 (by omega) hz
      · rw [decide_eq_false h] at e3
        have HE := Lib.hid h
        clear h
        · skip
          go_wp2_with fail
          go_region_held (fun w' => w'.cell? ⟨b, o + J * 3, none⟩ = some (.int .i64 y.n) ∧ w'.cell? ⟨b, o + J * 3 + 1, none⟩ = some (.int .i64 y.lo) ∧ w'.cell? ⟨b, o + J * 3 + 2, none⟩ = some (.int .i64 y.hi) ∧ w'.cell? ⟨b, o + i * 3, none⟩ = some (.int .i64 x.n) ∧ w'.cell? ⟨b, o + i * 3 + 1, none⟩ = some (.int .i64 x.lo) ∧ w'.cell? ⟨b, o + i * 3 + 2, none⟩ = some (.int .i64 x.hi))
            (first | with_reducible exact HH.out _ z2 | with_reducible exact HH.out _ z1 | with_reducible exact HH.out _ z0)
            (first
              | (go_at_call 48; with_reducible refine (L1.out _).mono ?_; rintro e x1 ⟨rfl, g1⟩; have z1 := z0.trans (g1.mono z0.size))
              | (go_at_call 48; with_reducible refine (L2.out _).mono ?_; rintro e x2 ⟨rfl, g2⟩; have z2 := z1.trans (g2.mono z1.size)))
          all_goals
            go_wp2
            go_ret
            refine ⟨?_, hbel.trans (z2.mono hbel.size)⟩
            have : r = false := by
              rw [HRR.out]
              refine any_false fun t z hz => ?_
              rw [List.getElem?_drop] at hz
              cases hh : hoC z x with
              | false => rfl
              | true =>
                by_cases htJ : i + 1 + t < J
                · have := HJ.out (i + 1 + t) z (by omega) htJ hz
                  rw [this] at hh
                  cases hh
                · have q1 := hoC_ends hh
                  have q2 := (ltC_iff _ _).1 (HO.out i (i + 1 + t) x z (by omega) HX.out hz)
                  have q3 := (ltC_iff _ _).1 HLT.out
                  have q4 := HE.out
                  by_cases htE : i + 1 + t = J
                  · rw [htE, HY.out] at hz
                    cases hz
                    omega
                  · have q5 := (ltC_iff _ _).1 (HO.out J (i + 1 + t) y z (by omega) HY.out hz)
                    omega
            rw [this]
            rfl
    · have t0 : decide (J < n) = false := decide_eq_false hlt
      go_wp2
      go_quiet (fail)
      go_wp2
      go_ret
      refine ⟨?_, below_drewN hbel _⟩
      have : r = false := by
        rw [HRR.out]
        refine any_false fun t z hz => ?_
        rw [List.getElem?_drop] at hz
        have ht := (List.getElem?_eq_some_iff.1 hz).1
        exact HJ.out (i + 1 + t) z (by omega) (by have := HN.out; omega) hz
      rw [this]
      rfl
end Go.Proofs.Ytnojapffmcnbaaa
