/-
  The program's own heldAhead and heldBehind.
-/
import Derived.Test.YtnojapffmcnbaaaRectReach2
namespace Go.Proofs.Ytnojapffmcnbaaa
open Go.RowKit Go.Sort
attribute [local go_sem ↓] Go.wp_at_zero Go.wp_at_succ

theorem any_false {l : List Rc} {f : Rc → Bool} (h : ∀ (j : Nat) (y : Rc), l[j]? = some y → f y = false) : l.any f = false := by
  cases e : l.any f with
  | false => rfl
  | true =>
    rw [List.any_eq_true] at e
    obtain ⟨y, hy, hf⟩ := e
    obtain ⟨j, hj, ey⟩ := List.getElem_of_mem hy
    have := h j y (by rw [List.getElem?_eq_getElem hj, ey])
    rw [this] at hf
    cases hf
theorem any_true {l : List Rc} {f : Rc → Bool} {j : Nat} {y : Rc} (h : l[j]? = some y) (hf : f y = true) : l.any f = true := List.any_eq_true.2 ⟨y, List.mem_of_getElem? h, hf⟩
set_option maxRecDepth 100000 in
set_option maxHeartbeats 4000000 in
theorem heldAhead_any (A A2 : Option Addr) (c c2 : Nat) (l : List Rc) (F : List (Int × Int)) (i : Nat) (x : Rc) (w : World) (hA : Sr w w.heap.size A l) (hQ : Sq w w.heap.size A2 F) (hl : l.length ≤ 1000) (hF : F.length = l.length) (hR : Rch F l) (hs : ∀ x ∈ l, Sml x) (hx : l[i]? = some x) :
    Calls Try.prog 38 #[.slice A l.length c, .slice A2 F.length c2, .int .i64 (i : Int)] w fun e w' => e = .returned (.bool ((l.take i).any fun y => hoC y x)) ∧ Below w.heap.size w w' := by
  have hil := (List.getElem?_eq_some_iff.1 hx).1
  obtain ⟨b, o, rfl, hb, ⟨y0, y1, y2⟩⟩ := hA.at hx
  have K1 := Lib.hid (highest_any x.n x.lo x.hi)
  have hxs := hs x (List.mem_of_getElem? hx)
  have HA := Lib.hid hA
  have HQ := Lib.hid hQ
  have HR := Lib.hid hR
  have HS := Lib.hid hs
  have HX := Lib.hid hx
  have HXS := Lib.hid hxs
  have HFL := Lib.hid hF
  rw [hF]
  obtain ⟨n, hn⟩ : ∃ n, n = l.length := ⟨_, rfl⟩
  rw [← hn] at hl hil ⊢
  have HN := Lib.hid hn
  clear hn hA hQ hR hs hx hxs hF
  obtain ⟨r, hr⟩ : ∃ r, r = (l.take i).any fun y => hoC y x := ⟨_, rfl⟩
  rw [← hr]
  have HRR := Lib.hid hr
  clear hr
  go_enter Try.func38, Try.ntmps38
  go_wp2_with fail
  refine (K1.out _).mono ?_
  rintro e w1 ⟨rfl, hgw⟩
  have hb1 : Below w.heap.size w w1 := Gw.below hgw
  clear hgw y0 y1 y2
  go_wp2
  go_loopw [8] (fun s wr => ∃ J : Nat, J ≤ i ∧ s = .int .i64 ((J : Int) - 1) ∧ Hid (∀ (t : Nat) (y : Rc), J ≤ t → t < i → l[t]? = some y → hoC y x = false) ∧ Below w.heap.size w wr) (fun s _ => (intOf s + 1).toNat)
  case atStart => exact ⟨i, Nat.le_refl _, rfl, Lib.hid (fun t y h1 h2 => by omega), hb1⟩
  case round =>
    clear hb1
    obtain ⟨J, hJ, rfl, HJ, hbel⟩ := hrel
    cases J with
    | zero =>
      have t0 : decide ((0 : Int) ≤ ((0 : Nat) : Int) - 1) = false := by decide
      go_wp2
      go_ret
      refine ⟨?_, hbel⟩
      have : r = false := by
        rw [HRR.out]
        refine any_false fun t y hy => ?_
        have ht := (List.getElem?_eq_some_iff.1 hy).1
        rw [List.length_take] at ht
        rw [List.getElem?_take_of_lt (by omega)] at hy
        exact HJ.out t y (by omega) (by omega) hy
      rw [this]
      rfl
    | succ j =>
      have ej : (((j + 1 : Nat) : Int) - 1) = (j : Int) := by omega
      rw [ej]
      have t0 : decide ((0 : Int) ≤ (j : Int)) = true := decide_eq_true (by omega)
      obtain ⟨p, hp⟩ : ∃ p, F[j]? = some p := ⟨_, List.getElem?_eq_getElem (by have := HFL.out; have := HN.out; omega)⟩
      obtain ⟨b2, o2, rfl, _, v0⟩ := (HQ.out.below hbel).at hp
      obtain ⟨y, hy⟩ : ∃ y, l[j]? = some y := ⟨_, List.getElem?_eq_getElem (by have := HN.out; omega)⟩
      have hps := Rch.small HR.out HS.out hp
      have f1 := fun W => first_any p.1 p.2 x.n x.hi W hps.1.1 hps.1.2 hps.2.1 hps.2.2 HXS.out.n0 HXS.out.n1 HXS.out.h0 HXS.out.h1
      have HP := Lib.hid hp
      have HY := Lib.hid hy
      clear hps hp hy ej
      cases ta : ahB p.1 p.2 x.n x.hi with
      | true =>
        rw [ta] at f1
        have F1 := Lib.hid f1
        have TA := Lib.hid ta
        clear f1 ta
        go_wp2_with (go_at_call 47; refine (F1.out _).mono ?_; rintro e w2 ⟨rfl, rfl⟩)
        go_ret
        refine ⟨?_, hbel⟩
        have : r = false := by
          rw [HRR.out]
          refine any_false fun t z hz => ?_
          have ht := (List.getElem?_eq_some_iff.1 hz).1
          rw [List.length_take] at ht
          rw [List.getElem?_take_of_lt (by omega)] at hz
          by_cases htj : t ≤ j
          · cases hh : hoC z x with
            | false => rfl
            | true =>
              have q1 := hoC_ends hh
              have q2 := (ahB_not _ _ _ _).1 ((HR.out j p HP.out).2 t z htj hz)
              have q3 := (ahB_iff _ _ _ _).1 TA.out
              omega
          · exact HJ.out t z (by omega) (by omega) hz
        rw [this]
        rfl
      | false =>
        rw [ta] at f1
        have F1 := Lib.hid f1
        clear f1 ta
        have k2 := Holds_any y x
        obtain ⟨b', o', eA, _, q1⟩ := (HA.out.below hbel).at HY.out
        obtain ⟨b'', o'', eA', _, q2⟩ := (HA.out.below hbel).at HX.out
        injection eA with eA
        injection eA with eA1 eA2
        subst eA1 eA2
        injection eA' with eA'
        injection eA' with eA1 eA2
        subst eA1 eA2
        have hbz : b < wr.heap.size := Nat.lt_of_lt_of_le hb hbel.size
        have hSS : ∀ w', Below wr.heap.size wr w' → w'.cell? ⟨b, o + j * 3, none⟩ = some (.int .i64 y.n) ∧ w'.cell? ⟨b, o + j * 3 + 1, none⟩ = some (.int .i64 y.lo) ∧ w'.cell? ⟨b, o + j * 3 + 2, none⟩ = some (.int .i64 y.hi) ∧ w'.cell? ⟨b, o + i * 3, none⟩ = some (.int .i64 x.n) ∧ w'.cell? ⟨b, o + i * 3 + 1, none⟩ = some (.int .i64 x.lo) ∧ w'.cell? ⟨b, o + i * 3 + 2, none⟩ = some (.int .i64 x.hi) := fun w' h => by
          have g1 := q1.keep (w' := w') fun t => h.cell (p := ⟨b, t, none⟩) hbz
          have g2 := q2.keep (w' := w') fun t => h.cell (p := ⟨b, t, none⟩) hbz
          exact ⟨g1.c0, g1.c1, g1.c2, g2.c0, g2.c1, g2.c2⟩
        have z0 : Below wr.heap.size wr wr.drew := (Below.refl _ _).drew
        have HH := Lib.hid hSS
        clear hSS q1 q2
        cases th : hoC y x with
        | true =>
          rw [th] at k2
          have K2 := Lib.hid k2
          have TH := Lib.hid th
          clear k2 th
          go_wp2_with (go_at_call 47; refine (F1.out _).mono ?_; rintro e w2 ⟨rfl, rfl⟩)
          go_region_held (fun w' => w'.cell? ⟨b, o + j * 3, none⟩ = some (.int .i64 y.n) ∧ w'.cell? ⟨b, o + j * 3 + 1, none⟩ = some (.int .i64 y.lo) ∧ w'.cell? ⟨b, o + j * 3 + 2, none⟩ = some (.int .i64 y.hi) ∧ w'.cell? ⟨b, o + i * 3, none⟩ = some (.int .i64 x.n) ∧ w'.cell? ⟨b, o + i * 3 + 1, none⟩ = some (.int .i64 x.lo) ∧ w'.cell? ⟨b, o + i * 3 + 2, none⟩ = some (.int .i64 x.hi))
            (first | with_reducible exact HH.out _ z8 | with_reducible exact HH.out _ z0)
            ((go_at_call 21; with_reducible refine (K2.out _).mono ?_; rintro e x2 ⟨rfl, y8⟩; have z8 := z0.trans (y8.mono z0.size)))
          all_goals
            go_wp2
            go_ret
            refine ⟨?_, hbel.trans (z8.mono hbel.size)⟩
            have : r = true := by
              rw [HRR.out]
              exact any_true (j := j) (by rw [List.getElem?_take_of_lt (by omega)]; exact HY.out) TH.out
            rw [this]
            rfl
        | false =>
          rw [th] at k2
          have K2 := Lib.hid k2
          have TH := Lib.hid th
          clear k2 th
          go_wp2_with (go_at_call 47; refine (F1.out _).mono ?_; rintro e w2 ⟨rfl, rfl⟩)
          go_region_held (fun w' => w'.cell? ⟨b, o + j * 3, none⟩ = some (.int .i64 y.n) ∧ w'.cell? ⟨b, o + j * 3 + 1, none⟩ = some (.int .i64 y.lo) ∧ w'.cell? ⟨b, o + j * 3 + 2, none⟩ = some (.int .i64 y.hi) ∧ w'.cell? ⟨b, o + i * 3, none⟩ = some (.int .i64 x.n) ∧ w'.cell? ⟨b, o + i * 3 + 1, none⟩ = some (.int .i64 x.lo) ∧ w'.cell? ⟨b, o + i * 3 + 2, none⟩ = some (.int .i64 x.hi))
            (first | with_reducible exact HH.out _ z8 | with_reducible exact HH.out _ z0)
            ((go_at_call 21; with_reducible refine (K2.out _).mono ?_; rintro e x2 ⟨rfl, y8⟩; have z8 := z0.trans (y8.mono z0.size)))
          all_goals
            go_wp2
            refine ⟨⟨j, by omega, by go_num, Lib.hid (fun t z h1 h2 hz => ?_), hbel.trans (z8.mono hbel.size)⟩, by simp [intOf]⟩
            by_cases e : t = j
            · subst e
              rw [HY.out] at hz
              cases hz
              exact TH.out
            · exact HJ.out t z (by omega) h2 hz
end Go.Proofs.Ytnojapffmcnbaaa
