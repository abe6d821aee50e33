/-
  The document's own Canon.
-/
import Derived.Test.YtnojapffmcnbaaaRefRect5
namespace Go.Proofs.Ytnojapffmcnbaaa
open Go.RowKit

theorem take_at {α : Type} {l : List α} {i k : Nat} {x : α} (h : l[i]? = some x) (hk : i < k) : x ∈ l.take k := by
  refine List.mem_of_getElem? (i := i) ?_
  rw [List.getElem?_take_of_lt hk]
  exact h
/-- One stays just if it may be, and is not held. -/
theorem kp_of {l : List Rc} {i : Nat} {x : Rc} (hx : l[i]? = some x) (hs : saneR x = true) {h : Bool} (hh : h = true ↔ Hd l i x) : kpB saneR hoC l (l.take i) x = !h := by
  have key : kpB saneR hoC l (l.take i) x = true ↔ ¬ Hd l i x := by
    rw [kpB_iff]
    constructor
    · rintro ⟨⟨_, h2⟩, h3⟩ ⟨k, y, hy, hki, hho, hor⟩
      rcases hor with hne | hlt
      · have := h2 y (List.mem_of_getElem? hy) hne
        rw [hho] at this
        cases this
      · by_cases hne : y = x
        · subst hne
          exact h3 (take_at hy hlt)
        · have := h2 y (List.mem_of_getElem? hy) hne
          rw [hho] at this
          cases this
    · intro hno
      refine ⟨⟨hs, fun s hsm hne => ?_⟩, fun hm => ?_⟩
      · cases hb : hoC s x with
        | false => rfl
        | true =>
          obtain ⟨k, hk, e⟩ := List.getElem_of_mem hsm
          have hy : l[k]? = some s := by rw [List.getElem?_eq_getElem hk, e]
          refine absurd ⟨k, s, hy, (fun e2 => ?_), hb, .inl hne⟩ hno
          subst e2
          rw [hx] at hy
          cases hy
          exact hne rfl
      · obtain ⟨k, hk, e⟩ := List.getElem_of_mem hm
        rw [List.length_take] at hk
        have hy : l[k]? = some x := by
          rw [List.getElem_take] at e
          rw [List.getElem?_eq_getElem (by omega), e]
        exact hno ⟨k, x, hy, (by omega), hol.refl x hs, .inr (by omega)⟩
  cases h with
  | true =>
    have := hh.1 rfl
    cases e : kpB saneR hoC l (l.take i) x with
    | false => rfl
    | true => exact absurd this (key.1 e)
  | false =>
    exact key.2 (fun hd => by have := hh.2 hd; cases this)
theorem kp_not {l pre : List Rc} {x : Rc} (hs : saneR x = false) : kpB saneR hoC l pre x = false := by unfold kpB; rw [hs]; rfl
set_option maxRecDepth 100000 in
set_option maxHeartbeats 2000000 in
theorem rCanon_any (A : Option Addr) (c : Nat) (l : List Rc) (w : World) (hA : Sr w w.heap.size A l) (hl : l.length ≤ 900) :
    Calls Try.prog 25 #[.slice A l.length c] w (RetR w (canL saneR hoC ltC l)) := by
  have HA := Lib.hid hA
  obtain ⟨n, hn⟩ : ∃ n, n = l.length := ⟨_, rfl⟩
  have HN := Lib.hid hn
  rw [← hn] at hl ⊢
  clear hn hA
  go_enter Try.func25, Try.ntmps25
  go_wp2
  go_loopw [3, 4] (fun v i wr => ∃ (k : Nat) (acc : List Rc) (B : Option Addr) (d : Nat), k ≤ n ∧ acc.length ≤ k ∧ acc.length ≤ d ∧ v = .slice B acc.length d ∧ i = .int .i64 (k : Int) ∧ Hid (canT saneR hoC ltC l (l.take k) (l.drop k) acc = canL saneR hoC ltC l) ∧ Hid (Sr wr wr.heap.size B acc) ∧ Below w.heap.size w wr) (fun _ i _ => n - (intOf i).toNat)
  case atStart => exact ⟨0, [], none, 0, Nat.zero_le _, Nat.le_refl _, Nat.le_refl _, rfl, rfl, Lib.hid rfl, Lib.hid Sr.nil, Below.refl _ _⟩
  case round =>
    obtain ⟨k, acc, B, d, hk, hacc, hacd, rfl, rfl, HE, HS, hbel⟩ := hrel
    by_cases hlt : k < n
    · have t0 : decide (k < n) = true := decide_eq_true hlt
      obtain ⟨x, hx⟩ : ∃ x, l[k]? = some x := ⟨_, List.getElem?_eq_getElem (by have := HN.out; omega)⟩
      have hE := HE.out
      have ht : l.take (k + 1) = l.take k ++ [x] := by rw [List.take_add_one, hx]; rfl
      rw [drop_cons hx, canT, ← ht] at hE
      obtain ⟨b, o, rfl, hbb, hR3⟩ := (HA.out.below hbel).at hx
      obtain ⟨y0, y1, y2⟩ := id hR3
      have hbz : b < wr.heap.size := Nat.lt_of_lt_of_le hbb hbel.size
      have ks := rcSaneR_any x
      have HXX := Lib.hid hx
      obtain ⟨q, hq⟩ : ∃ q, q = acc.length := ⟨_, rfl⟩
      have HQ := Lib.hid hq
      rw [← hq] at hacc hacd ⊢
      cases hs : saneR x with
      | false =>
        rw [kp_not hs, if_neg (by decide)] at hE
        rw [hs] at ks
        have KS := Lib.hid ks
        have HE2 := Lib.hid hE
        clear ks hs hE hx ht hR3 hq
        go_wp2_with fail
        refine (KS.out _).mono ?_
        rintro e w2 ⟨rfl, hb2⟩
        clear y0 y1 y2
        go_wp2
        refine ⟨⟨k + 1, acc, B, d, by omega, by have := HQ.out; omega, by have := HQ.out; omega, by rw [HQ.out], by go_num, HE2, Lib.hid (HS.out.over hb2), hbel.trans (hb2.mono hbel.size)⟩, by simp [intOf]; omega⟩
      | true =>
        rw [hs] at ks
        have KS := Lib.hid ks
        have HE2 := Lib.hid hE
        have HSX := Lib.hid hs
        clear ks hs hE hx ht hR3 hq
        go_wp2_with fail
        refine (KS.out _).mono ?_
        rintro e w2 ⟨rfl, hb2⟩
        have hbel2 := hbel.trans (hb2.mono hbel.size)
        have hS2 := HS.out.over hb2
        have HS2 := Lib.hid hS2
        have kh := rheld_any (some ⟨b, o, none⟩) c l k x w2 (HA.out.over hbel2) (by have := HN.out; omega) HXX.out
        rw [← HN.out] at kh
        have KH := Lib.hid kh
        clear y0 y1 y2 hb2 hS2 kh hbel HS
        go_wp2_with fail
        refine (KH.out).mono ?_
        rintro e w3 ⟨h, rfl, hh, hb3⟩
        have hkp := kp_of HXX.out HSX.out hh
        have hE2 := HE2.out
        rw [hkp] at hE2
        have hbel3 := hbel2.trans (hb3.mono hbel2.size)
        have HS3 := Lib.hid (HS2.out.over hb3)
        clear hh hkp hb3 hbel2 HE2 HS2
        cases h with
        | true =>
          rw [if_neg (by decide)] at hE2
          have HE3 := Lib.hid hE2
          clear hE2
          go_wp2
          refine ⟨⟨k + 1, acc, B, d, by omega, by have := HQ.out; omega, by have := HQ.out; omega, by rw [HQ.out], by go_num, HE3, HS3, hbel3⟩, by simp [intOf]; omega⟩
        | false =>
          rw [if_pos (by decide)] at hE2
          have HE3 := Lib.hid hE2
          obtain ⟨y0, y1, y2⟩ : R3 w3 b (o + k * 3) x := by
            obtain ⟨b', o', eA, _, g⟩ := (HA.out.below hbel3).at HXX.out
            injection eA with eA
            injection eA with eA1 eA2
            subst eA1 eA2
            exact g
          have ki := rinsert_any B d acc x w3 HS3.out (by have := HQ.out; omega)
          rw [← HQ.out] at ki
          have KI := Lib.hid ki
          clear hE2 ki
          go_wp2_with fail
          refine (KI.out).mono ?_
          rintro e w4 ⟨B4, d4, rfl, hd4, hs4, hb4⟩
          have hil := insL_length ltC x acc
          have HIL := Lib.hid hil
          obtain ⟨acc2, ha2⟩ : ∃ acc2, acc2 = insL ltC x acc := ⟨_, rfl⟩
          rw [← ha2] at hd4 hs4 HE3 HIL ⊢
          obtain ⟨q2, hq2⟩ : ∃ q2, q2 = acc2.length := ⟨_, rfl⟩
          have HQ2 := Lib.hid hq2
          rw [← hq2] at hd4 ⊢
          clear ha2 hq2 hil y0 y1 y2
          go_wp2
          refine ⟨⟨k + 1, acc2, B4, d4, by omega, by have := HQ.out; have := HQ2.out; have := HIL.out; omega, by have := HQ2.out; omega, by rw [HQ2.out], by go_num, HE3, Lib.hid hs4, hbel3.trans (hb4.mono hbel3.size)⟩, by simp [intOf]; omega⟩
    · have t0 : decide (k < n) = false := decide_eq_false hlt
      have hE := HE.out
      rw [List.drop_eq_nil_of_le (by have := HN.out; omega), canT] at hE
      have HE2 := Lib.hid hE
      clear hE
      go_wp2
      go_ret
      rw [← HE2.out]
      exact ⟨B, d, rfl, hacd, HS.out, hbel⟩
end Go.Proofs.Ytnojapffmcnbaaa
