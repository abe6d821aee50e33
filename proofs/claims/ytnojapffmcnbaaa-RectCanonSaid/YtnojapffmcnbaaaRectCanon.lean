/-
  The walk of the statement RectCanon.
-/
import Derived.Test.YtnojapffmcnbaaaRefRect6
namespace Go.Proofs.Ytnojapffmcnbaaa
open Go.RowKit

set_option maxRecDepth 100000 in
set_option maxHeartbeats 1000000 in
theorem canon_walk (A : Option Addr) (c : Nat) (l : List Rc) (w : World) (hA : Sr w w.heap.size A l) :
    Calls Try.prog 4 #[.slice A l.length c] w fun e w' => e = .returned (.bool true) ∧ Below w.heap.size w w' := by
  rcases Nat.lt_or_ge 100 l.length with h | h
  · have t0 : decide ((100 : Int) < (l.length : Int)) = true := decide_eq_true (by omega)
    go_enter Try.func4, Try.ntmps4
    go_wp2_with fail
    refine (awake_any _).mono ?_
    rintro e w1 ⟨rfl, hb1⟩
    go_wp2
    go_ret
    exact ⟨rfl, hb1⟩
  · have t0 : decide ((100 : Int) < (l.length : Int)) = false := decide_eq_false (by omega)
    have HA := Lib.hid hA
    obtain ⟨n, hn⟩ : ∃ n, n = l.length := ⟨_, rfl⟩
    have HN := Lib.hid hn
    rw [← hn] at t0 h ⊢
    clear hn hA
    go_enter Try.func4, Try.ntmps4
    go_wp2_with fail
    refine (awake_any _).mono ?_
    rintro e w1 ⟨rfl, hb1⟩
    have kc := Canon_any A c l w1 (HA.out.over hb1) (by have := HN.out; omega)
    rw [← HN.out] at kc
    have KC := Lib.hid kc
    clear kc
    go_wp2_with fail
    refine (KC.out).mono ?_
    rintro e w2 ⟨m, hcn, hml, A2, c2, rfl, hc2, hsr, hb2⟩
    have b2 := hb1.trans (hb2.mono hb1.size)
    have em : m = canL saneR hoC ltC l := hcn.unique hol (canL_cnn hol l)
    have kr := rCanon_any A c l w2 (HA.out.over b2) (by have := HN.out; omega)
    rw [← em, ← HN.out] at kr
    have KR := Lib.hid kr
    have HS := Lib.hid hsr
    obtain ⟨q, hq⟩ : ∃ q, q = m.length := ⟨_, rfl⟩
    have HQ := Lib.hid hq
    rw [← hq] at hc2 hml ⊢
    have hq2 : q ≤ 100 := by have := HN.out; omega
    clear kr em hcn hsr hml hq
    go_wp2_with fail
    refine (KR.out).mono ?_
    rintro e w3 ⟨A3, c3, rfl, hc3, hs3, hb3⟩
    have b3 := b2.trans (hb3.mono b2.size)
    have hsm := rSame_yes (c1 := c2) (c2 := c3) (HS.out.over hb3) hs3 (by have := HQ.out; omega)
    rw [← HQ.out] at hsm hc3 ⊢
    have HSM := Lib.hid hsm
    clear hsm hs3 hb3
    go_wp2_with fail
    refine (HSM.out).mono ?_
    rintro e w4 ⟨rfl, hb4⟩
    go_wp2
    go_ret
    exact ⟨rfl, b3.trans (hb4.mono b3.size)⟩
end Go.Proofs.Ytnojapffmcnbaaa
