/-
  The program's own build.
-/
import Derived.Test.YtmjneokjgcgchaaGreatPart2
import Derived.Test.YtmjneokjgcgchaaGreatPart3
namespace Go.Proofs.YtmjneokjgcgchaaGreat
open Go.RowKit
attribute [local go_sem ↓] Go.wp_at_zero Go.wp_at_succ

/-- What is built of some. -/
def Bld (w : World) (st : Bool) (l : List Sp) (e : Ending) (w' : World) : Prop := ∃ m, Cn st m ∧ (∀ n v, lastS st m n v = lastS st l n v) ∧ RetS w m e w'
theorem RunR.cn {st : Bool} {l : List Sp} {k : Nat} (h : RunR st l k) (hk : k = l.length) : Cn st l := by
  have := h.2.1
  rw [hk] at this
  exact this.cn
theorem RunR.pos {st : Bool} {l : List Sp} {k : Nat} (h : RunR st l k) (hs : ∀ s ∈ l, Sn st s) (hl : 0 < l.length) : 0 < k := by
  rcases Nat.eq_zero_or_pos k with h0 | h0
  · subst h0
    exact absurd (fun s hx => ⟨hs s (List.mem_of_getElem? hx), fun j a e => by omega⟩) (h.2.2 hl)
  · exact h0
set_option maxRecDepth 100000 in
set_option maxHeartbeats 4000000 in
theorem build_step (st : Bool) (N : Nat) (ih : ∀ (l : List Sp), l.length < N → (∀ s ∈ l, Sn st s) → l.length ≤ 4000 → ∀ (A : Option Addr) (c : Nat) (w : World), Ss w w.heap.size A l → l.length ≤ c → (A = none → c = 0) → Calls Tryz.prog 113 #[.slice A l.length c, .bool st] w (Bld w st l))
    (l : List Sp) (hN : l.length = N) (hs : ∀ s ∈ l, Sn st s) (hl : l.length ≤ 4000) (A : Option Addr) (c : Nat) (w : World) (hA : Ss w w.heap.size A l) (hc : l.length ≤ c) (hn : A = none → c = 0) :
    Calls Tryz.prog 113 #[.slice A l.length c, .bool st] w (Bld w st l) := by
  have K1 := Lib.hid (run_any st A c l w hA (by omega))
  have HA := Lib.hid hA
  have HS := Lib.hid hs
  obtain ⟨n, hnn⟩ : ∃ n, n = l.length := ⟨_, rfl⟩
  have HN := Lib.hid hnn
  rw [← hnn] at K1 hl hc ⊢
  have HIH := Lib.hid ih
  have HNN := Lib.hid (hnn.trans hN)
  clear hA hs hnn hN ih
  go_enter Tryz.func113, Tryz.ntmps113
  go_wp2_with fail
  refine K1.out.mono ?_
  rintro e w1 ⟨⟨k, hk, rfl⟩, hb1⟩
  have hkn : k ≤ n := by have := hk.1; rw [HN.out]; exact this
  by_cases hkl : k = n
  · have t0 : ((k : Int) == (n : Int)) = true := by simp [hkl]
    have hcn := hk.cn (hkl.trans HN.out)
    have HCN := Lib.hid hcn
    clear hk hcn
    subst hkl
    go_wp2
    go_ret
    refine ⟨l, HCN.out, fun _ _ => rfl, A, c, by rw [← HN.out]; rfl, by rw [← HN.out]; exact hc, hn, HA.out.over hb1, hb1⟩
  · have t0 : ((k : Int) == (n : Int)) = false := by simp; omega
    have hk0 : 0 < k := hk.pos HS.out (by have := HN.out; omega)
    obtain ⟨q, hq⟩ : ∃ q, q = max k (n / 2) := ⟨_, rfl⟩
    have hq1 : 0 < q := by omega
    have hq2 : q < n := by omega
    have hmx : ∀ ts ty wx, (Builtin.max_ ts ty #[.int .i64 (k : Int), .int .i64 ((n : Int) / 2)]).run Tryz.prog wx = .ok (.int .i64 (q : Int)) wx := fun ts ty wx => by
      rw [run_max_int2]
      congr 2
      omega
    obtain ⟨b, o, eA, _, _⟩ := HA.out (by have := HN.out; omega)
    subst eA
    have hlen1 : (l.take q).length = q := by rw [List.length_take]; have := HN.out; omega
    have hlen2 : (l.drop q).length = n - q := by rw [List.length_drop]; have := HN.out; omega
    have hN2 := HNN.out
    have K2 : Hid (∀ W, Below w.heap.size w W → Calls Tryz.prog 113 #[.slice (some ⟨b, o, none⟩) q c, .bool st] W (Bld W st (l.take q))) := Lib.hid fun W hW => by
      have := HIH.out (l.take q) (by omega) (fun s hx => HS.out s (List.mem_of_mem_take hx)) (by omega) (some ⟨b, o, none⟩) c W ((HA.out.over hW).take q) (by omega) (fun e => by cases e)
      rwa [hlen1] at this
    have K3 : Hid (∀ W, Below w.heap.size w W → Calls Tryz.prog 113 #[.slice (some ⟨b, o + q * 4, none⟩) (n - q) (c - q), .bool st] W (Bld W st (l.drop q))) := Lib.hid fun W hW => by
      have := HIH.out (l.drop q) (by omega) (fun s hx => HS.out s (List.mem_of_mem_drop hx)) (by omega) (some ⟨b, o + q * 4, none⟩) (c - q) W ((HA.out.over hW).drop q) (by omega) (fun e => by cases e)
      rwa [hlen2] at this
    have K4 : Hid (∀ (m1 m2 : List Sp) (A1 A2 : Option Addr) (c1 c2 : Nat) W, Ss W W.heap.size A1 m1 → Ss W W.heap.size A2 m2 → m2.length ≤ c2 → Cn st m1 → Cn st m2 → (∀ n v, lastS st m1 n v = lastS st (l.take q) n v) → (∀ n v, lastS st m2 n v = lastS st (l.drop q) n v) → Calls Tryz.prog 140 #[.slice A1 m1.length c1, .slice A2 m2.length c2, .bool st] W (fun e w' => Bld W st l e w' ∧ Below W.heap.size W w')) := Lib.hid fun m1 m2 A1 A2 c1 c2 W h1 h2 h3 h4 h5 h6 h7 => by
      refine (overlay_any st A1 A2 c1 c2 m1 m2 W h1 h2 h3 h4 h5 (by have := h4.few h6; omega) (by have := h5.few h7; omega)).mono ?_
      intro e w' hr
      obtain ⟨g1, g2⟩ := overL_spec h4 h5
      refine ⟨⟨overL st m1 m2, g1, fun x y => ?_, hr⟩, by obtain ⟨_, _, _, _, _, _, h⟩ := hr; exact h⟩
      rw [g2, h6, h7, ← lastS_append, List.take_append_drop]
    have hqc : q ≤ c := by omega
    have hcq : ¬ c - q = 0 := by omega
    have z0 : Below w.heap.size w w1.drew := hb1.trans ((Below.refl w.heap.size w1).drew)
    have HQ := Lib.hid hq
    clear hk hq hlen1 hlen2 hN2 HIH K1
    go_wp2_with fail
    go_region_held (fun _ => True) (exact trivial)
      (first
        | (go_at_call 113; (with_reducible refine (K2.out _ z0).mono ?_); rintro e x1 ⟨m1, p1, p2, A1, a1, rfl, p3, p4, p5, p6⟩; have z1 := z0.trans (p6.mono z0.size))
        | (go_at_call 113; (with_reducible refine (K3.out _ z1).mono ?_); rintro e x2 ⟨m2, q1, q2, A2, a2, rfl, q3, q4, q5, q6⟩; have z2 := z1.trans (q6.mono z1.size))
        | (go_at_call 140; refine (K4.out m1 m2 _ _ _ _ _ (p5.over q6) q5 q3 p1 q1 p2 q2).mono ?_; rintro e x3 ⟨⟨m3, r1, r2, A3, a3, rfl, r3, r4, r5, _⟩, r6⟩; have z3 := z2.trans (r6.mono z2.size)))
    all_goals
      go_wp2
      go_ret
      exact ⟨m3, r1, r2, A3, a3, rfl, r3, r4, r5, z3⟩
theorem build_any (st : Bool) : ∀ (N : Nat) (l : List Sp), l.length = N → (∀ s ∈ l, Sn st s) → l.length ≤ 4000 → ∀ (A : Option Addr) (c : Nat) (w : World), Ss w w.heap.size A l → l.length ≤ c → (A = none → c = 0) → Calls Tryz.prog 113 #[.slice A l.length c, .bool st] w (Bld w st l) := by
  intro N
  induction N using Nat.strongRecOn with
  | _ N ih => exact fun l hN hs hl A c w hA hc hn => build_step st N (fun l' h1 h2 h3 A' c' w' => ih l'.length h1 l' rfl h2 h3 A' c' w') l hN hs hl A c w hA hc hn
end Go.Proofs.YtmjneokjgcgchaaGreat
