/-
  The program's own build.
-/
import Derived.Test.YtmjneokjgcgchaaGreatDestOvl
namespace Go.Proofs.YtmjneokjgcgchaaGreat
open Go.RowKit
attribute [local go_sem ↓] Go.wp_at_zero Go.wp_at_succ

theorem RunB.cn {l : List Bp} {k : Nat} (h : RunB l k) (hk : k = l.length) : Ct l := by
  have := h.2.1
  rw [hk] at this
  exact this.cn
theorem RunB.pos {l : List Bp} {k : Nat} (h : RunB l k) (hs : ∀ s ∈ l, Sb s) (hl : 0 < l.length) : 0 < k := by
  rcases Nat.eq_zero_or_pos k with h0 | h0
  · subst h0
    exact absurd (fun s hx => ⟨hs s (List.mem_of_getElem? hx), fun j a e => by omega⟩) (h.2.2 hl)
  · exact h0
/-- What is built of some that lie in a block from a place on: there, or in a new block. -/
structure BldF (w : World) (b o : Nat) (d m : List Me) (A : Option Addr) (c b' o' : Nat) (w' : World) : Prop where
  hc : m.length ≤ c
  hn : A = none → c = 0
  rs : Rsd w' b' o' (o' + m.length * 4) A m
  ut : Utl w' m
  ct : Ct (pl m)
  tell : ∀ n v, lastB (pl m) n v = lastB (pl d) n v
  fz : Fz w w' b o (o + d.length * 4)
  lt : b' < w'.heap.size
  pos : 0 < m.length
  loc : (b' = b ∧ o' = o ∧ m.length ≤ d.length) ∨ w.heap.size ≤ b'
def BldB (w : World) (b o : Nat) (d : List Me) (e : Ending) (w' : World) : Prop :=
  ∃ m A c b' o', e = .returned (.slice A m.length c) ∧ BldF w b o d m A c b' o' w'
theorem pos_of_tell {m d : List Me} (h : ∀ n v, lastB (pl m) n v = lastB (pl d) n v) (hd : 0 < d.length) (hs : ∀ x ∈ d, Sb x.b) : 0 < m.length := by
  rcases Nat.eq_zero_or_pos m.length with h0 | h0
  · obtain rfl := List.eq_nil_of_length_eq_zero h0
    cases d with
    | nil => simp at hd
    | cons x d =>
      have h1 := h x.b.n x.b.lo
      have hx := hs x List.mem_cons_self
      have h2 := toB_yes hx (Int.le_refl _) hx.2.2.1
      have e : pl (x :: d) = x.b :: pl d := rfl
      rw [e, lastB, h2] at h1
      cases h3 : lastB (pl d) x.b.n x.b.lo <;> rw [h3] at h1 <;> cases h1
  · exact h0
theorem Rsd.at0 {w : World} {b o h : Nat} {A : Option Addr} {d : List Me} (hr : Rsd w b o h A d) (hn : 0 < d.length) (hh : h = o + d.length * 4) : A = some ⟨b, o, none⟩ ∧ Rt w b o d := by
  obtain ⟨p, e, h1, h2, h3⟩ := hr hn
  obtain rfl : p = o := by omega
  exact ⟨e, h3⟩
theorem own_rs {w : World} {base n : Nat} {v : Value} {m : List Me} (h : w.ownsRow base 73 4 v n (dvs m)) (hm : 0 < m.length) : ∃ g c, v = .slice (some ⟨g, 0, none⟩) m.length c ∧ n = m.length ∧ m.length ≤ c ∧ base ≤ g ∧ Rt w g 0 m := by
  obtain ⟨c, hn, hc, A, rfl, _, hrd⟩ := Rd.of_own h
  obtain ⟨g, o, e, _, _⟩ := hrd hm
  subst e
  rcases h.2 with ⟨h1, _⟩ | ⟨g', cap, cur, h1, h2, _⟩
  · simp at h1
  · injection h1 with h1 h3 h4
    injection h1 with h1
    injection h1 with h1 h5
    subst h1 h5 hn
    exact ⟨g, c, rfl, rfl, hc, h2, Rt.of_own h⟩
theorem ovl_two {w W x1 x2 : World} {d m1 m2 : List Me} {b o q b1 o1 b2 o2 c1 c2 : Nat} {A1 A2 : Option Addr} (hq : q ≤ d.length) (hq0 : 0 < q) (hl : d.length ≤ 200000) (hW : Below w.heap.size w W) (hR : Rt w b o d) (hs : ∀ x ∈ d, Sb x.b) (h1 : BldF W b o (d.take q) m1 A1 c1 b1 o1 x1) (h2 : BldF x1 b (o + q * 4) (d.drop q) m2 A2 c2 b2 o2 x2) :
    Calls Tryz.prog 141 #[.slice A1 m1.length c1, .slice A2 m2.length c2] x2 (BldB w b o d) := by
  have lt0 := hR.lt
  have s1 := h1.fz.size
  have s2 := h2.fz.size
  have s0 := hW.size
  have l1 : (d.take q).length = q := by rw [List.length_take]; omega
  have l2 : (d.drop q).length = d.length - q := List.length_drop ..
  have g1 := h1.loc
  have g2 := h2.loc
  rw [l1] at g1
  have f1 := h1.fz
  have f2 := h2.fz
  rw [l1] at f1
  rw [l2] at f2
  have b1lt := h1.lt
  have rs1 : Rsd x2 b1 o1 (o1 + m1.length * 4) A1 m1 := h1.rs.fz f2 (by omega)
  have few1 := h1.ct.few h1.tell
  have few2 := h2.ct.few h2.tell
  rw [pl_length, pl_length, l1] at few1
  rw [pl_length, pl_length, l2] at few2
  have tqW : Tq W b := (hR.below hW).tq
  have tq1 : Tq x1 b := f1.tq tqW
  refine (doverlay_any A1 A2 c1 c2 b1 o1 (o1 + m1.length * 4) b2 o2 (o2 + m2.length * 4) 900000 m1 m2 x2 rs1 h2.rs h1.hc h2.hc (h1.ut.ik (f2.ik tq1)) h2.ut h1.ct h2.ct (by omega) (by omega) (by omega) h2.lt (by omega)).mono ?_
  rintro e x3 ⟨v', m, rfl, hown, hu, hf, hct, ht⟩
  have tell : ∀ n v, lastB (pl m) n v = lastB (pl d) n v := fun n v => by
    rw [ht, h1.tell, h2.tell, ← lastB_append, ← pl_append, List.take_append_drop]
  have pos := pos_of_tell tell (by omega) hs
  obtain ⟨g, c, rfl, _, hc, hg, hrt⟩ := own_rs hown pos
  have f3 : Fz w x1 b o (o + q * 4) := (Fz.of_below (lo := o) (hi := o + q * 4) hW).trans f1 (Nat.le_refl _) (Nat.le_refl _) (Nat.le_refl _) (Nat.le_refl _)
  have f4 : Fz w x2 b o (o + d.length * 4) := f3.trans f2 (Nat.le_refl _) (by omega) (by omega) (by omega)
  have f5 : Fz w x3 b o (o + d.length * 4) := by
    rcases g1 with ⟨e1, e2, e3⟩ | g1
    · subst e1 e2
      exact f4.trans hf (Nat.le_refl _) (Nat.le_refl _) (Nat.le_refl _) (by omega)
    · exact f4.trans_new hf (by omega)
  exact ⟨m, _, c, g, 0, rfl, hc, (fun e => by cases e), fun _ => ⟨0, rfl, Nat.le_refl _, Nat.le_refl _, hrt⟩, hu, hct, tell, f5, hrt.lt, pos, .inr (by omega)⟩
set_option maxRecDepth 100000 in
set_option maxHeartbeats 4000000 in
theorem dBuild_step (N : Nat) (ih : ∀ (d : List Me), d.length < N → 0 < d.length → (∀ m ∈ d, Sb m.b) → ∀ (b o c : Nat) (w : World), Rt w b o d → Utl w d → d.length ≤ c → Calls Tryz.prog 115 #[.slice (some ⟨b, o, none⟩) d.length c] w (BldB w b o d))
    (d : List Me) (hN : d.length = N) (hp : 0 < d.length) (hs : ∀ m ∈ d, Sb m.b) (hl : d.length ≤ 200000) (b o c : Nat) (w : World) (hR : Rt w b o d) (hU : Utl w d) (hc : d.length ≤ c) :
    Calls Tryz.prog 115 #[.slice (some ⟨b, o, none⟩) d.length c] w (BldB w b o d) := by
  have K1 := Lib.hid (dRun_any (some ⟨b, o, none⟩) c d w ⟨hR.rd, hU.ul⟩ (by omega))
  have HR := Lib.hid hR
  have HU := Lib.hid hU
  have HS := Lib.hid hs
  obtain ⟨n, hnn⟩ : ∃ n, n = d.length := ⟨_, rfl⟩
  have HN := Lib.hid hnn
  rw [← hnn] at K1 hl hc hp ⊢
  have HIH := Lib.hid ih
  have HNN := Lib.hid (hnn.trans hN)
  have HLT := Lib.hid hR.lt
  clear hR hU hs hnn hN ih
  go_enter Tryz.func115, Tryz.ntmps115
  go_wp2_with fail
  refine K1.out.mono ?_
  rintro e w1 ⟨⟨k, hk, rfl⟩, hb1⟩
  have hkn : k ≤ n := by have := hk.1; rw [pl_length] at this; rw [HN.out]; exact this
  by_cases hkl : k = n
  · have t0 : ((k : Int) == (n : Int)) = true := by simp [hkl]
    have hcn := hk.cn (by rw [pl_length]; exact hkl.trans HN.out)
    have HCN := Lib.hid hcn
    clear hk hcn
    subst hkl
    go_wp2
    go_ret
    have hb2 := HR.out.below hb1
    exact ⟨d, _, c, b, o, by rw [← HN.out]; rfl, by rw [← HN.out]; exact hc, (fun e => by cases e), fun _ => ⟨o, rfl, Nat.le_refl _, Nat.le_refl _, hb2⟩, HU.out.ik (Ik.of_below hb1), HCN.out, fun _ _ => rfl, Fz.of_below hb1, hb2.lt, by rw [← HN.out]; exact hp, .inl ⟨rfl, rfl, Nat.le_refl _⟩⟩
  · have t0 : ((k : Int) == (n : Int)) = false := by simp; omega
    have hk0 : 0 < k := hk.pos (fun s hs => by obtain ⟨m, hm, rfl⟩ := List.mem_map.1 hs; exact HS.out m hm) (by rw [pl_length]; have := HN.out; omega)
    obtain ⟨q, hq⟩ : ∃ q, q = max k (n / 2) := ⟨_, rfl⟩
    have hq1 : 0 < q := by omega
    have hq2 : q < n := by omega
    have hmx : ∀ ts ty wx, (Builtin.max_ ts ty #[.int .i64 (k : Int), .int .i64 ((n : Int) / 2)]).run Tryz.prog wx = .ok (.int .i64 (q : Int)) wx := fun ts ty wx => by
      rw [run_max_int2]
      congr 2
      omega
    have hlen1 : (d.take q).length = q := by rw [List.length_take]; have := HN.out; omega
    have hlen2 : (d.drop q).length = n - q := by rw [List.length_drop]; have := HN.out; omega
    have hN2 := HNN.out
    have K2 : Hid (∀ W, Below w.heap.size w W → Calls Tryz.prog 115 #[.slice (some ⟨b, o, none⟩) q c] W (BldB W b o (d.take q))) := Lib.hid fun W hW => by
      have := HIH.out (d.take q) (by omega) (by omega) (fun s hx => HS.out s (List.mem_of_mem_take hx)) b o c W ((HR.out.below hW).take q) (fun m hm => (HU.out.ik (Ik.of_below hW)) m (List.mem_of_mem_take hm)) (by omega)
      rwa [hlen1] at this
    have K3 : Hid (∀ W, Rt W b (o + q * 4) (d.drop q) → Utl W d → Calls Tryz.prog 115 #[.slice (some ⟨b, o + q * 4, none⟩) (n - q) (c - q)] W (BldB W b (o + q * 4) (d.drop q))) := Lib.hid fun W hW hUW => by
      have := HIH.out (d.drop q) (by omega) (by omega) (fun s hx => HS.out s (List.mem_of_mem_drop hx)) b (o + q * 4) (c - q) W hW (fun m hm => hUW m (List.mem_of_mem_drop hm)) (by omega)
      rwa [hlen2] at this
    have hqn : q ≤ d.length := by have := HN.out; omega
    have hl4 : d.length ≤ 200000 := by have := HN.out; omega
    have K4 : Hid (∀ W x1 x2 m1 m2 b1 o1 b2 o2 c1 c2 A1 A2, Below w.heap.size w W → BldF W b o (d.take q) m1 A1 c1 b1 o1 x1 → BldF x1 b (o + q * 4) (d.drop q) m2 A2 c2 b2 o2 x2 → Calls Tryz.prog 141 #[.slice A1 m1.length c1, .slice A2 m2.length c2] x2 (BldB w b o d)) := Lib.hid fun W x1 x2 m1 m2 b1 o1 b2 o2 c1 c2 A1 A2 hW h1 h2 => ovl_two hqn hq1 hl4 hW HR.out HS.out h1 h2
    have K5 : Hid (∀ W x1 m1 b1 o1 c1 A1, Below w.heap.size w W → BldF W b o (d.take q) m1 A1 c1 b1 o1 x1 → Calls Tryz.prog 115 #[.slice (some ⟨b, o + q * 4, none⟩) (n - q) (c - q)] x1 (BldB x1 b (o + q * 4) (d.drop q))) := Lib.hid fun W x1 m1 b1 o1 c1 A1 hW h1 => by
      have f1 := h1.fz
      rw [hlen1] at f1
      have hrW := HR.out.below hW
      exact K3.out x1 ((hrW.drop q).fz f1 (by right; right; exact Nat.le_refl _)) ((HU.out.ik (Ik.of_below hW)).ik (f1.ik hrW.tq))
    have hqc : q ≤ c := by omega
    have hcq : ¬ c - q = 0 := by omega
    have z0 : Below w.heap.size w w1.drew := hb1.trans ((Below.refl w.heap.size w1).drew)
    have HQ := Lib.hid hq
    clear hk hq hlen1 hlen2 hN2 HIH K1 K3 hqn hl4
    go_wp2_with fail
    go_region_held (fun _ => True) (exact trivial)
      (first
        | (go_at_call 115; (with_reducible refine (K2.out _ z0).mono ?_); rintro e x1 ⟨m1, A1, a1, b1, o1, rfl, p1⟩)
        | (go_at_call 115; (with_reducible refine (K5.out _ _ _ _ _ _ _ z0 p1).mono ?_); rintro e x2 ⟨m2, A2, a2, b2, o2, rfl, q1⟩)
        | (go_at_call 141; (with_reducible refine (K4.out _ _ _ _ _ _ _ _ _ _ _ _ _ z0 p1 q1).mono ?_); rintro e x3 ⟨m3, A3, a3, b3, o3, rfl, r1⟩))
    all_goals
      go_wp2
      go_ret
      exact ⟨m3, A3, a3, b3, o3, rfl, r1⟩
theorem dBuild_any : ∀ (N : Nat) (d : List Me), d.length = N → 0 < d.length → (∀ m ∈ d, Sb m.b) → d.length ≤ 200000 → ∀ (b o c : Nat) (w : World), Rt w b o d → Utl w d → d.length ≤ c → Calls Tryz.prog 115 #[.slice (some ⟨b, o, none⟩) d.length c] w (BldB w b o d) := by
  intro N
  induction N using Nat.strongRecOn with
  | _ N ih => exact fun d hN hp hs hl b o c w hR hU hc => dBuild_step N (fun d' h1 h2 h3 b' o' c' w' r u k => ih d'.length h1 d' rfl h2 h3 (by omega) b' o' c' w' r u k) d hN hp hs hl b o c w hR hU hc
end Go.Proofs.YtmjneokjgcgchaaGreat
