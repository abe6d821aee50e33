/-
  The walk of the statement RectWhole.
-/
import Derived.Test.YtnojapffmcnbaaaRectStep
import Derived.Deep.RegionHeld
import Derived.Deep.DrawnRows
namespace Go.Proofs.Ytnojapffmcnbaaa
open Go.RowKit
attribute [local go_sem ↓] Go.wp_at_zero Go.wp_at_succ

theorem Cnn.at_ne {l m : List Rc} (h : Cnn saneR hoC ltC l m) {s t : Nat} {x y : Rc} (hx : m[s]? = some x) (hy : m[t]? = some y) (hne : s ≠ t) : hoC x y = false := by
  refine h.apart (List.mem_of_getElem? hx) (List.mem_of_getElem? hy) (fun e => ?_)
  subst e
  obtain ⟨h1, e1⟩ := List.getElem?_eq_some_iff.1 hx
  obtain ⟨h2, e2⟩ := List.getElem?_eq_some_iff.1 hy
  rcases Nat.lt_or_gt_of_ne hne with hlt | hlt
  · have := List.pairwise_iff_getElem.1 h.ord s t h1 h2 hlt
    rw [e1, e2, hol.irr] at this
    cases this
  · have := List.pairwise_iff_getElem.1 h.ord t s h2 h1 hlt
    rw [e1, e2, hol.irr] at this
    cases this
theorem whole_any {l m : List Rc} (h : Cnn saneR hoC ltC l m) (n v : Int) : (m.any fun y => inC y n v) = l.any fun y => inC y n v :=
  h.whole hol (fun r hr => ((inC_iff r n v).1 hr).1) (fun _ _ hs hr => inC_held hs hr)
set_option maxRecDepth 100000 in
set_option maxHeartbeats 1000000 in
theorem whole_long (A : Option Addr) (c : Nat) (l : List Rc) (cn cv : Int) (w : World) (h : 60 < l.length) :
    Calls Try.prog 7 #[.slice A l.length c, .agg #[.int .i64 cn, .int .i64 cv]] w fun e w' => e = .returned (.bool true) ∧ Below w.heap.size w w' := by
  have t0 : decide ((60 : Int) < (l.length : Int)) = true := decide_eq_true (by omega)
  go_enter Try.func7, Try.ntmps7
  go_wp2_with fail
  refine (awake_any _).mono ?_
  rintro e w1 ⟨rfl, hb1⟩
  go_wp2
  go_ret
  exact ⟨rfl, below_step (Below.refl _ _) (Nat.le_refl _) hb1⟩
set_option maxRecDepth 100000 in
set_option maxHeartbeats 4000000 in
theorem whole_short (A : Option Addr) (c : Nat) (l : List Rc) (cn cv : Int) (w : World) (hA : Sr w w.heap.size A l) (h : l.length ≤ 60) :
    Calls Try.prog 7 #[.slice A l.length c, .agg #[.int .i64 cn, .int .i64 cv]] w fun e w' => e = .returned (.bool true) ∧ Below w.heap.size w w' := by
  have t0 : decide ((60 : Int) < (l.length : Int)) = false := decide_eq_false (by omega)
  have HA := Lib.hid hA
  obtain ⟨n, hn⟩ : ∃ n, n = l.length := ⟨_, rfl⟩
  have HN := Lib.hid hn
  rw [← hn] at t0 h ⊢
  clear hn hA
  obtain ⟨inn, hinn⟩ : ∃ inn : Rc → Bool, inn = fun y => inC y cn cv := ⟨_, rfl⟩
  have HIN : Hid (∀ (y : Rc) (W : World), Calls Try.prog 15 #[.agg #[.int .i64 y.n, .int .i64 y.lo, .int .i64 y.hi], .agg #[.int .i64 cn, .int .i64 cv]] W fun e w' => e = .returned (.bool (inn y)) ∧ Below W.heap.size W w') := Lib.hid (fun y W => by rw [hinn]; exact In_any y cn cv W)
  have HINN := Lib.hid hinn
  clear hinn
  go_enter Try.func7, Try.ntmps7
  go_wp2_with fail
  refine (awake_any _).mono ?_
  rintro e w1 ⟨rfl, hb1⟩
  have c1 : Bc2 w1 w.heap.size cn cv := Bc2.new w hb1
  have z1 : w.heap.size < w1.heap.size := size_step hb1
  have b1 : Below w.heap.size w w1 := below_step (Below.refl _ _) (Nat.le_refl _) hb1
  have hcan := Canon_any A c l w1 (HA.out.over b1) (by have := HN.out; omega)
  rw [← HN.out] at hcan
  have HCA := Lib.hid hcan
  clear hb1 hcan
  go_wp2_with fail
  refine HCA.out.mono ?_
  rintro e w2 ⟨m, hcn, hml, A2, c2, rfl, hc2, hsr, hb2⟩
  have b2 := b1.trans (hb2.mono b1.size)
  have HC : Hid (Bc2 w2 w.heap.size cn cv) := Lib.hid (c1.below hb2 z1)
  have hCz : w.heap.size < w2.heap.size := Nat.lt_of_lt_of_le z1 hb2.size
  have HL : Hid (Sr w2 w2.heap.size A l) := Lib.hid (HA.out.over b2)
  have HM := Lib.hid hsr
  have HCN := Lib.hid hcn
  obtain ⟨k2, hk2⟩ : ∃ k2, k2 = m.length := ⟨_, rfl⟩
  have HK2 := Lib.hid hk2
  rw [← hk2] at hml hc2 ⊢
  have hml' : k2 ≤ n := by have := HN.out; omega
  have HAE : Hid (m.any inn = l.any inn) := Lib.hid (by rw [HINN.out]; exact whole_any hcn cn cv)
  clear hk2 hml hsr hcn c1 z1 b1 hb2 HA
  obtain ⟨C, hC⟩ : ∃ C, C = w.heap.size := ⟨_, rfl⟩
  rw [← hC] at HC hCz ⊢
  have HCC := Lib.hid hC
  clear hC
  go_wp2
  go_loopw [7, 9] (fun a i wr => ∃ k : Nat, k ≤ n ∧ a = .bool ((l.take k).any inn) ∧ i = .int .i64 (k : Int) ∧ Below w2.heap.size w2 wr) (fun _ i _ => n - (intOf i).toNat)
  case atStart => exact ⟨0, Nat.zero_le _, rfl, rfl, Below.refl _ _⟩
  case round =>
    obtain ⟨k, hk, rfl, rfl, hbel⟩ := hrel
    by_cases hlt : k < n
    · have t1 : decide (k < n) = true := decide_eq_true hlt
      obtain ⟨y, hy⟩ : ∃ y, l[k]? = some y := ⟨_, List.getElem?_eq_getElem (by have := HN.out; omega)⟩
      have hst : (l.take (k + 1)).any inn = ((l.take k).any inn || inn y) := by rw [List.take_add_one, hy, List.any_append]; simp
      have HST := Lib.hid hst
      clear hst
      cases hq : (l.take k).any inn with
      | true =>
        rw [hq] at HST
        clear hq hy
        go_wp2
        go_quiet (fail)
        go_wp2
        refine ⟨⟨k + 1, by omega, by rw [HST.out]; rfl, by go_num, below_drewN hbel _⟩, by simp [intOf]; omega⟩
      | false =>
        rw [hq] at HST
        clear hq
        obtain ⟨b, o, rfl, hbb, hR3⟩ := (HL.out.below hbel).at hy
        have hbz : b < wr.heap.size := Nat.lt_of_lt_of_le hbb hbel.size
        have hCr : C < wr.heap.size := Nat.lt_of_lt_of_le hCz hbel.size
        have hSS : ∀ w', Below wr.heap.size wr w' → w'.cell? ⟨b, o + k * 3, none⟩ = some (.int .i64 y.n) ∧ w'.cell? ⟨b, o + k * 3 + 1, none⟩ = some (.int .i64 y.lo) ∧ w'.cell? ⟨b, o + k * 3 + 2, none⟩ = some (.int .i64 y.hi) ∧ w'.cell? ⟨C, 0, none⟩ = some (.int .i64 cn) ∧ w'.cell? ⟨C, 1, none⟩ = some (.int .i64 cv) := fun w' hw => by
          have g1 := hR3.keep (w' := w') fun t => hw.cell (p := ⟨b, t, none⟩) hbz
          have g2 := (HC.out.below hbel hCz).below hw hCr
          exact ⟨g1.c0, g1.c1, g1.c2, g2.c0, g2.c1⟩
        have HH := Lib.hid hSS
        have K1 := Lib.hid (HIN.out y)
        have z0 : Below wr.heap.size wr wr.drew := (Below.refl _ _).drew
        clear hSS hR3 hy
        generalize inn y = qy at *
        go_wp2_with fail
        go_region_held (fun w' => w'.cell? ⟨b, o + k * 3, none⟩ = some (.int .i64 y.n) ∧ w'.cell? ⟨b, o + k * 3 + 1, none⟩ = some (.int .i64 y.lo) ∧ w'.cell? ⟨b, o + k * 3 + 2, none⟩ = some (.int .i64 y.hi) ∧ w'.cell? ⟨C, 0, none⟩ = some (.int .i64 cn) ∧ w'.cell? ⟨C, 1, none⟩ = some (.int .i64 cv))
          (first | with_reducible exact HH.out _ z8 | with_reducible exact HH.out _ z0)
          ((go_at_call 15; with_reducible refine (K1.out _).mono ?_; rintro e x2 ⟨rfl, y8⟩; have z8 := z0.trans (y8.mono z0.size)))
        all_goals
          go_wp2
          refine ⟨⟨k + 1, by omega, by rw [HST.out]; rfl, by go_num, hbel.trans (z8.mono hbel.size)⟩, by simp [intOf]; omega⟩
    · have t1 : decide (k < n) = false := decide_eq_false hlt
      rw [List.take_of_length_le (by have := HN.out; omega)]
      obtain ⟨ra, hra⟩ : ∃ ra, ra = l.any inn := ⟨_, rfl⟩
      rw [← hra]
      have HRA := Lib.hid hra
      clear hra hk hlt
      go_wp2
      go_loopw [8, 10] (fun a i wq => ∃ k : Nat, k ≤ k2 ∧ a = .bool ((m.take k).any inn) ∧ i = .int .i64 (k : Int) ∧ Below w2.heap.size w2 wq) (fun _ i _ => k2 - (intOf i).toNat)
      case atStart => exact ⟨0, Nat.zero_le _, rfl, rfl, hbel⟩
      case round =>
        clear hbel
        obtain ⟨k, hk, rfl, rfl, hbel⟩ := hrel
        by_cases hlt : k < k2
        · have t1 : decide (k < k2) = true := decide_eq_true hlt
          obtain ⟨y, hy⟩ : ∃ y, m[k]? = some y := ⟨_, List.getElem?_eq_getElem (by have := HK2.out; omega)⟩
          have hst : (m.take (k + 1)).any inn = ((m.take k).any inn || inn y) := by rw [List.take_add_one, hy, List.any_append]; simp
          have HST := Lib.hid hst
          have HY := Lib.hid hy
          clear hst
          cases hq : (m.take k).any inn with
          | true =>
            rw [hq] at HST
            clear hq hy
            go_wp2
            go_quiet (fail)
            go_wp2
            have hbX := below_drewN hbel nq
            clear hbel
            go_loopw [11] (fun i wq => ∃ t : Nat, t ≤ k2 ∧ i = .int .i64 (t : Int) ∧ Below w2.heap.size w2 wq) (fun i _ => k2 - (intOf i).toNat)
            case atStart => exact ⟨0, Nat.zero_le _, rfl, hbX⟩
            case round =>
              clear hbX
              obtain ⟨t, ht, rfl, hbel⟩ := hrel
              by_cases hlt2 : t < k2
              · have t2 : decide (t < k2) = true := decide_eq_true hlt2
                by_cases htk : t = k
                · subst htk
                  have t3 : ((t : Int) != (t : Int)) = false := by simp
                  go_wp2
                  go_quiet (fail)
                  go_wp2
                  refine ⟨⟨t + 1, by omega, by go_num, below_drewN hbel _⟩, by simp [intOf]; omega⟩
                · have t3 : ((t : Int) != (k : Int)) = true := by simp; omega
                  obtain ⟨x, hx⟩ : ∃ x, m[t]? = some x := ⟨_, List.getElem?_eq_getElem (by have := HK2.out; omega)⟩
                  obtain ⟨b, o, eA, hbb, q1⟩ := (HM.out.below hbel).at hx
                  obtain ⟨b', o', eA', _, q2⟩ := (HM.out.below hbel).at HY.out
                  subst eA
                  injection eA' with eA'
                  injection eA' with eA1 eA2
                  subst eA1 eA2
                  have hbz : b < wr.heap.size := Nat.lt_of_lt_of_le hbb hbel.size
                  have k3 := Holds_any x y
                  rw [HCN.out.at_ne hx HY.out htk] at k3
                  have K3 := Lib.hid k3
                  have hSS : ∀ w', Below wr.heap.size wr w' → w'.cell? ⟨b, o + t * 3, none⟩ = some (.int .i64 x.n) ∧ w'.cell? ⟨b, o + t * 3 + 1, none⟩ = some (.int .i64 x.lo) ∧ w'.cell? ⟨b, o + t * 3 + 2, none⟩ = some (.int .i64 x.hi) ∧ w'.cell? ⟨b, o + k * 3, none⟩ = some (.int .i64 y.n) ∧ w'.cell? ⟨b, o + k * 3 + 1, none⟩ = some (.int .i64 y.lo) ∧ w'.cell? ⟨b, o + k * 3 + 2, none⟩ = some (.int .i64 y.hi) := fun w' hw => by
                    have g1 := q1.keep (w' := w') fun t => hw.cell (p := ⟨b, t, none⟩) hbz
                    have g2 := q2.keep (w' := w') fun t => hw.cell (p := ⟨b, t, none⟩) hbz
                    exact ⟨g1.c0, g1.c1, g1.c2, g2.c0, g2.c1, g2.c2⟩
                  have HH := Lib.hid hSS
                  have z0 : Below wr.heap.size wr wr.drew := (Below.refl _ _).drew
                  clear hSS q1 q2 hx k3
                  go_wp2_with fail
                  go_region_held (fun w' => w'.cell? ⟨b, o + t * 3, none⟩ = some (.int .i64 x.n) ∧ w'.cell? ⟨b, o + t * 3 + 1, none⟩ = some (.int .i64 x.lo) ∧ w'.cell? ⟨b, o + t * 3 + 2, none⟩ = some (.int .i64 x.hi) ∧ w'.cell? ⟨b, o + k * 3, none⟩ = some (.int .i64 y.n) ∧ w'.cell? ⟨b, o + k * 3 + 1, none⟩ = some (.int .i64 y.lo) ∧ w'.cell? ⟨b, o + k * 3 + 2, none⟩ = some (.int .i64 y.hi))
                    (first | with_reducible exact HH.out _ z9 | with_reducible exact HH.out _ z0)
                    ((go_at_call 21; with_reducible refine (K3.out _).mono ?_; rintro e x3 ⟨rfl, y9⟩; have z9 := z0.trans (y9.mono z0.size)))
                  all_goals
                    go_wp2
                    refine ⟨⟨t + 1, by omega, by go_num, hbel.trans (z9.mono hbel.size)⟩, by simp [intOf]; omega⟩
              · have t2 : decide (t < k2) = false := decide_eq_false hlt2
                go_wp2
                refine ⟨⟨k + 1, by omega, by rw [HST.out]; rfl, by go_num, hbel⟩, by simp [intOf]; omega⟩
          | false =>
            rw [hq] at HST
            clear hq
            obtain ⟨b, o, rfl, hbb, hR3⟩ := (HM.out.below hbel).at hy
            have hbz : b < wr.heap.size := Nat.lt_of_lt_of_le hbb hbel.size
            have hCr : C < wr.heap.size := Nat.lt_of_lt_of_le hCz hbel.size
            have hSS : ∀ w', Below wr.heap.size wr w' → w'.cell? ⟨b, o + k * 3, none⟩ = some (.int .i64 y.n) ∧ w'.cell? ⟨b, o + k * 3 + 1, none⟩ = some (.int .i64 y.lo) ∧ w'.cell? ⟨b, o + k * 3 + 2, none⟩ = some (.int .i64 y.hi) ∧ w'.cell? ⟨C, 0, none⟩ = some (.int .i64 cn) ∧ w'.cell? ⟨C, 1, none⟩ = some (.int .i64 cv) := fun w' hw => by
              have g1 := hR3.keep (w' := w') fun t => hw.cell (p := ⟨b, t, none⟩) hbz
              have g2 := (HC.out.below hbel hCz).below hw hCr
              exact ⟨g1.c0, g1.c1, g1.c2, g2.c0, g2.c1⟩
            have HH := Lib.hid hSS
            have K1 := Lib.hid (HIN.out y)
            have z0 : Below wr.heap.size wr wr.drew := (Below.refl _ _).drew
            clear hSS hR3 hy
            generalize inn y = qy at *
            go_wp2_with fail
            go_region_held (fun w' => w'.cell? ⟨b, o + k * 3, none⟩ = some (.int .i64 y.n) ∧ w'.cell? ⟨b, o + k * 3 + 1, none⟩ = some (.int .i64 y.lo) ∧ w'.cell? ⟨b, o + k * 3 + 2, none⟩ = some (.int .i64 y.hi) ∧ w'.cell? ⟨C, 0, none⟩ = some (.int .i64 cn) ∧ w'.cell? ⟨C, 1, none⟩ = some (.int .i64 cv))
              (first | with_reducible exact HH.out _ z8 | with_reducible exact HH.out _ z0)
              ((go_at_call 15; with_reducible refine (K1.out _).mono ?_; rintro e x2 ⟨rfl, y8⟩; have z8 := z0.trans (y8.mono z0.size)))
            all_goals
              go_wp2
              have hbX := hbel.trans (z8.mono hbel.size)
              clear hbel z8 z0 HH y8
              go_loopw [11] (fun i wq => ∃ t : Nat, t ≤ k2 ∧ i = .int .i64 (t : Int) ∧ Below w2.heap.size w2 wq) (fun i _ => k2 - (intOf i).toNat)
              case atStart => exact ⟨0, Nat.zero_le _, rfl, hbX⟩
              case round =>
                clear hbX
                obtain ⟨t, ht, rfl, hbel⟩ := hrel
                by_cases hlt2 : t < k2
                · have t2 : decide (t < k2) = true := decide_eq_true hlt2
                  by_cases htk : t = k
                  · subst htk
                    have t3 : ((t : Int) != (t : Int)) = false := by simp
                    go_wp2
                    go_quiet (fail)
                    go_wp2
                    refine ⟨⟨t + 1, by omega, by go_num, below_drewN hbel _⟩, by simp [intOf]; omega⟩
                  · have t3 : ((t : Int) != (k : Int)) = true := by simp; omega
                    obtain ⟨x, hx⟩ : ∃ x, m[t]? = some x := ⟨_, List.getElem?_eq_getElem (by have := HK2.out; omega)⟩
                    obtain ⟨b3, o3, eA, _, q1⟩ := (HM.out.below hbel).at hx
                    obtain ⟨b', o', eA', _, q2⟩ := (HM.out.below hbel).at HY.out
                    injection eA with eA
                    injection eA with eA1 eA2
                    subst eA1 eA2
                    injection eA' with eA'
                    injection eA' with eA1 eA2
                    subst eA1 eA2
                    have hbz : b < wr.heap.size := Nat.lt_of_lt_of_le hbb hbel.size
                    have k3 := Holds_any x y
                    rw [HCN.out.at_ne hx HY.out htk] at k3
                    have K3 := Lib.hid k3
                    have hSS : ∀ w', Below wr.heap.size wr w' → w'.cell? ⟨b, o + t * 3, none⟩ = some (.int .i64 x.n) ∧ w'.cell? ⟨b, o + t * 3 + 1, none⟩ = some (.int .i64 x.lo) ∧ w'.cell? ⟨b, o + t * 3 + 2, none⟩ = some (.int .i64 x.hi) ∧ w'.cell? ⟨b, o + k * 3, none⟩ = some (.int .i64 y.n) ∧ w'.cell? ⟨b, o + k * 3 + 1, none⟩ = some (.int .i64 y.lo) ∧ w'.cell? ⟨b, o + k * 3 + 2, none⟩ = some (.int .i64 y.hi) := fun w' hw => by
                      have g1 := q1.keep (w' := w') fun t => hw.cell (p := ⟨b, t, none⟩) hbz
                      have g2 := q2.keep (w' := w') fun t => hw.cell (p := ⟨b, t, none⟩) hbz
                      exact ⟨g1.c0, g1.c1, g1.c2, g2.c0, g2.c1, g2.c2⟩
                    have HH := Lib.hid hSS
                    have z0 : Below wr.heap.size wr wr.drew := (Below.refl _ _).drew
                    clear hSS q1 q2 hx k3
                    go_wp2_with fail
                    go_region_held (fun w' => w'.cell? ⟨b, o + t * 3, none⟩ = some (.int .i64 x.n) ∧ w'.cell? ⟨b, o + t * 3 + 1, none⟩ = some (.int .i64 x.lo) ∧ w'.cell? ⟨b, o + t * 3 + 2, none⟩ = some (.int .i64 x.hi) ∧ w'.cell? ⟨b, o + k * 3, none⟩ = some (.int .i64 y.n) ∧ w'.cell? ⟨b, o + k * 3 + 1, none⟩ = some (.int .i64 y.lo) ∧ w'.cell? ⟨b, o + k * 3 + 2, none⟩ = some (.int .i64 y.hi))
                      (first | with_reducible exact HH.out _ z9 | with_reducible exact HH.out _ z0)
                      ((go_at_call 21; with_reducible refine (K3.out _).mono ?_; rintro e x3 ⟨rfl, y9⟩; have z9 := z0.trans (y9.mono z0.size)))
                    all_goals
                      go_wp2
                      refine ⟨⟨t + 1, by omega, by go_num, hbel.trans (z9.mono hbel.size)⟩, by simp [intOf]; omega⟩
                · have t2 : decide (t < k2) = false := decide_eq_false hlt2
                  go_wp2
                  refine ⟨⟨k + 1, by omega, by rw [HST.out]; rfl, by go_num, hbel⟩, by simp [intOf]; omega⟩
        · have t1 : decide (k < k2) = false := decide_eq_false hlt
          rw [List.take_of_length_le (by have := HK2.out; omega), HAE.out, ← HRA.out]
          have ta : (ra == ra) = true := by cases ra <;> rfl
          have hsr := HM.out.over hbel
          have hcan := Canon_any A2 c2 m wr hsr (by have := HK2.out; have := HN.out; omega)
          rw [← HK2.out] at hcan
          have HCA2 := Lib.hid hcan
          have tl : decide (k2 ≤ n) = true := decide_eq_true hml'
          clear hcan hsr
          go_wp2_with fail
          refine HCA2.out.mono ?_
          rintro e w5 ⟨m2, hcn2, _, A3, c3, rfl, _, hsr2, hb5⟩
          have em : m2 = m := hcn2.unique hol HCN.out.again
          subst em
          have hsm := rSame_yes (c1 := c3) (c2 := c2) hsr2 ((HM.out.over hbel).over hb5) (by have := HK2.out; have := HN.out; omega)
          rw [← HK2.out] at hsm ⊢
          have HSM := Lib.hid hsm
          clear hsm hsr2 hcn2
          go_wp2_with fail
          refine HSM.out.mono ?_
          rintro e w6 ⟨rfl, hb6⟩
          go_wp2
          go_ret
          have e1 := hbel.trans (hb5.mono hbel.size)
          have e2 := e1.trans (hb6.mono e1.size)
          exact ⟨rfl, b2.trans (e2.mono b2.size)⟩
theorem whole_walk (A : Option Addr) (c : Nat) (l : List Rc) (cn cv : Int) (w : World) (hA : Sr w w.heap.size A l) :
    Calls Try.prog 7 #[.slice A l.length c, .agg #[.int .i64 cn, .int .i64 cv]] w fun e w' => e = .returned (.bool true) ∧ Below w.heap.size w w' := by
  rcases Nat.lt_or_ge 60 l.length with h | h
  · exact whole_long A c l cn cv w h
  · exact whole_short A c l cn cv w hA h
end Go.Proofs.Ytnojapffmcnbaaa
