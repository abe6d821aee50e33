/-
  The program's own ahead, compare, saneCodes, saneUnits, lastUnit.
-/
import Derived.Test.YtkkochjdimegpaaDestMem
import Derived.Deep.RegionHeld
import Derived.Deep.DrawnRows
import Derived.Handy
namespace Go.Proofs.Ytkkochjdimegpaa
open Go.RowKit
attribute [local go_sem ↓] Go.wp_at_zero Go.wp_at_succ

theorem ahB_eq (a b : Bp) : decide (ahB a b) = (decide (a.n < b.n) || ((a.n == b.n) && decide (a.hi < b.lo))) := by
  show decide (a.n < b.n ∨ (a.n = b.n ∧ a.hi < b.lo)) = _
  rw [Bool.eq_iff_iff]
  simp
set_option maxHeartbeats 1000000 in
theorem dAhead_any (a b : Me) (w : World) :
    Calls Try.prog 46 #[fv a, fv b] w fun e w' => e = .returned (.bool (decide (ahB a.b b.b))) ∧ Below w.heap.size w w' := by
  rw [ahB_eq]
  unfold fv
  cases d1 : decide (a.b.n < b.b.n) with
  | true =>
    go_enter Try.func46, Try.ntmps46
    go_wp2
    go_ret
    exact ⟨rfl, ((Below.refl _ _).alloc (Nat.le_refl _) _).alloc (by simp) _⟩
  | false =>
    cases d2 : (a.b.n == b.b.n) with
    | true =>
      go_enter Try.func46, Try.ntmps46
      go_wp2
      go_ret
      exact ⟨rfl, ((Below.refl _ _).alloc (Nat.le_refl _) _).alloc (by simp) _⟩
    | false =>
      go_enter Try.func46, Try.ntmps46
      go_wp2
      go_ret
      exact ⟨rfl, ((Below.refl _ _).alloc (Nat.le_refl _) _).alloc (by simp) _⟩
theorem okU_take {u : List Int} {k : Nat} {x : Int} (hx : u[k]? = some x) (hk : ∀ y ∈ u.take k, 0 ≤ y ∧ y ≤ 65535) (h0 : 0 ≤ x) (h1 : x ≤ 65535) : ∀ y ∈ u.take (k + 1), 0 ≤ y ∧ y ≤ 65535 := by
  rw [List.take_add_one, hx]
  intro y hy
  rcases List.mem_append.1 hy with hy | hy
  · exact hk y hy
  · simp at hy
    rw [hy]
    exact ⟨h0, h1⟩
set_option maxRecDepth 100000 in
set_option maxHeartbeats 4000000 in
theorem dUnits_any (A : Option Addr) (c : Nat) (u : List Int) (w : World) (hu : Si w w.heap.size A u) :
    Calls Try.prog 35 #[.slice A u.length c] w fun e w' => e = .returned (.bool (decide (okU u))) ∧ Below w.heap.size w w' := by
  have HA := Lib.hid hu
  obtain ⟨n, hn⟩ : ∃ n, n = u.length := ⟨_, rfl⟩
  have HN := Lib.hid hn
  obtain ⟨r, hr⟩ : ∃ r, r = decide (okU u) := ⟨_, rfl⟩
  have HR := Lib.hid hr
  rw [← hn, ← hr]
  clear hn hr hu
  by_cases h1 : n < 1
  · have t1 : decide ((n : Int) < 1) = true := decide_eq_true (by omega)
    have e : r = false := by rw [HR.out]; exact decide_eq_false fun h => by have := h.1; have := HN.out; omega
    subst e
    clear h1
    go_enter Try.func35, Try.ntmps35
    go_wp2
    go_ret
    exact ⟨rfl, Below.refl _ _⟩
  · have t1 : decide ((n : Int) < 1) = false := decide_eq_false (by omega)
    by_cases h2 : 64 < n
    · have t2 : decide ((64 : Int) < (n : Int)) = true := decide_eq_true (by omega)
      have e : r = false := by rw [HR.out]; exact decide_eq_false fun h => by have := h.2.1; have := HN.out; omega
      subst e
      clear h1 h2
      go_enter Try.func35, Try.ntmps35
      go_wp2
      go_ret
      exact ⟨rfl, Below.refl _ _⟩
    · have t2 : decide ((64 : Int) < (n : Int)) = false := decide_eq_false (by omega)
      obtain ⟨b, o, e, hb, hc⟩ := HA.out (by have := HN.out; omega)
      subst e
      have HC := Lib.hid hc
      have H1 := Lib.hid (And.intro (show 1 ≤ n by omega) (show n ≤ 64 by omega))
      have h64 : n ≤ 64 := H1.out.2
      clear h1 h2 hc HA
      go_enter Try.func35, Try.ntmps35
      go_wp2
      go_loopw [15] (fun i wr => ∃ k : Nat, k ≤ n ∧ i = .int .i64 (k : Int) ∧ Hid (∀ y ∈ u.take k, 0 ≤ y ∧ y ≤ 65535) ∧ wr = w) (fun i _ => n - (intOf i).toNat)
      case atStart => exact ⟨0, Nat.zero_le _, rfl, Lib.hid (by simp), rfl⟩
      case round =>
        obtain ⟨k, hk, rfl, HK, hwr⟩ := hrel
        subst hwr
        by_cases hlt : k < n
        · have t0 : decide (k < n) = true := decide_eq_true hlt
          have hx := List.getElem?_eq_getElem (l := u) (i := k) (by have := HN.out; omega)
          have hcell := HC.out k (by have := HN.out; omega)
          rw [hx] at hcell
          generalize u[k]'(by have := HN.out; omega) = x at *
          have hcell2 : wr.cell? ⟨b, o + k, none⟩ = some (.int .i64 x) := hcell
          clear hcell
          have HX := Lib.hid hx
          clear hx
          by_cases g1 : x < 0
          · have s1 : decide (x < 0) = true := decide_eq_true g1
            have e : r = false := by
              rw [HR.out]
              exact decide_eq_false fun h => by have := (h.2.2 x (List.mem_of_getElem? HX.out)).1; omega
            subst e
            clear g1
            go_wp2
            go_ret
            exact ⟨rfl, Below.refl _ _⟩
          · have s1 : decide (x < 0) = false := decide_eq_false g1
            by_cases g2 : 65535 < x
            · have s2 : decide (65535 < x) = true := decide_eq_true g2
              have e : r = false := by
                rw [HR.out]
                exact decide_eq_false fun h => by have := (h.2.2 x (List.mem_of_getElem? HX.out)).2; omega
              subst e
              clear g1 g2
              go_wp2
              go_ret
              exact ⟨rfl, Below.refl _ _⟩
            · have s2 : decide (65535 < x) = false := decide_eq_false g2
              have K2 := Lib.hid (okU_take (k := k) (x := x) HX.out HK.out (by omega) (by omega))
              clear g1 g2
              go_wp2
              exact ⟨⟨k + 1, by omega, by first | rfl | go_num, K2, trivial⟩, by simp [intOf]; omega⟩
        · have t0 : decide (k < n) = false := decide_eq_false hlt
          obtain rfl : k = n := by omega
          have e : r = true := by
            rw [HR.out]
            refine decide_eq_true ⟨by have := HN.out; have := H1.out.1; omega, by have := HN.out; have := H1.out.2; omega, fun x hx => HK.out x ?_⟩
            rw [List.take_of_length_le (by have := HN.out; omega)]
            exact hx
          subst e
          go_wp2
          go_ret
          exact ⟨rfl, Below.refl _ _⟩
/-- How a list that is not empty ends. -/
theorem lastU_at {u : List Int} {q : Nat} (hq : u.length = q + 1) : u[q]? = some (lastU u) := by
  rcases List.eq_nil_or_concat u with rfl | ⟨p, e, rfl⟩
  · simp at hq
  · rw [List.concat_eq_append] at *
    simp at hq
    rw [lastU_snoc, ← hq]
    simp
set_option maxRecDepth 100000 in
set_option maxHeartbeats 2000000 in
theorem lastUnit_any (x : Me) (v : Int) (w : World) (hu : Si w w.heap.size x.a x.b.u) (hk : okU x.b.u) (h0 : 0 ≤ x.b.lo) (h1 : x.b.lo < 4294967296) (h4 : 0 ≤ v) (h5 : v ≤ 4294967296) :
    Calls Try.prog 36 #[fv x, .int .i64 v] w fun e w' => e = .returned (.int .i64 (lastU x.b.u + (v - x.b.lo))) ∧ Below w.heap.size w w' := by
  obtain ⟨q, hq⟩ : ∃ q, x.b.u.length = q + 1 := ⟨x.b.u.length - 1, by have := hk.1; omega⟩
  obtain ⟨b, o, e, hb, hc⟩ := hu (by omega)
  have hl := hk.last
  have hcell := hc q (by omega)
  rw [lastU_at hq] at hcell
  unfold fv
  rw [hq, e]
  have hq64 : q < 64 := by have := hk.2.1; omega
  clear hc hu hk e
  generalize lastU x.b.u = L at *
  have hcell2 : ∀ ob, (w.alloc ob).cell? ⟨b, o + q, none⟩ = some (.int .i64 L) := fun ob => (World.cell?_alloc_lt w ob ⟨b, o + q, none⟩ hb).trans hcell
  have w1 : IntKind.i64.wrap (L + v) = L + v := IntWalk.i64_in _ (by omega)
  have w2 : IntKind.i64.wrap (L + v - x.b.lo) = L + v - x.b.lo := IntWalk.i64_in _ (by omega)
  have f1 : (0 : Int) ≤ (q : Int) := by omega
  rw [show L + (v - x.b.lo) = L + v - x.b.lo by omega]
  have HL := Lib.hid hl
  clear hl hcell h0 h1 h4 h5
  go_enter Try.func36, Try.ntmps36
  go_wp2
  go_quiet (fail)
  go_wp2
  go_ret
  exact ⟨rfl, below_drewN ((Below.refl _ _).alloc (Nat.le_refl _) _) _⟩
end Go.Proofs.Ytkkochjdimegpaa
