/-
  The document's own Short: it answers.
-/
import Derived.Test.YtkkochjdimegpaaDestSame
import Derived.Deep.RegionWith
namespace Go.Proofs.Ytkkochjdimegpaa
open Go.RowKit
attribute [local go_sem ↓] Go.wp_at_zero Go.wp_at_succ

set_option maxRecDepth 100000 in
set_option maxHeartbeats 4000000 in
theorem Short_any (A : Option Addr) (c : Nat) (d : List Me) (w : World) (hA : Sd w A d) :
    Calls Try.prog 11 #[.slice A d.length c] w fun e w' => (∃ b, e = .returned (.bool b)) ∧ Below w.heap.size w w' := by
  have HA := Lib.hid hA
  obtain ⟨n, hn⟩ : ∃ n, n = d.length := ⟨_, rfl⟩
  have HN := Lib.hid hn
  rw [← hn]
  clear hn hA
  go_enter Try.func11, Try.ntmps11
  go_wp2
  go_loopw [3, 4] (fun s i wr => ∃ (k : Nat) (t : Int), k ≤ n ∧ k ≤ 1000 ∧ 0 ≤ t ∧ t ≤ 100000 * (k : Int) ∧ s = .int .i64 t ∧ i = .int .i64 (k : Int) ∧ Below w.heap.size w wr) (fun _ i _ => 1000 - (intOf i).toNat)
  case atStart => exact ⟨0, 0, Nat.zero_le _, by omega, Int.le_refl _, by omega, rfl, rfl, Below.refl _ _⟩
  case round =>
    obtain ⟨k, t, hk, hk100, ht0, ht1, rfl, rfl, hbel⟩ := hrel
    by_cases hlt : k < n
    · have t0 : decide (k < n) = true := decide_eq_true hlt
      by_cases h100 : k < 1000
      · have t1 : decide ((k : Int) < 1000) = true := decide_eq_true (by omega)
        have hx := List.getElem?_eq_getElem (l := d) (i := k) (by have := HN.out; omega)
        generalize d[k]'(by have := HN.out; omega) = x at *
        obtain ⟨b, o, rfl, hb, ⟨y0, y1, y2, y3⟩⟩ := (HA.out.over hbel).rd.at hx
        have f1 : (0 : Int) ≤ (k : Int) := by omega
        have f2 : (k : Int) < (n : Int) := by omega
        have z0 : Below w.heap.size w wr.drew := hbel.drew
        have HB := Lib.hid z0
        clear hx hbel z0
        go_wp2_with fail
        go_region_held (fun w' => w'.cell? ⟨b, o + k * 4 + 1, none⟩ = some (.int .i64 x.b.lo) ∧ w'.cell? ⟨b, o + k * 4 + 2, none⟩ = some (.int .i64 x.b.hi)) (exact ⟨y1, y2⟩) (fail)
        all_goals
          go_wp2
          have hvb : ∀ D : Int, 0 ≤ (if 0 < (if 100000 < D then 100000 else D) then (if 100000 < D then 100000 else D) else 0) ∧ (if 0 < (if 100000 < D then 100000 else D) then (if 100000 < D then 100000 else D) else 0) ≤ 100000 := by
            intro D
            by_cases h1 : 100000 < D
            · simp [h1]
            · by_cases h2 : 0 < D
              · simp [h1, h2]; omega
              · simp [h1, h2]
          have hv := hvb (IntKind.i64.wrap (x.b.hi / 128 - x.b.lo / 128))
          generalize (if 0 < (if 100000 < IntKind.i64.wrap (x.b.hi / 128 - x.b.lo / 128) then 100000 else IntKind.i64.wrap (x.b.hi / 128 - x.b.lo / 128)) then (if 100000 < IntKind.i64.wrap (x.b.hi / 128 - x.b.lo / 128) then 100000 else IntKind.i64.wrap (x.b.hi / 128 - x.b.lo / 128)) else 0) = V at *
          obtain ⟨hv0, hv1⟩ := hv
          refine ⟨⟨k + 1, t + V, by omega, by omega, by omega, by omega, by rw [IntWalk.i64_in (t + V) (by omega)], by first | rfl | go_num, HB.out⟩, by simp [intOf]; omega⟩
      · have t1 : decide ((k : Int) < 1000) = false := decide_eq_false (by omega)
        go_wp2
        go_ret
        exact ⟨⟨_, rfl⟩, hbel⟩
    · have t0 : decide (k < n) = false := decide_eq_false hlt
      go_wp2
      go_ret
      exact ⟨⟨_, rfl⟩, hbel⟩
end Go.Proofs.Ytkkochjdimegpaa
