/-
  The document's own Hex: two digits of each byte.
-/
import Derived.Test.YtpobiaibkmmjpaaDoorHexHex
import Derived.Deep.RegionHeldLaw
import Derived.Deep.AppendLies
namespace Go.Proofs.YtpobiaibkmmjpaaDoor
open Go.RowKit

set_option maxHeartbeats 1000000 in
theorem rHex_any (A : Option Addr) (c : Nat) (l : List UInt8) (w : World) (hA : Sl w w.heap.size A l) (hl : l.length ≤ 65536) :
    Calls Tryd.prog 33 #[.slice A l.length c] w fun e w' => e = .returned (.string (str (hexL l))) ∧ Below w.heap.size w w' := by
  obtain ⟨i0, hi, hz0, hz1, hz2⟩ := info_parts info8
  go_enter Tryd.func33, Tryd.ntmps33
  go_wp2
  go_loopw [3, 4] (fun v i wr => ∃ k : Nat, k ≤ l.length ∧ i = .int .i64 k ∧ wr.ownsRow w.heap.size 5 1 v (2 * k) (bvs (hexL (l.take k))) ∧ Below w.heap.size w wr) (fun _ i _ => l.length - (intOf i).toNat)
  case atStart => exact ⟨0, Nat.zero_le _, rfl, by simpa [hexL, bvs] using World.ownsRow_nil _ _ _ _, Below.refl _ _⟩
  case round =>
    obtain ⟨k, hk, rfl, hown, hbel⟩ := hrel
    by_cases hlt : k < l.length
    · obtain ⟨b, o, rfl, hbl, hc⟩ := hA (by omega)
      obtain ⟨x, hx⟩ : ∃ x, x = l[k]?.getD 0 := ⟨_, rfl⟩
      have hcell : wr.cell? ⟨b, o + k, none⟩ = some (.int .u8 (x.toNat : Int)) := by rw [hx]; exact (hbel.cell (p := ⟨b, o + k, none⟩) hbl).trans (hc k hlt)
      have HX := Lib.hid hx
      clear hc hx
      have hx1 := x.toNat_lt
      have q0 : (0 : Int) ≤ (x.toNat : Int) / 16 := by omega
      have q1 : (x.toNat : Int) / 16 < 16 := by omega
      have q2 : (0 : Int) ≤ (x.toNat : Int) % 16 := by omega
      have q3 : (x.toNat : Int) % 16 < 16 := by omega
      have hsz := hbel.size
      have e1 : ((x.toNat : Int) / 16).toNat = x.toNat / 16 := by omega
      have e2 : ((x.toNat : Int) % 16).toNat = x.toNat % 16 := by omega
      have hcaps := caps
      have htd : (x.toNat : Int).tdiv 16 = (x.toNat : Int) / 16 := Int.tdiv_eq_ediv_of_nonneg (by omega)
      have htm : (x.toNat : Int).tmod 16 = (x.toNat : Int) % 16 := Int.tmod_eq_emod_of_nonneg (by omega)
      have hwd : IntKind.u8.wrap ((x.toNat : Int) / 16) = (x.toNat : Int) / 16 := IntWalk.u8_in _ (by omega)
      have hwm : IntKind.u8.wrap ((x.toNat : Int) % 16) = (x.toNat : Int) % 16 := IntWalk.u8_in _ (by omega)
      have kk0 : (0 : Int) ≤ (k : Int) := by omega
      have kk1 : (k : Int) < (l.length : Int) := by omega
      go_wp2
      go_region_held_law (fun w' => w'.cell? ⟨b, o + k, none⟩ = some (.int .u8 (x.toNat : Int)))
        (first | exact hcell | exact (World.cell?_alloc_lt _ _ _ (show b < wr.heap.size by omega)).trans hcell | exact hcell1)
        ((refine step_append_lies _ (by rfl) _ _ _ (by rfl) w.heap.size 5 i0 (.int .u8 0) 1 1 Tryd.underlying35 hi hz0 hz1 hz2 rfl (by omega) u3 (2 * k) (bvs (hexL (l.take k))) (by rfl) (hown.alloc _).drew ⟨wr.heap.size, 0, none⟩ 2 2 (bvs (Go.Proofs.YtpobiaibkmmjpaaDoor.hx x)) (by rfl) (by rfl) (World.news_of_block (heap_alloc_new wr _)) (bvs_one _) (by omega) (by unfold maxLen; omega) (by omega) (by simp; omega) _ rfl ?_; intro g cap w1 hown1 hgrow hat hgl; have hb2 : Below w.heap.size w w1 := ((hbel.alloc hsz _).drew).grown hgrow (by simp; omega) (fun q hq => (hown.lt q hq).1); have hcell1 : w1.cell? ⟨b, o + k, none⟩ = some (.int .u8 (x.toNat : Int)) := (hb2.cell (p := ⟨b, o + k, none⟩) hbl).trans ((hbel.cell (p := ⟨b, o + k, none⟩) hbl).symm.trans hcell)))
      all_goals
        have hs1 := HX.out
        have hown2 : w1.ownsRow w.heap.size 5 1 (.slice (some ⟨g, 0, none⟩) (2 * k + 2) cap) (2 * (k + 1)) (bvs (hexL (l.take (k + 1)))) := by
          rw [hexL_snoc l k hlt, ← hs1, bvs_append]; exact hown1
        clear hown1 hgrow hat hs1 hgl hcaps
        go_wp2
        go_roundw
        case rel => exact ⟨k + 1, by omega, by go_num, hown2, hb2⟩
        case measure => simp [intOf]; omega
    · have hkl : k = l.length := by omega
      obtain rfl : l.length = k := hkl.symm
      rw [List.take_of_length_le (Nat.le_refl _)] at hown
      obtain ⟨c', _, _, A', hv, hsl⟩ := Sl.of_own hown
      subst hv
      have hconv := run_str (P := Tryd.prog) hsl c' 35 9 5 Tryd.underlying35 Tryd.underlying5 Tryd.underlying9
      go_wp2
      go_ret
      exact ⟨rfl, hbel⟩
end Go.Proofs.YtpobiaibkmmjpaaDoor
