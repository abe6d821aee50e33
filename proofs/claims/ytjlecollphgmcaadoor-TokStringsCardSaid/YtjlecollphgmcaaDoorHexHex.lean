/-
  hex.Hex: two digits of each byte, the high one first, in capitals.
-/
import Derived.Test.YtjlecollphgmcaaDoorProg
import Derived.Test.YtjlecollphgmcaaDoorMem
import Derived.Deep.AppendLies
import Derived.Deep.RegionLaw
namespace Go.Proofs.YtjlecollphgmcaaDoor
open Go.RowKit

/-- A digit, in capitals. -/
def hd (n : Nat) : UInt8 := if n < 10 then UInt8.ofNat (48 + n) else UInt8.ofNat (55 + n)
def hx (b : UInt8) : List UInt8 := [hd (b.toNat / 16), hd (b.toNat % 16)]
def hexL (l : List UInt8) : List UInt8 := l.flatMap hx
theorem hexL_length (l : List UInt8) : (hexL l).length = 2 * l.length := by
  induction l with
  | nil => rfl
  | cons b l ih => simp [hexL, hx] at ih ⊢; omega
theorem hexL_snoc (l : List UInt8) (k : Nat) (h : k < l.length) : hexL (l.take (k + 1)) = hexL (l.take k) ++ hx (l[k]?.getD 0) := by
  rw [List.take_succ_eq_append_getElem h]
  rw [hexL, List.flatMap_append, List.getElem?_eq_getElem h]
  simp [hexL]
theorem hexL_append (a b : List UInt8) : hexL (a ++ b) = hexL a ++ hexL b := by simp [hexL]
theorem caps_fin : ∀ n : Fin 16, (ByteArray.mk #[48, 49, 50, 51, 52, 53, 54, 55, 56, 57, 65, 66, 67, 68, 69, 70])[n.val]'n.isLt = hd n.val := by decide
/-- The constant's letters are the digits. -/
theorem caps (n : Nat) (h : n < (ByteArray.mk #[48, 49, 50, 51, 52, 53, 54, 55, 56, 57, 65, 66, 67, 68, 69, 70]).size) :
    (ByteArray.mk #[48, 49, 50, 51, 52, 53, 54, 55, 56, 57, 65, 66, 67, 68, 69, 70])[n]'h = hd n := caps_fin ⟨n, h⟩
theorem info8 : (Tryd.prog.info? 5).map (fun i => (i.zero, i.size, i.bytes)) = some (some (.int .u8 0), 1, 1) := by kernel_rfl

set_option maxHeartbeats 800000 in
theorem Hex_any (A : Option Addr) (c : Nat) (l : List UInt8) (w : World) (hA : Sl w w.heap.size A l) (hl : l.length ≤ 65536) :
    Calls Tryd.prog 26 #[.slice A l.length c] w fun e w' => e = .returned (.string (str (hexL l))) ∧ Below w.heap.size w w' := by
  obtain ⟨i0, hi, hz0, hz1, hz2⟩ := info_parts info8
  go_enter Tryd.func26, Tryd.ntmps26
  go_wp2_with (at_make; refine wpList_make_own _ rfl _ _ _ rfl w.heap.size 5 i0 (.int .u8 0) 1 Tryd.underlying35 hi hz0 hz1 .i64 .i64 _ (2 * l.length) rfl rfl (by omega) (by rw [hz2]; omega) (by unfold maxLen; omega) (Nat.le_refl _) ?_; intro w1 hown1 hgrow1)
  have hb1 : Below w.heap.size w w1 := (Below.refl _ _).grown hgrow1 (Nat.le_refl _) (by simp)
  clear hgrow1
  generalize (Value.slice (some ⟨w.heap.size, 0, none⟩) 0 (2 * l.length)) = v1 at *
  go_loopw [3, 12] (fun v i wr => ∃ k : Nat, k ≤ l.length ∧ i = .int .i64 k ∧ wr.ownsRow w.heap.size 5 1 v (2 * k) (bvs (hexL (l.take k))) ∧ Below w.heap.size w wr) (fun _ i _ => l.length - (intOf i).toNat)
  case atStart => exact ⟨0, Nat.zero_le _, rfl, by simpa [hexL, bvs] using hown1, hb1⟩
  case round =>
    obtain ⟨k, hk, rfl, hown, hbel⟩ := hrel
    by_cases hlt : k < l.length
    · obtain ⟨b, o, rfl, hbl, hc⟩ := hA (by omega)
      obtain ⟨x, hx⟩ : ∃ x, x = l[k]?.getD 0 := ⟨_, rfl⟩
      have hcell : wr.cell? ⟨b, o + k, none⟩ = some (.int .u8 (x.toNat : Int)) := by rw [hx]; exact (hbel.cell (p := ⟨b, o + k, none⟩) hbl).trans (hc k hlt)
      have HX := Lib.hid hx
      clear hc hx
      have hx1 := x.toNat_lt
      have hand : bits .and .u8 (x.toNat : Int) 15 = (x.toNat : Int) % 16 := u8_and15 _ (by omega) (by omega)
      have q0 : (0 : Int) ≤ (x.toNat : Int) / 16 := by omega
      have q1 : (x.toNat : Int) / 16 < 16 := by omega
      have q2 : (0 : Int) ≤ (x.toNat : Int) % 16 := by omega
      have q3 : (x.toNat : Int) % 16 < 16 := by omega
      have hsz := hbel.size
      have e1 : ((x.toNat : Int) / 16).toNat = x.toNat / 16 := by omega
      have e2 : ((x.toNat : Int) % 16).toNat = x.toNat % 16 := by omega
      have hcaps := caps
      go_wp2
      go_region_law ((refine step_append_lies _ (by rfl) _ _ _ (by rfl) w.heap.size 5 i0 (.int .u8 0) 1 1 Tryd.underlying35 hi hz0 hz1 hz2 rfl (by omega) u3 (2 * k) (bvs (hexL (l.take k))) (by rfl) (hown.alloc _).drew ⟨wr.heap.size, 0, none⟩ 2 2 (bvs (hx x)) (by rfl) (by rfl) (World.news_of_block (heap_alloc_new wr _)) (bvs_one _) (by omega) (by unfold maxLen; omega) (by omega) (by simp; omega) _ rfl ?_; intro g cap w1 hown1 hgrow hat hgl))
      all_goals
        have hb2 : Below w.heap.size w w1 := ((hbel.alloc hsz _).drew).grown hgrow (by simp; omega) (fun q hq => (hown.lt q hq).1)
        have hs1 := HX.out
        have hown2 : w1.ownsRow w.heap.size 5 1 (.slice (some ⟨g, 0, none⟩) (2 * k + 2) cap) (2 * (k + 1)) (bvs (hexL (l.take (k + 1)))) := by
          rw [hexL_snoc l k hlt, ← hs1, bvs_append]; exact hown1
        clear hown1 hgrow hat hs1 hgl hcaps
        go_wp2
        go_roundw
        case rel => exact ⟨k + 1, by omega, by go_num, hown2, hb2⟩
        case measure => simp [intOf]; omega
    · have hkl : k = l.length := by omega
      obtain rfl : l.length = k := hkl.symm
      rw [List.take_of_length_le (Nat.le_refl _)] at hown
      obtain ⟨c', _, _, A', hv, hsl⟩ := Sl.of_own hown
      subst hv
      have hconv := run_str (P := Tryd.prog) hsl c' 35 9 5 Tryd.underlying35 Tryd.underlying5 Tryd.underlying9
      go_wp2
      go_ret
      exact ⟨rfl, hbel⟩
end Go.Proofs.YtjlecollphgmcaaDoor
