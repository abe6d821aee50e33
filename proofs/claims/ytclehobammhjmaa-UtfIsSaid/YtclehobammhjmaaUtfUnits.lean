/-
  utf.Units and the document's own: bytes as units.
-/
import Derived.Test.YtclehobammhjmaaUtfEnc
import Derived.Deep.RegionHeldLaw
namespace Go.Proofs.Ytclehobammhjmaa
open Go.RowKit

theorem i64_or_nat (a b : Nat) (ha : a < 4611686018427387904) (hb : b < 4611686018427387904) : bits .or .i64 (a : Int) (b : Int) = ((a ||| b : Nat) : Int) := by
  have hx : a ||| b < 2 ^ 62 := Nat.or_lt_two_pow (by omega) (by omega)
  have h1 : (BitVec.ofInt 64 (a : Int)).toNat = a := by rw [BitVec.toNat_ofInt]; omega
  have h2 : (BitVec.ofInt 64 (b : Int)).toNat = b := by rw [BitVec.toNat_ofInt]; omega
  show IntKind.i64.wrap ((BitVec.ofInt 64 (a : Int) ||| BitVec.ofInt 64 (b : Int)).toNat : Int) = _
  rw [BitVec.toNat_or, h1, h2, IntKind.wrap_i64]
  omega
theorem or_byte (v : Int) (x : Nat) (h0 : 0 ≤ v) (h1 : v < 16777216) (hx : x < 256) : bits .or .i64 (v * 256) (x : Int) = v * 256 + x := by
  obtain ⟨n, rfl⟩ := Int.eq_ofNat_of_zero_le h0
  have h := i64_or_nat (n * 256) x (by omega) (by omega)
  rw [nat_join8 (n * 256) x (by omega) hx] at h
  simpa using h
theorem units_at {l : List UInt8} {out : List Int} {j : Nat} {x y : UInt8} (h : j + 1 < l.length) (hx : x = l[j]?.getD 0) (hy : y = l[j + 1]?.getD 0) (he : out ++ units (l.drop j) = units l) : (out ++ [(x.toNat : Int) * 256 + y.toNat]) ++ units (l.drop (j + 2)) = units l := by
  rw [drop_here l j 0 (by omega), drop_here l (j + 1) 0 h, ← hx, ← hy, units] at he
  rw [List.append_assoc]; exact he
/-- Is one left over? -/
def oddB (l : List UInt8) : Bool := decide (l.length % 2 = 1)

set_option maxHeartbeats 2000000 in
theorem Units_any (A : Option Addr) (c : Nat) (l : List UInt8) (w : World) (hA : Sl w w.heap.size A l) (hl : l.length ≤ 65536) :
    Calls Try.prog 12 #[.slice A l.length c] w (RetSiB w (units l) (oddB l)) := by
  obtain ⟨i0, hi, hz0, hz1, hz2⟩ := info_parts info64
  go_enter Try.func12, Try.ntmps12
  go_wp2_with (at_make; refine wpList_make_own _ rfl _ _ _ rfl w.heap.size 3 i0 (.int .i64 0) 1 Try.underlying22 hi hz0 hz1 .i64 .i64 _ (l.length / 2) rfl rfl (by omega) (by rw [hz2]; omega) (by unfold maxLen; omega) (Nat.le_refl _) ?_; intro w1 hown1 hgrow1)
  have hb1 : Below w.heap.size w w1 := (Below.refl _ _).grown hgrow1 (Nat.le_refl _) (by simp)
  clear hgrow1
  generalize (Value.slice (some ⟨w.heap.size, 0, none⟩) 0 (l.length / 2)) = v1 at *
  go_loopw [4, 5] (fun v i wr => ∃ (j : Nat) (out : List Int), j ≤ l.length ∧ i = .int .i64 ((j : Int) + 1) ∧ out.length ≤ j ∧ Hid (out ++ units (l.drop j) = units l) ∧ wr.ownsRow w.heap.size 3 1 v out.length (ivs out) ∧ Below w.heap.size w wr) (fun _ i _ => l.length + 1 - (intOf i).toNat)
  case atStart => exact ⟨0, [], Nat.zero_le _, rfl, by simp, by rfl, by simpa [ivs] using hown1, hb1⟩
  case round =>
    obtain ⟨j, out, hj, rfl, hout, HE, hown, hbel⟩ := hrel
    by_cases hlt : j + 1 < l.length
    · obtain ⟨b, o, rfl, hbl, hc⟩ := hA (by omega)
      obtain ⟨x, hx⟩ : ∃ x, x = l[j]?.getD 0 := ⟨_, rfl⟩
      obtain ⟨y, hy⟩ : ∃ y, y = l[j + 1]?.getD 0 := ⟨_, rfl⟩
      have hcell : wr.cell? ⟨b, o + j, none⟩ = some (.int .u8 (x.toNat : Int)) := by rw [hx]; exact (hbel.cell (p := ⟨b, o + j, none⟩) hbl).trans (hc j (by omega))
      have hcell2 : wr.cell? ⟨b, o + (j + 1), none⟩ = some (.int .u8 (y.toNat : Int)) := by rw [hy]; exact (hbel.cell (p := ⟨b, o + (j + 1), none⟩) hbl).trans (hc (j + 1) hlt)
      have HX := Lib.hid hx
      have HY := Lib.hid hy
      clear hc hx hy
      have hsz := hbel.size
      have hx1 := x.toNat_lt
      have hy1 := y.toNat_lt
      have hlt' : (j : Int) + 1 < (l.length : Int) := by omega
      have j0 : (0 : Int) ≤ (j : Int) := by omega
      have j1 : (j : Int) < (l.length : Int) := by omega
      have j2 : (0 : Int) ≤ (j : Int) + 1 := by omega
      have hBel1 : b < wr.heap.size := by omega
      have wj1 : IntKind.i64.wrap ((j : Int) + 1) = (j : Int) + 1 := IntWalk.i64_in _ (by omega)
      have w2 : IntKind.i64.wrap (j : Int) = (j : Int) := IntWalk.i64_in _ (by omega)
      have w3 : IntKind.i64.wrap (x.toNat : Int) = (x.toNat : Int) := IntWalk.i64_in _ (by omega)
      have w4 : IntKind.i64.wrap (y.toNat : Int) = (y.toNat : Int) := IntWalk.i64_in _ (by omega)
      have w5 : IntKind.i64.wrap ((x.toNat : Int) * 256) = (x.toNat : Int) * 256 := IntWalk.i64_in _ (by omega)
      have w6 : IntKind.i64.wrap ((x.toNat : Int) * 256 + (y.toNat : Int)) = (x.toNat : Int) * 256 + (y.toNat : Int) := IntWalk.i64_in _ (by omega)
      have w7 := or_byte (x.toNat : Int) y.toNat (by omega) (by omega) (by omega)
      have t1 : ((j : Int) + 1).toNat = j + 1 := by omega
      go_wp2
      go_region_held_law (fun w' => w'.cell? ⟨b, o + j, none⟩ = some (.int .u8 (x.toNat : Int)) ∧ w'.cell? ⟨b, o + (j + 1), none⟩ = some (.int .u8 (y.toNat : Int)))
        (first | exact ⟨hcell, hcell2⟩ | exact ⟨(World.cell?_alloc_lt _ _ _ hBel1).trans hcell, (World.cell?_alloc_lt _ _ _ hBel1).trans hcell2⟩ | exact hcells)
        ((refine step_append_lies _ (by rfl) _ _ _ (by rfl) w.heap.size 3 i0 (.int .i64 0) 1 8 Try.underlying22 hi hz0 hz1 hz2 rfl (by omega) u4 _ _ (by rfl) (hown.alloc _).drew ⟨wr.heap.size, 0, none⟩ 1 1 (ivs [(x.toNat : Int) * 256 + (y.toNat : Int)]) (by rfl) (by rfl) (World.news_of_block (heap_alloc_new wr _)) (ivs_one _) (by omega) (by unfold maxLen; omega) (by omega) (by simp; omega) _ rfl ?_; intro g cap w1 hown1 hgrow hat hgl; have hb2 : Below w.heap.size w w1 := ((hbel.alloc hsz _).drew).grown hgrow (by simp; omega) (fun q hq => (hown.lt q hq).1); have hcells : w1.cell? ⟨b, o + j, none⟩ = some (.int .u8 (x.toNat : Int)) ∧ w1.cell? ⟨b, o + (j + 1), none⟩ = some (.int .u8 (y.toNat : Int)) := ⟨(hb2.cell (p := ⟨b, o + j, none⟩) hbl).trans ((hbel.cell (p := ⟨b, o + j, none⟩) hbl).symm.trans hcell), (hb2.cell (p := ⟨b, o + (j + 1), none⟩) hbl).trans ((hbel.cell (p := ⟨b, o + (j + 1), none⟩) hbl).symm.trans hcell2)⟩))
      all_goals
        have hown2 := own_ints (b := [(x.toNat : Int) * 256 + (y.toNat : Int)]) hown1 (by simp)
        clear hown1 hgrow hat hgl hcells hcell hcell2 w2 w3 w4 w5 w6 w7 t1
        clear wj1
        go_wp2
        go_roundw
        case rel => exact ⟨j + 2, _, by omega, by go_num, by simp; omega, units_at hlt HX.out HY.out HE.out, hown2, hb2⟩
        case measure => simp [intOf]; omega
    · have he : out = units l := by
        have := HE.out
        rw [units_short (by rw [List.length_drop]; omega)] at this
        simpa using this
      subst he
      obtain ⟨c', _, hc', A', hv, hsl⟩ := Si.of_own hown
      subst hv
      have hlt' : ¬ (j : Int) + 1 < (l.length : Int) := by omega
      rcases Nat.mod_two_eq_zero_or_one l.length with hm | hm
      · have ho : oddB l = false := by simp [oddB, hm]
        have HO := Lib.hid ho
        have hm' : ((l.length : Int) % 2 == 1) = false := by rw [beq_eq_false_iff_ne]; omega
        clear hm ho
        go_wp2
        go_ret2
        rw [HO.out]
        exact ⟨A', c', rfl, hc', hsl, hbel⟩
      · have ho : oddB l = true := by simp [oddB, hm]
        have HO := Lib.hid ho
        have hm' : ((l.length : Int) % 2 == 1) = true := by rw [beq_iff_eq]; omega
        clear hm ho
        go_wp2
        go_ret2
        rw [HO.out]
        exact ⟨A', c', rfl, hc', hsl, hbel⟩

set_option maxHeartbeats 2000000 in
theorem rUnits_any (A : Option Addr) (c : Nat) (l : List UInt8) (w : World) (hA : Sl w w.heap.size A l) (hl : l.length ≤ 65536) :
    Calls Try.prog 13 #[.slice A l.length c] w (RetSiB w (units l) (oddB l)) := by
  obtain ⟨i0, hi, hz0, hz1, hz2⟩ := info_parts info64
  go_enter Try.func13, Try.ntmps13
  go_wp2
  go_loopw [4, 5] (fun v i wr => ∃ (j : Nat) (out : List Int), j ≤ l.length ∧ i = .int .i64 (j : Int) ∧ out.length ≤ j ∧ Hid (out ++ units (l.drop j) = units l) ∧ wr.ownsRow w.heap.size 3 1 v out.length (ivs out) ∧ Below w.heap.size w wr) (fun _ i _ => l.length + 1 - (intOf i).toNat)
  case atStart => exact ⟨0, [], Nat.zero_le _, rfl, by simp, by rfl, by simpa [ivs] using World.ownsRow_nil _ _ _ _, Below.refl _ _⟩
  case round =>
    obtain ⟨j, out, hj, rfl, hout, HE, hown, hbel⟩ := hrel
    by_cases hlt : j + 1 < l.length
    · obtain ⟨b, o, rfl, hbl, hc⟩ := hA (by omega)
      obtain ⟨x, hx⟩ : ∃ x, x = l[j]?.getD 0 := ⟨_, rfl⟩
      obtain ⟨y, hy⟩ : ∃ y, y = l[j + 1]?.getD 0 := ⟨_, rfl⟩
      have hcell : wr.cell? ⟨b, o + j, none⟩ = some (.int .u8 (x.toNat : Int)) := by rw [hx]; exact (hbel.cell (p := ⟨b, o + j, none⟩) hbl).trans (hc j (by omega))
      have hcell2 : wr.cell? ⟨b, o + (j + 1), none⟩ = some (.int .u8 (y.toNat : Int)) := by rw [hy]; exact (hbel.cell (p := ⟨b, o + (j + 1), none⟩) hbl).trans (hc (j + 1) hlt)
      have HX := Lib.hid hx
      have HY := Lib.hid hy
      clear hc hx hy
      have hsz := hbel.size
      have hx1 := x.toNat_lt
      have hy1 := y.toNat_lt
      have hlt' : (j : Int) + 1 < (l.length : Int) := by omega
      have j0 : (0 : Int) ≤ (j : Int) := by omega
      have j1 : (j : Int) < (l.length : Int) := by omega
      have j2 : (0 : Int) ≤ (j : Int) + 1 := by omega
      have hBel1 : b < wr.heap.size := by omega
      have wj1 : IntKind.i64.wrap ((j : Int) + 1) = (j : Int) + 1 := IntWalk.i64_in _ (by omega)
      have w2 : IntKind.i64.wrap (j : Int) = (j : Int) := IntWalk.i64_in _ (by omega)
      have w3 : IntKind.i64.wrap (x.toNat : Int) = (x.toNat : Int) := IntWalk.i64_in _ (by omega)
      have w4 : IntKind.i64.wrap (y.toNat : Int) = (y.toNat : Int) := IntWalk.i64_in _ (by omega)
      have w5 : IntKind.i64.wrap ((x.toNat : Int) * 256) = (x.toNat : Int) * 256 := IntWalk.i64_in _ (by omega)
      have w6 : IntKind.i64.wrap ((x.toNat : Int) * 256 + (y.toNat : Int)) = (x.toNat : Int) * 256 + (y.toNat : Int) := IntWalk.i64_in _ (by omega)
      have w7 := or_byte (x.toNat : Int) y.toNat (by omega) (by omega) (by omega)
      have t1 : ((j : Int) + 1).toNat = j + 1 := by omega
      go_wp2
      go_region_held_law (fun w' => w'.cell? ⟨b, o + j, none⟩ = some (.int .u8 (x.toNat : Int)) ∧ w'.cell? ⟨b, o + (j + 1), none⟩ = some (.int .u8 (y.toNat : Int)))
        (first | exact ⟨hcell, hcell2⟩ | exact ⟨(World.cell?_alloc_lt _ _ _ hBel1).trans hcell, (World.cell?_alloc_lt _ _ _ hBel1).trans hcell2⟩ | exact hcells)
        ((refine step_append_lies _ (by rfl) _ _ _ (by rfl) w.heap.size 3 i0 (.int .i64 0) 1 8 Try.underlying22 hi hz0 hz1 hz2 rfl (by omega) u4 _ _ (by rfl) (hown.alloc _).drew ⟨wr.heap.size, 0, none⟩ 1 1 (ivs [(x.toNat : Int) * 256 + (y.toNat : Int)]) (by rfl) (by rfl) (World.news_of_block (heap_alloc_new wr _)) (ivs_one _) (by omega) (by unfold maxLen; omega) (by omega) (by simp; omega) _ rfl ?_; intro g cap w1 hown1 hgrow hat hgl; have hb2 : Below w.heap.size w w1 := ((hbel.alloc hsz _).drew).grown hgrow (by simp; omega) (fun q hq => (hown.lt q hq).1); have hcells : w1.cell? ⟨b, o + j, none⟩ = some (.int .u8 (x.toNat : Int)) ∧ w1.cell? ⟨b, o + (j + 1), none⟩ = some (.int .u8 (y.toNat : Int)) := ⟨(hb2.cell (p := ⟨b, o + j, none⟩) hbl).trans ((hbel.cell (p := ⟨b, o + j, none⟩) hbl).symm.trans hcell), (hb2.cell (p := ⟨b, o + (j + 1), none⟩) hbl).trans ((hbel.cell (p := ⟨b, o + (j + 1), none⟩) hbl).symm.trans hcell2)⟩))
      all_goals
        have hown2 := own_ints (b := [(x.toNat : Int) * 256 + (y.toNat : Int)]) hown1 (by simp)
        clear hown1 hgrow hat hgl hcells hcell hcell2 w2 w3 w4 w5 w6 w7 t1
        clear wj1
        go_wp2
        go_roundw
        case rel => exact ⟨j + 2, _, by omega, by go_num, by simp; omega, units_at hlt HX.out HY.out HE.out, hown2, hb2⟩
        case measure => simp [intOf]; omega
    · have he : out = units l := by
        have := HE.out
        rw [units_short (by rw [List.length_drop]; omega)] at this
        simpa using this
      subst he
      obtain ⟨c', _, hc', A', hv, hsl⟩ := Si.of_own hown
      subst hv
      have hlt' : ¬ (j : Int) + 1 < (l.length : Int) := by omega
      rcases Nat.mod_two_eq_zero_or_one l.length with hm | hm
      · have ho : oddB l = false := by simp [oddB, hm]
        have HO := Lib.hid ho
        have hm' : ((l.length : Int) % 2 == 1) = false := by rw [beq_eq_false_iff_ne]; omega
        clear hm ho
        go_wp2
        go_ret2
        rw [HO.out]
        exact ⟨A', c', rfl, hc', hsl, hbel⟩
      · have ho : oddB l = true := by simp [oddB, hm]
        have HO := Lib.hid ho
        have hm' : ((l.length : Int) % 2 == 1) = true := by rw [beq_iff_eq]; omega
        clear hm ho
        go_wp2
        go_ret2
        rw [HO.out]
        exact ⟨A', c', rfl, hc', hsl, hbel⟩

end Go.Proofs.Ytclehobammhjmaa
