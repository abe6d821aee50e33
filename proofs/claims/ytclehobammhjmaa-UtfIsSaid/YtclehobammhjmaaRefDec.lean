/-
  The document's own Dec16: units as values.
-/
import Derived.Test.YtclehobammhjmaaUtfDec
import Derived.Deep.RegionHeldLaw
namespace Go.Proofs.Ytclehobammhjmaa
open Go.RowKit

set_option maxHeartbeats 2000000 in
theorem rDec16_any (A : Option Addr) (c : Nat) (l : List Int) (w : World) (hA : Si w w.heap.size A l) (hl : l.length ≤ 65536) :
    Calls Try.prog 18 #[.slice A l.length c] w (RetSi w (dec16 l)) := by
  obtain ⟨i0, hi, hz0, hz1, hz2⟩ := info_parts info64
  go_enter Try.func18, Try.ntmps18
  go_wp2
  go_loopw [3, 4] (fun v i wr => ∃ (k : Nat) (out : List Int), k ≤ l.length ∧ i = .int .i64 k ∧ out.length ≤ k ∧ Hid (out ++ dec16 (l.drop k) = dec16 l) ∧ wr.ownsRow w.heap.size 3 1 v out.length (ivs out) ∧ Below w.heap.size w wr) (fun _ i _ => l.length - (intOf i).toNat)
  case atStart => exact ⟨0, [], Nat.zero_le _, rfl, by simp, by rfl, by simpa [ivs] using World.ownsRow_nil _ _ _ _, Below.refl _ _⟩
  case round =>
    obtain ⟨k, out, hk, rfl, hout, HE, hown, hbel⟩ := hrel
    by_cases hlt : k < l.length
    · obtain ⟨b, o, rfl, hbl, hc⟩ := hA (by omega)
      obtain ⟨x, hx⟩ : ∃ x, x = l[k]?.getD 0 := ⟨_, rfl⟩
      have hcell : wr.cell? ⟨b, o + k, none⟩ = some (.int .i64 x) := by rw [hx]; exact (hbel.cell (p := ⟨b, o + k, none⟩) hbl).trans (hc k hlt)
      have HX := Lib.hid hx
      have HC := Lib.hid hc
      clear hc hx
      have hsz := hbel.size
      obtain ⟨z, hz⟩ : ∃ z, z = sc x := ⟨_, rfl⟩
      have hS : ∀ w, Calls Try.prog 30 #[.int .i64 x] w fun e w' => e = .returned (.int .i64 z) ∧ w = w' := fun w => by rw [hz]; exact rgood_any x w
      have HS := Lib.hid hS
      have HZ := Lib.hid hz
      clear hS hz
      cases hh : hiB x with
      | true =>
        obtain ⟨hu, hg, hone⟩ := high_unit hh
        have HO := Lib.hid hone
        have hxb := (hiB_iff x).1 hh
        have x0 := hxb.1
        have x1 := hxb.2
        have x2 : ¬ 65535 < x := by omega
        clear hone hxb hu hg
        by_cases h2 : k + 1 < l.length
        · obtain ⟨y, hy⟩ : ∃ y, y = l[k + 1]?.getD 0 := ⟨_, rfl⟩
          have hcell2 : wr.cell? ⟨b, o + (k + 1), none⟩ = some (.int .i64 y) := by rw [hy]; exact (hbel.cell (p := ⟨b, o + (k + 1), none⟩) hbl).trans (HC.out (k + 1) h2)
          have HY := Lib.hid hy
          clear hy
          have h3 : (k : Int) + 1 < (l.length : Int) := by omega
          cases hl2 : loB y with
          | true =>
            have hyb := (loB_iff y).1 hl2
            have y0 := hyb.1
            have y1 := hyb.2
            clear hyb
            have j0 : (0 : Int) ≤ (k : Int) := by omega
            have j1 : (k : Int) < (l.length : Int) := by omega
            have j2 : (0 : Int) ≤ (k : Int) + 1 := by omega
            have hBel1 : b < wr.heap.size := by omega
            have e1 : IntKind.i64.wrap (x - 55296) = x - 55296 := IntWalk.i64_in _ (by omega)
            have e2 : IntKind.i64.wrap ((x - 55296) * 1024) = (x - 55296) * 1024 := IntWalk.i64_in _ (by omega)
            have e3 : IntKind.i64.wrap (65536 + (x - 55296) * 1024) = 65536 + (x - 55296) * 1024 := IntWalk.i64_in _ (by omega)
            have e4 : IntKind.i64.wrap (65536 + (x - 55296) * 1024 + y) = 65536 + (x - 55296) * 1024 + y := IntWalk.i64_in _ (by omega)
            have e5 : IntKind.i64.wrap (65536 + (x - 55296) * 1024 + y - 56320) = 65536 + (x - 55296) * 1024 + y - 56320 := IntWalk.i64_in _ (by omega)
            have e6 : IntKind.i64.wrap ((k : Int) + 1) = (k : Int) + 1 := IntWalk.i64_in _ (by omega)
            have e7 : ((k : Int) + 1).toNat = k + 1 := by omega
            go_wp2_with (first | (go_at_call 32; refine (rhigh_any _ _).mono ?_; rintro e w' ⟨rfl, rfl⟩) | (go_at_call 33; refine (rlow_any _ _).mono ?_; rintro e w' ⟨rfl, rfl⟩) | (go_at_call 30; refine (HS.out _).mono ?_; rintro e w' ⟨rfl, rfl⟩))
            go_region_held_law (fun w' => w'.cell? ⟨b, o + k, none⟩ = some (.int .i64 x) ∧ w'.cell? ⟨b, o + (k + 1), none⟩ = some (.int .i64 y))
              (first | exact ⟨hcell, hcell2⟩ | exact ⟨(World.cell?_alloc_lt _ _ _ hBel1).trans hcell, (World.cell?_alloc_lt _ _ _ hBel1).trans hcell2⟩ | exact hcells)
              ((refine step_append_lies _ (by rfl) _ _ _ (by rfl) w.heap.size 3 i0 (.int .i64 0) 1 8 Try.underlying22 hi hz0 hz1 hz2 rfl (by omega) u3 _ _ (by rfl) (hown.alloc _).drew ⟨wr.heap.size, 0, none⟩ 1 1 (ivs [65536 + (x - 55296) * 1024 + y - 56320]) (by rfl) (by rfl) (World.news_of_block (heap_alloc_new wr _)) (ivs_one _) (by omega) (by unfold maxLen; omega) (by omega) (by simp; omega) _ rfl ?_; intro g cap w1 hown1 hgrow hat hgl; have hb2 : Below w.heap.size w w1 := ((hbel.alloc hsz _).drew).grown hgrow (by simp; omega) (fun q hq => (hown.lt q hq).1); have hcells : w1.cell? ⟨b, o + k, none⟩ = some (.int .i64 x) ∧ w1.cell? ⟨b, o + (k + 1), none⟩ = some (.int .i64 y) := ⟨(hb2.cell (p := ⟨b, o + k, none⟩) hbl).trans ((hbel.cell (p := ⟨b, o + k, none⟩) hbl).symm.trans hcell), (hb2.cell (p := ⟨b, o + (k + 1), none⟩) hbl).trans ((hbel.cell (p := ⟨b, o + (k + 1), none⟩) hbl).symm.trans hcell2)⟩))
            all_goals
              have hown2 := own_ints (b := [65536 + (x - 55296) * 1024 + y - 56320]) hown1 (by simp)
              clear hown1 hgrow hat hgl hcells hcell hcell2 e1 e2 e3 e4 e5 e6 e7
              go_wp2
              go_roundw
              case rel => exact ⟨k + 2, _, by omega, by go_num, by simp; omega, dec16_atPair h2 HX.out HY.out hh hl2 HE.out, hown2, hb2⟩
              case measure => simp [intOf]; omega
          | false =>
            go_wp2_with (first | (go_at_call 32; refine (rhigh_any _ _).mono ?_; rintro e w' ⟨rfl, rfl⟩) | (go_at_call 33; refine (rlow_any _ _).mono ?_; rintro e w' ⟨rfl, rfl⟩) | (go_at_call 30; refine (HS.out _).mono ?_; rintro e w' ⟨rfl, rfl⟩) | (at_builtin; refine wpList_append_lies _ rfl _ _ _ rfl w.heap.size 3 i0 (.int .i64 0) 1 8 Try.underlying22 hi hz0 hz1 hz2 rfl (by omega) u3 _ _ rfl (hown.alloc _) ⟨wr.heap.size, 0, none⟩ 1 1 (ivs [z]) rfl rfl (World.news_of_block (heap_alloc_new wr _)) (ivs_one _) (by omega) (by unfold maxLen; omega) (by omega) (by simp; omega) _ rfl ?_; intro g cap w1 hown1 hgrow hat hgl))
            go_roundw
            case rel =>
              have h1 := dec16_atLone hlt HX.out (.inr (.inr (by rw [← HY.out]; exact hl2))) ((one16_small (by omega)).trans HZ.out.symm) HE.out
              exact ⟨k + 1, out ++ [z], by omega, by go_num, by simp; omega, h1, own_ints hown1 (by simp), (hbel.alloc hsz _).grown hgrow (by simp; omega) (fun q hq => (hown.lt q hq).1)⟩
            case measure => simp [intOf]; omega
        · have h3 : ¬ (k : Int) + 1 < (l.length : Int) := by omega
          go_wp2_with (first | (go_at_call 32; refine (rhigh_any _ _).mono ?_; rintro e w' ⟨rfl, rfl⟩) | (go_at_call 33; refine (rlow_any _ _).mono ?_; rintro e w' ⟨rfl, rfl⟩) | (go_at_call 30; refine (HS.out _).mono ?_; rintro e w' ⟨rfl, rfl⟩) | (at_builtin; refine wpList_append_lies _ rfl _ _ _ rfl w.heap.size 3 i0 (.int .i64 0) 1 8 Try.underlying22 hi hz0 hz1 hz2 rfl (by omega) u3 _ _ rfl (hown.alloc _) ⟨wr.heap.size, 0, none⟩ 1 1 (ivs [z]) rfl rfl (World.news_of_block (heap_alloc_new wr _)) (ivs_one _) (by omega) (by unfold maxLen; omega) (by omega) (by simp; omega) _ rfl ?_; intro g cap w1 hown1 hgrow hat hgl))
          go_roundw
          case rel =>
            have h1 := dec16_atLone hlt HX.out (.inr (.inl (by omega))) ((one16_small (by omega)).trans HZ.out.symm) HE.out
            exact ⟨k + 1, out ++ [z], by omega, by go_num, by simp; omega, h1, own_ints hown1 (by simp), (hbel.alloc hsz _).grown hgrow (by simp; omega) (fun q hq => (hown.lt q hq).1)⟩
          case measure => simp [intOf]; omega
      | false =>
        by_cases hbig : x ≤ 65535
        · have hbig' : ¬ 65535 < x := by omega
          go_wp2_with (first | (go_at_call 32; refine (rhigh_any _ _).mono ?_; rintro e w' ⟨rfl, rfl⟩) | (go_at_call 33; refine (rlow_any _ _).mono ?_; rintro e w' ⟨rfl, rfl⟩) | (go_at_call 30; refine (HS.out _).mono ?_; rintro e w' ⟨rfl, rfl⟩) | (at_builtin; refine wpList_append_lies _ rfl _ _ _ rfl w.heap.size 3 i0 (.int .i64 0) 1 8 Try.underlying22 hi hz0 hz1 hz2 rfl (by omega) u3 _ _ rfl (hown.alloc _) ⟨wr.heap.size, 0, none⟩ 1 1 (ivs [z]) rfl rfl (World.news_of_block (heap_alloc_new wr _)) (ivs_one _) (by omega) (by unfold maxLen; omega) (by omega) (by simp; omega) _ rfl ?_; intro g cap w1 hown1 hgrow hat hgl))
          go_roundw
          case rel =>
            have h1 := dec16_atLone hlt HX.out (.inl hh) ((one16_small (by omega)).trans HZ.out.symm) HE.out
            exact ⟨k + 1, out ++ [z], by omega, by go_num, by simp; omega, h1, own_ints hown1 (by simp), (hbel.alloc hsz _).grown hgrow (by simp; omega) (fun q hq => (hown.lt q hq).1)⟩
          case measure => simp [intOf]; omega
        · have hbig' : 65535 < x := by omega
          go_wp2_with (first | (go_at_call 32; refine (rhigh_any _ _).mono ?_; rintro e w' ⟨rfl, rfl⟩) | (go_at_call 33; refine (rlow_any _ _).mono ?_; rintro e w' ⟨rfl, rfl⟩) | (go_at_call 30; refine (HS.out _).mono ?_; rintro e w' ⟨rfl, rfl⟩) | (at_builtin; refine wpList_append_lies _ rfl _ _ _ rfl w.heap.size 3 i0 (.int .i64 0) 1 8 Try.underlying22 hi hz0 hz1 hz2 rfl (by omega) u3 _ _ rfl (hown.alloc _) ⟨wr.heap.size, 0, none⟩ 1 1 (ivs [65533]) rfl rfl (World.news_of_block (heap_alloc_new wr _)) (ivs_one _) (by omega) (by unfold maxLen; omega) (by omega) (by simp; omega) _ rfl ?_; intro g cap w1 hown1 hgrow hat hgl))
          go_roundw
          case rel =>
            have h1 := dec16_atLone hlt HX.out (.inl hh) (one16_big (by omega)) HE.out
            exact ⟨k + 1, out ++ [65533], by omega, by go_num, by simp; omega, h1, own_ints hown1 (by simp), (hbel.alloc hsz _).grown hgrow (by simp; omega) (fun q hq => (hown.lt q hq).1)⟩
          case measure => simp [intOf]; omega
    · have he : out = dec16 l := by
        have := HE.out
        rw [List.drop_eq_nil_of_le (by omega)] at this
        simpa [dec16] using this
      subst he
      obtain ⟨c', _, hc', A', hv, hsl⟩ := Si.of_own hown
      subst hv
      go_wp2
      go_ret
      exact ⟨A', c', rfl, hc', hsl, hbel⟩
end Go.Proofs.Ytclehobammhjmaa
