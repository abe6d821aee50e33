/-
  The walk of the statement SynDeep: what is deep does nothing.
-/
import Derived.Test.YthcnjiigkmljnaaDoorSynDeepP
import Derived.Test.YthcnjiigkmljnaaDoorSynAwake
import Derived.Test.YthcnjiigkmljnaaDoorPart1
namespace Go.Proofs.YthcnjiigkmljnaaDoor
open Go.RowKit

theorem items_none (A : Option Addr) (c : Nat) (w : World) : Calls Tryd.prog 11 #[.slice A 0 c] w fun r w' => r = .returned (.slice none 0 0) ∧ w' = w := by
  go_enter Tryd.func11, Tryd.ntmps11
  go_wp2
  go_loopw [3, 4] (fun v i wr => v = .slice none 0 0 ∧ i = .int .i64 0 ∧ wr = w) (fun _ _ _ => 0)
  case atStart => exact ⟨rfl, rfl, rfl⟩
  case round =>
    obtain ⟨rfl, rfl, rfl⟩ := hrel
    go_wp2
    go_ret
    exact ⟨rfl, rfl⟩
theorem St.front {w : World} {B : Nat} {A : Option Addr} {a b : List Tk} (h : St w B A (a ++ b)) : St w B A a := fun hn => by
  obtain ⟨g, o, e, hb, hc⟩ := h (by simp; omega)
  refine ⟨g, o, e, hb, fun j hj => ?_⟩
  have := hc j (by simp; omega)
  have et : tg (a ++ b) j = tg a j := by unfold tg; rw [List.getElem?_append_left hj]
  rwa [et] at this
theorem same_none (w : World) : Calls Tryd.prog 10 #[.slice none 0 0, .slice none 0 0] w fun r w' => r = .returned (.bool true) ∧ w' = w := by
  go_enter Tryd.func10, Tryd.ntmps10
  go_wp2
  go_loopw [5] (fun i wr => i = .int .i64 0 ∧ wr = w) (fun _ _ => 0)
  case atStart => exact ⟨rfl, rfl⟩
  case round =>
    obtain ⟨rfl, rfl⟩ := hrel
    go_wp2
    go_ret
    exact ⟨rfl, rfl⟩

set_option maxHeartbeats 1000000 in
theorem synDeep_long (L : List Tk) (A : Option Addr) (c : Nat) (n : Int) (w : World) (hT : Ts w) (hlen : L.length ≤ maxLen) (hl : 200 < L.length) :
    Calls Tryd.prog 5 #[.slice A L.length c, .int .i64 n] w fun e w' => e = .returned (.bool true) ∧ Below w.heap.size w w' := by
  unfold maxLen at hlen
  have d1 : decide ((200 : Int) < (L.length : Int)) = true := by simp; omega
  go_enter Tryd.func5, Tryd.ntmps5
  go_wp2_with fail
  refine (awake_any _ hT).mono ?_
  rintro e w1 ⟨rfl, hb1⟩
  go_wp2
  go_ret
  exact ⟨rfl, hb1⟩
set_option maxRecDepth 100000 in
set_option maxHeartbeats 4000000 in
theorem synDeep_any (L : List Tk) (A : Option Addr) (c : Nat) (n : Int) (w : World) (hT : Ts w) (hlen : L.length ≤ maxLen) (hst : St w w.heap.size A L) :
    Calls Tryd.prog 5 #[.slice A L.length c, .int .i64 n] w fun e w' => e = .returned (.bool true) ∧ Below w.heap.size w w' := by
  by_cases hlong : 200 < L.length
  · exact synDeep_long L A c n w hT hlen hlong
  obtain ⟨i0, hi0, hz0, hz1, hz2⟩ := info_parts infoT
  have d1 : decide ((200 : Int) < (L.length : Int)) = false := by simp; omega
  have hmask := i64_mask16 n
  obtain ⟨m, hm⟩ : ∃ m : Nat, n % 65536 = (m : Int) := ⟨(n % 65536).toNat, by omega⟩
  rw [hm] at hmask
  have hm2 : m < 65536 := by omega
  clear hm hlen
  have hcs : ∃ op : Int, (op = 6 ∨ op = 8 ∨ op = 10) ∧ ((m % 3 = 0 ∧ op = 6) ∨ (m % 3 = 1 ∧ op = 8) ∨ (m % 3 = 2 ∧ op = 10)) := by
    rcases (show m % 3 = 0 ∨ m % 3 = 1 ∨ m % 3 = 2 by omega) with h | h | h
    · exact ⟨6, .inl rfl, .inl ⟨h, rfl⟩⟩
    · exact ⟨8, .inr (.inl rfl), .inr (.inl ⟨h, rfl⟩)⟩
    · exact ⟨10, .inr (.inr rfl), .inr (.inr ⟨h, rfl⟩)⟩
  obtain ⟨op, hop, hcs⟩ := hcs
  -- what is left from the loop on
  go_enter Tryd.func5, Tryd.ntmps5
  go_wp2_with fail
  refine (awake_any _ hT).mono ?_
  rintro e w1 ⟨rfl, hb1⟩
  have hst1 := hst.over hb1
  have hT1 := hT.below' hb1
  clear hst
  have HT1 := Lib.hid hT1
  have HB1 := Lib.hid hb1
  clear hT1 hb1 hT
  rcases hcs with ⟨h3, hop2⟩ | ⟨h3, hop2⟩ | ⟨h3, hop2⟩
  · subst hop2
    have e3 : (m : Int) % 3 = ((m % 3 : Nat) : Int) := by omega
    rw [h3] at e3
    have e4 : Int.tmod (m : Int) 3 = ((m % 3 : Nat) : Int) := by rw [Int.tmod_eq_emod_of_nonneg (by omega)]; omega
    rw [h3] at e4
    clear h3
    have hown0 : ((w1.alloc (.cells #[.int .i64 6, .int .i64 8, .int .i64 10] 3)).alloc (.cells #[.int .i64 6, .int .i64 0, .int .i64 0, .string ⟨#[]⟩] 30)).ownsRow w1.heap.size 30 4 (.slice (some ⟨w1.heap.size + 1, 0, none⟩) 1 1) 1 (tvs [⟨6, 0, 0, []⟩]) := ⟨rfl, .inr ⟨w1.heap.size + 1, 1, #[.int .i64 6, .int .i64 0, .int .i64 0, .string ⟨#[]⟩], rfl, by omega, heap_alloc_two w1 _ _, Nat.le_refl _, by decide, rfl, rfl⟩⟩
    have hb0 : Below w1.heap.size w1 ((w1.alloc (.cells #[.int .i64 6, .int .i64 8, .int .i64 10] 3)).alloc (.cells #[.int .i64 6, .int .i64 0, .int .i64 0, .string ⟨#[]⟩] 30)) := ((Below.refl _ _).alloc (Nat.le_refl _) _).alloc (by simp) _
    have HO0 := Lib.hid hown0
    have HB0 := Lib.hid hb0
    clear hown0 hb0
    go_wp2
    go_loopw [7, 8] (fun v i wr => ∃ (k : Nat) (out : List Tk), k ≤ L.length ∧ i = .int .i64 (k : Int) ∧ out.length ≤ k + 1 ∧ Hid (out = ⟨6, 0, 0, []⟩ :: flat (L.take k)) ∧ Hid (wr.ownsRow w1.heap.size 30 4 v out.length (tvs out)) ∧ Hid (Below w1.heap.size w1 wr)) (fun _ i _ => L.length - (intOf i).toNat)
    case atStart => exact ⟨0, [⟨6, 0, 0, []⟩], Nat.zero_le _, rfl, by simp, Lib.hid rfl, HO0, HB0⟩
    case round =>
      obtain ⟨k, out, hk, rfl, hol, HE, HO, HB⟩ := hrel
      have hsz := HB.out.size
      by_cases hkl : k < L.length
      · have t0 : decide (k < L.length) = true := by simp; omega
        obtain ⟨b, o, hA, hbl, hcl⟩ := hst1 (by omega)
        subst hA
        obtain ⟨g0, g1, g2, g3⟩ := hcl k hkl
        have q0 := (HB.out.cell (p := ⟨b, o + k * 4, none⟩) hbl).trans g0
        have q1 := (HB.out.cell (p := ⟨b, o + k * 4 + 1, none⟩) hbl).trans g1
        have q2 := (HB.out.cell (p := ⟨b, o + k * 4 + 2, none⟩) hbl).trans g2
        have q3 := (HB.out.cell (p := ⟨b, o + k * 4 + 3, none⟩) hbl).trans g3
        have hft := flat_take hkl
        have ht : ∃ t, t = tg L k := ⟨_, rfl⟩
        obtain ⟨t, ht⟩ := ht
        rw [← ht] at q0 q1 q2 q3 hft
        clear g0 g1 g2 g3 hcl ht
        obtain ⟨tk, tt, tn, ts⟩ := t
        simp only at q0 q1 q2 q3 hft
        have HFt := Lib.hid hft
        clear hft
        by_cases h6 : tk < 6
        · have t1 : decide (tk < 6) = true := by simp; omega
          have hbw : b < wr.heap.size := by omega
          go_wp2_with (at_builtin; refine wpList_append_lies _ rfl _ _ _ rfl w1.heap.size 30 i0 (.agg #[.int .i64 0, .int .i64 0, .int .i64 0, .string ⟨#[]⟩]) 4 40 Tryd.underlying22 hi0 hz0 hz1 hz2 rfl (by omega) _ _ _ rfl (HO.out.alloc _) ⟨wr.heap.size, 0, none⟩ 1 1 (tq ⟨tk, tt, tn, ts⟩) rfl rfl (World.news_of_block (heap_alloc_new wr _)) (by intro u hu; exact tvs_one [⟨tk, tt, tn, ts⟩] u (by simpa [tvs] using hu)) (by omega) (by unfold maxLen; omega) (by omega) (by simp; omega) _ rfl ?_; intro g cap w3 hown3 hgrow hat hgl)
          have hb3 : Below w1.heap.size w1 w3 := (HB.out.alloc hsz _).grown hgrow (by simp; omega) (fun q hq => (HO.out.lt q hq).1)
          refine ⟨⟨k + 1, out ++ [⟨tk, tt, tn, ts⟩], by omega, by go_num, by simp; omega, Lib.hid (by rw [HFt.out, if_pos h6, HE.out]; rfl), Lib.hid (own_tok hown3 rfl), Lib.hid hb3⟩, by simp [intOf]; omega⟩
        · have t1 : decide (tk < 6) = false := by simp; omega
          go_wp2
          refine ⟨⟨k + 1, out, by omega, by go_num, by omega, Lib.hid (by rw [HFt.out, if_neg h6]; exact HE.out), HO, HB⟩, by simp [intOf]; omega⟩
      · have t0 : decide (k < L.length) = false := by simp; omega
        have hkL : L.take k = L := List.take_of_length_le (by omega)
        have hE := HE.out
        rw [hkL] at hE
        have HE2 := Lib.hid hE
        have hol2 : out.length ≤ 201 := by omega
        have hop1 : 1 ≤ out.length := by rw [hE]; simp
        clear hE hkL
        go_wp2_with (at_builtin; refine wpList_append_lies _ rfl _ _ _ rfl w1.heap.size 30 i0 (.agg #[.int .i64 0, .int .i64 0, .int .i64 0, .string ⟨#[]⟩]) 4 40 Tryd.underlying22 hi0 hz0 hz1 hz2 rfl (by omega) _ _ _ rfl (HO.out.alloc _) ⟨wr.heap.size, 0, none⟩ 1 1 (tq ⟨6 + 1, 0, 0, []⟩) rfl rfl (World.news_of_block (heap_alloc_new wr _)) (by intro u hu; exact tvs_one [⟨6 + 1, 0, 0, []⟩] u (by simpa [tvs] using hu)) (by omega) (by unfold maxLen; omega) (by omega) (by simp; omega) _ rfl ?_; intro g cap w3 hown3 hgrow hat hgl)
        have hb3 : Below w1.heap.size w1 w3 := (HB.out.alloc hsz _).grown hgrow (by simp; omega) (fun q hq => (HO.out.lt q hq).1)
        have hT3 := HT1.out.below' hb3
        have hst3 : St w3 w3.heap.size (some ⟨g, 0, none⟩) (out ++ [⟨6 + 1, 0, 0, []⟩]) := by
          obtain ⟨c', _, _, A', hv, hs⟩ := St.of_own (own_tok hown3 rfl)
          injection hv with e1 _ _
          subst e1
          exact hs
        have hkd : ((⟨6, 0, 0, []⟩ : Tk).kind = 6 ∨ (⟨6, 0, 0, []⟩ : Tk).kind = 8 ∨ (⟨6, 0, 0, []⟩ : Tk).kind = 10) := by decide
        have hfl : (flat L).length ≤ 1000 := by have := List.length_filter_le (fun t : Tk => decide (t.kind < 6)) L; unfold flat; omega
        have hP1 := Parse_any (L := out ++ [⟨6 + 1, 0, 0, []⟩]) (en := 9) (c := cap) w3 hst3 hT3.sec (by rw [HE2.out]; exact deep_jv hkd flat_lt (by simp) hfl)
        have hdc : ∃ j, parseT (out ++ [⟨6 + 1, 0, 0, []⟩]) 9 = .ok [] j := by rw [HE2.out]; exact deep_close hkd rfl flat_lt
        have hdo : parseT out 9 = .no 9 2 := by rw [HE2.out]; exact deep_open hkd flat_lt
        have el : (out ++ [⟨6 + 1, 0, 0, []⟩] : List Tk).length = out.length + 1 := by simp
        rw [el] at hP1
        have HP1 := Lib.hid hP1
        have HC := Lib.hid hdc
        have HDo := Lib.hid hdo
        have HS3 := Lib.hid hst3
        have hcap : out.length + 1 ≤ cap := by rcases hown3.2 with ⟨e1, _⟩ | ⟨g', cap', cur, e1, _, _, h9, _⟩; cases e1; injection e1 with _ _ e3; omega
        have HB3 := Lib.hid hb3
        have HT3 := Lib.hid hT3
        have HJ2 : Hid (Jv out [] 0) := Lib.hid (by rw [HE2.out]; have := deep_jv (R := []) hkd (flat_lt (L := L)) (by simp) hfl; simpa using this)
        clear hP1 hdc hdo hst3 hb3 hT3 el hkd hfl hown3 hgrow hat
        go_wp2_with fail
        refine HP1.out.mono ?_
        rintro r w4 ⟨hb4, h4⟩
        obtain ⟨j0, hj0⟩ := HC.out
        rw [hj0] at h4
        rcases h4 with ⟨_, _, q, _⟩ | ⟨x, j, A', c', q, rfl, hix⟩
        · cases q
        injection q with q1 _
        subst q1
        clear hix HP1
        have hT4 := HT3.out.below' hb4
        have hP2 := Parse_any (L := out) (en := 9) (c := cap) w4 (HS3.out.front.over hb4) hT4.sec HJ2.out
        have HP2 := Lib.hid hP2
        have HB4 := Lib.hid hb4
        clear hP2 hb4 hT4
        simp only [List.length_nil]
        go_wp2_with fail
        refine HP2.out.mono ?_
        rintro r w5 ⟨hb5, h5⟩
        rw [HDo.out] at h5
        rcases h5 with ⟨a5, e5, q, _, rfl⟩ | ⟨_, _, _, _, q, _⟩
        · injection q with q1 q2
          subst q1 q2
          have hbz : Below w.heap.size w w5 := HB1.out.trans ((HB3.out.trans ((HB4.out.trans (hb5.mono HB4.out.size)).mono HB3.out.size)).mono HB1.out.size)
          clear HP2 hb5
          go_wp2_with fail
          refine (items_none A' c' w5).mono ?_
          rintro r w6 ⟨rfl, rfl⟩
          go_wp2_with fail
          refine (same_none _).mono ?_
          rintro r w7 ⟨rfl, rfl⟩
          go_wp2
          go_ret
          exact ⟨rfl, hbz⟩
        · cases q
  · subst hop2
    have e3 : (m : Int) % 3 = ((m % 3 : Nat) : Int) := by omega
    rw [h3] at e3
    have e4 : Int.tmod (m : Int) 3 = ((m % 3 : Nat) : Int) := by rw [Int.tmod_eq_emod_of_nonneg (by omega)]; omega
    rw [h3] at e4
    clear h3
    have hown0 : ((w1.alloc (.cells #[.int .i64 6, .int .i64 8, .int .i64 10] 3)).alloc (.cells #[.int .i64 8, .int .i64 0, .int .i64 0, .string ⟨#[]⟩] 30)).ownsRow w1.heap.size 30 4 (.slice (some ⟨w1.heap.size + 1, 0, none⟩) 1 1) 1 (tvs [⟨8, 0, 0, []⟩]) := ⟨rfl, .inr ⟨w1.heap.size + 1, 1, #[.int .i64 8, .int .i64 0, .int .i64 0, .string ⟨#[]⟩], rfl, by omega, heap_alloc_two w1 _ _, Nat.le_refl _, by decide, rfl, rfl⟩⟩
    have hb0 : Below w1.heap.size w1 ((w1.alloc (.cells #[.int .i64 6, .int .i64 8, .int .i64 10] 3)).alloc (.cells #[.int .i64 8, .int .i64 0, .int .i64 0, .string ⟨#[]⟩] 30)) := ((Below.refl _ _).alloc (Nat.le_refl _) _).alloc (by simp) _
    have HO0 := Lib.hid hown0
    have HB0 := Lib.hid hb0
    clear hown0 hb0
    go_wp2
    go_loopw [7, 8] (fun v i wr => ∃ (k : Nat) (out : List Tk), k ≤ L.length ∧ i = .int .i64 (k : Int) ∧ out.length ≤ k + 1 ∧ Hid (out = ⟨8, 0, 0, []⟩ :: flat (L.take k)) ∧ Hid (wr.ownsRow w1.heap.size 30 4 v out.length (tvs out)) ∧ Hid (Below w1.heap.size w1 wr)) (fun _ i _ => L.length - (intOf i).toNat)
    case atStart => exact ⟨0, [⟨8, 0, 0, []⟩], Nat.zero_le _, rfl, by simp, Lib.hid rfl, HO0, HB0⟩
    case round =>
      obtain ⟨k, out, hk, rfl, hol, HE, HO, HB⟩ := hrel
      have hsz := HB.out.size
      by_cases hkl : k < L.length
      · have t0 : decide (k < L.length) = true := by simp; omega
        obtain ⟨b, o, hA, hbl, hcl⟩ := hst1 (by omega)
        subst hA
        obtain ⟨g0, g1, g2, g3⟩ := hcl k hkl
        have q0 := (HB.out.cell (p := ⟨b, o + k * 4, none⟩) hbl).trans g0
        have q1 := (HB.out.cell (p := ⟨b, o + k * 4 + 1, none⟩) hbl).trans g1
        have q2 := (HB.out.cell (p := ⟨b, o + k * 4 + 2, none⟩) hbl).trans g2
        have q3 := (HB.out.cell (p := ⟨b, o + k * 4 + 3, none⟩) hbl).trans g3
        have hft := flat_take hkl
        have ht : ∃ t, t = tg L k := ⟨_, rfl⟩
        obtain ⟨t, ht⟩ := ht
        rw [← ht] at q0 q1 q2 q3 hft
        clear g0 g1 g2 g3 hcl ht
        obtain ⟨tk, tt, tn, ts⟩ := t
        simp only at q0 q1 q2 q3 hft
        have HFt := Lib.hid hft
        clear hft
        by_cases h6 : tk < 6
        · have t1 : decide (tk < 6) = true := by simp; omega
          have hbw : b < wr.heap.size := by omega
          go_wp2_with (at_builtin; refine wpList_append_lies _ rfl _ _ _ rfl w1.heap.size 30 i0 (.agg #[.int .i64 0, .int .i64 0, .int .i64 0, .string ⟨#[]⟩]) 4 40 Tryd.underlying22 hi0 hz0 hz1 hz2 rfl (by omega) _ _ _ rfl (HO.out.alloc _) ⟨wr.heap.size, 0, none⟩ 1 1 (tq ⟨tk, tt, tn, ts⟩) rfl rfl (World.news_of_block (heap_alloc_new wr _)) (by intro u hu; exact tvs_one [⟨tk, tt, tn, ts⟩] u (by simpa [tvs] using hu)) (by omega) (by unfold maxLen; omega) (by omega) (by simp; omega) _ rfl ?_; intro g cap w3 hown3 hgrow hat hgl)
          have hb3 : Below w1.heap.size w1 w3 := (HB.out.alloc hsz _).grown hgrow (by simp; omega) (fun q hq => (HO.out.lt q hq).1)
          refine ⟨⟨k + 1, out ++ [⟨tk, tt, tn, ts⟩], by omega, by go_num, by simp; omega, Lib.hid (by rw [HFt.out, if_pos h6, HE.out]; rfl), Lib.hid (own_tok hown3 rfl), Lib.hid hb3⟩, by simp [intOf]; omega⟩
        · have t1 : decide (tk < 6) = false := by simp; omega
          go_wp2
          refine ⟨⟨k + 1, out, by omega, by go_num, by omega, Lib.hid (by rw [HFt.out, if_neg h6]; exact HE.out), HO, HB⟩, by simp [intOf]; omega⟩
      · have t0 : decide (k < L.length) = false := by simp; omega
        have hkL : L.take k = L := List.take_of_length_le (by omega)
        have hE := HE.out
        rw [hkL] at hE
        have HE2 := Lib.hid hE
        have hol2 : out.length ≤ 201 := by omega
        have hop1 : 1 ≤ out.length := by rw [hE]; simp
        clear hE hkL
        go_wp2_with (at_builtin; refine wpList_append_lies _ rfl _ _ _ rfl w1.heap.size 30 i0 (.agg #[.int .i64 0, .int .i64 0, .int .i64 0, .string ⟨#[]⟩]) 4 40 Tryd.underlying22 hi0 hz0 hz1 hz2 rfl (by omega) _ _ _ rfl (HO.out.alloc _) ⟨wr.heap.size, 0, none⟩ 1 1 (tq ⟨8 + 1, 0, 0, []⟩) rfl rfl (World.news_of_block (heap_alloc_new wr _)) (by intro u hu; exact tvs_one [⟨8 + 1, 0, 0, []⟩] u (by simpa [tvs] using hu)) (by omega) (by unfold maxLen; omega) (by omega) (by simp; omega) _ rfl ?_; intro g cap w3 hown3 hgrow hat hgl)
        have hb3 : Below w1.heap.size w1 w3 := (HB.out.alloc hsz _).grown hgrow (by simp; omega) (fun q hq => (HO.out.lt q hq).1)
        have hT3 := HT1.out.below' hb3
        have hst3 : St w3 w3.heap.size (some ⟨g, 0, none⟩) (out ++ [⟨8 + 1, 0, 0, []⟩]) := by
          obtain ⟨c', _, _, A', hv, hs⟩ := St.of_own (own_tok hown3 rfl)
          injection hv with e1 _ _
          subst e1
          exact hs
        have hkd : ((⟨8, 0, 0, []⟩ : Tk).kind = 6 ∨ (⟨8, 0, 0, []⟩ : Tk).kind = 8 ∨ (⟨8, 0, 0, []⟩ : Tk).kind = 10) := by decide
        have hfl : (flat L).length ≤ 1000 := by have := List.length_filter_le (fun t : Tk => decide (t.kind < 6)) L; unfold flat; omega
        have hP1 := Parse_any (L := out ++ [⟨8 + 1, 0, 0, []⟩]) (en := 9) (c := cap) w3 hst3 hT3.sec (by rw [HE2.out]; exact deep_jv hkd flat_lt (by simp) hfl)
        have hdc : ∃ j, parseT (out ++ [⟨8 + 1, 0, 0, []⟩]) 9 = .ok [] j := by rw [HE2.out]; exact deep_close hkd rfl flat_lt
        have hdo : parseT out 9 = .no 9 2 := by rw [HE2.out]; exact deep_open hkd flat_lt
        have el : (out ++ [⟨8 + 1, 0, 0, []⟩] : List Tk).length = out.length + 1 := by simp
        rw [el] at hP1
        have HP1 := Lib.hid hP1
        have HC := Lib.hid hdc
        have HDo := Lib.hid hdo
        have HS3 := Lib.hid hst3
        have hcap : out.length + 1 ≤ cap := by rcases hown3.2 with ⟨e1, _⟩ | ⟨g', cap', cur, e1, _, _, h9, _⟩; cases e1; injection e1 with _ _ e3; omega
        have HB3 := Lib.hid hb3
        have HT3 := Lib.hid hT3
        have HJ2 : Hid (Jv out [] 0) := Lib.hid (by rw [HE2.out]; have := deep_jv (R := []) hkd (flat_lt (L := L)) (by simp) hfl; simpa using this)
        clear hP1 hdc hdo hst3 hb3 hT3 el hkd hfl hown3 hgrow hat
        go_wp2_with fail
        refine HP1.out.mono ?_
        rintro r w4 ⟨hb4, h4⟩
        obtain ⟨j0, hj0⟩ := HC.out
        rw [hj0] at h4
        rcases h4 with ⟨_, _, q, _⟩ | ⟨x, j, A', c', q, rfl, hix⟩
        · cases q
        injection q with q1 _
        subst q1
        clear hix HP1
        have hT4 := HT3.out.below' hb4
        have hP2 := Parse_any (L := out) (en := 9) (c := cap) w4 (HS3.out.front.over hb4) hT4.sec HJ2.out
        have HP2 := Lib.hid hP2
        have HB4 := Lib.hid hb4
        clear hP2 hb4 hT4
        simp only [List.length_nil]
        go_wp2_with fail
        refine HP2.out.mono ?_
        rintro r w5 ⟨hb5, h5⟩
        rw [HDo.out] at h5
        rcases h5 with ⟨a5, e5, q, _, rfl⟩ | ⟨_, _, _, _, q, _⟩
        · injection q with q1 q2
          subst q1 q2
          have hbz : Below w.heap.size w w5 := HB1.out.trans ((HB3.out.trans ((HB4.out.trans (hb5.mono HB4.out.size)).mono HB3.out.size)).mono HB1.out.size)
          clear HP2 hb5
          go_wp2_with fail
          refine (items_none A' c' w5).mono ?_
          rintro r w6 ⟨rfl, rfl⟩
          go_wp2_with fail
          refine (same_none _).mono ?_
          rintro r w7 ⟨rfl, rfl⟩
          go_wp2
          go_ret
          exact ⟨rfl, hbz⟩
        · cases q
  · subst hop2
    have e3 : (m : Int) % 3 = ((m % 3 : Nat) : Int) := by omega
    rw [h3] at e3
    have e4 : Int.tmod (m : Int) 3 = ((m % 3 : Nat) : Int) := by rw [Int.tmod_eq_emod_of_nonneg (by omega)]; omega
    rw [h3] at e4
    clear h3
    have hown0 : ((w1.alloc (.cells #[.int .i64 6, .int .i64 8, .int .i64 10] 3)).alloc (.cells #[.int .i64 10, .int .i64 0, .int .i64 0, .string ⟨#[]⟩] 30)).ownsRow w1.heap.size 30 4 (.slice (some ⟨w1.heap.size + 1, 0, none⟩) 1 1) 1 (tvs [⟨10, 0, 0, []⟩]) := ⟨rfl, .inr ⟨w1.heap.size + 1, 1, #[.int .i64 10, .int .i64 0, .int .i64 0, .string ⟨#[]⟩], rfl, by omega, heap_alloc_two w1 _ _, Nat.le_refl _, by decide, rfl, rfl⟩⟩
    have hb0 : Below w1.heap.size w1 ((w1.alloc (.cells #[.int .i64 6, .int .i64 8, .int .i64 10] 3)).alloc (.cells #[.int .i64 10, .int .i64 0, .int .i64 0, .string ⟨#[]⟩] 30)) := ((Below.refl _ _).alloc (Nat.le_refl _) _).alloc (by simp) _
    have HO0 := Lib.hid hown0
    have HB0 := Lib.hid hb0
    clear hown0 hb0
    go_wp2
    go_loopw [7, 8] (fun v i wr => ∃ (k : Nat) (out : List Tk), k ≤ L.length ∧ i = .int .i64 (k : Int) ∧ out.length ≤ k + 1 ∧ Hid (out = ⟨10, 0, 0, []⟩ :: flat (L.take k)) ∧ Hid (wr.ownsRow w1.heap.size 30 4 v out.length (tvs out)) ∧ Hid (Below w1.heap.size w1 wr)) (fun _ i _ => L.length - (intOf i).toNat)
    case atStart => exact ⟨0, [⟨10, 0, 0, []⟩], Nat.zero_le _, rfl, by simp, Lib.hid rfl, HO0, HB0⟩
    case round =>
      obtain ⟨k, out, hk, rfl, hol, HE, HO, HB⟩ := hrel
      have hsz := HB.out.size
      by_cases hkl : k < L.length
      · have t0 : decide (k < L.length) = true := by simp; omega
        obtain ⟨b, o, hA, hbl, hcl⟩ := hst1 (by omega)
        subst hA
        obtain ⟨g0, g1, g2, g3⟩ := hcl k hkl
        have q0 := (HB.out.cell (p := ⟨b, o + k * 4, none⟩) hbl).trans g0
        have q1 := (HB.out.cell (p := ⟨b, o + k * 4 + 1, none⟩) hbl).trans g1
        have q2 := (HB.out.cell (p := ⟨b, o + k * 4 + 2, none⟩) hbl).trans g2
        have q3 := (HB.out.cell (p := ⟨b, o + k * 4 + 3, none⟩) hbl).trans g3
        have hft := flat_take hkl
        have ht : ∃ t, t = tg L k := ⟨_, rfl⟩
        obtain ⟨t, ht⟩ := ht
        rw [← ht] at q0 q1 q2 q3 hft
        clear g0 g1 g2 g3 hcl ht
        obtain ⟨tk, tt, tn, ts⟩ := t
        simp only at q0 q1 q2 q3 hft
        have HFt := Lib.hid hft
        clear hft
        by_cases h6 : tk < 6
        · have t1 : decide (tk < 6) = true := by simp; omega
          have hbw : b < wr.heap.size := by omega
          go_wp2_with (at_builtin; refine wpList_append_lies _ rfl _ _ _ rfl w1.heap.size 30 i0 (.agg #[.int .i64 0, .int .i64 0, .int .i64 0, .string ⟨#[]⟩]) 4 40 Tryd.underlying22 hi0 hz0 hz1 hz2 rfl (by omega) _ _ _ rfl (HO.out.alloc _) ⟨wr.heap.size, 0, none⟩ 1 1 (tq ⟨tk, tt, tn, ts⟩) rfl rfl (World.news_of_block (heap_alloc_new wr _)) (by intro u hu; exact tvs_one [⟨tk, tt, tn, ts⟩] u (by simpa [tvs] using hu)) (by omega) (by unfold maxLen; omega) (by omega) (by simp; omega) _ rfl ?_; intro g cap w3 hown3 hgrow hat hgl)
          have hb3 : Below w1.heap.size w1 w3 := (HB.out.alloc hsz _).grown hgrow (by simp; omega) (fun q hq => (HO.out.lt q hq).1)
          refine ⟨⟨k + 1, out ++ [⟨tk, tt, tn, ts⟩], by omega, by go_num, by simp; omega, Lib.hid (by rw [HFt.out, if_pos h6, HE.out]; rfl), Lib.hid (own_tok hown3 rfl), Lib.hid hb3⟩, by simp [intOf]; omega⟩
        · have t1 : decide (tk < 6) = false := by simp; omega
          go_wp2
          refine ⟨⟨k + 1, out, by omega, by go_num, by omega, Lib.hid (by rw [HFt.out, if_neg h6]; exact HE.out), HO, HB⟩, by simp [intOf]; omega⟩
      · have t0 : decide (k < L.length) = false := by simp; omega
        have hkL : L.take k = L := List.take_of_length_le (by omega)
        have hE := HE.out
        rw [hkL] at hE
        have HE2 := Lib.hid hE
        have hol2 : out.length ≤ 201 := by omega
        have hop1 : 1 ≤ out.length := by rw [hE]; simp
        clear hE hkL
        go_wp2_with (at_builtin; refine wpList_append_lies _ rfl _ _ _ rfl w1.heap.size 30 i0 (.agg #[.int .i64 0, .int .i64 0, .int .i64 0, .string ⟨#[]⟩]) 4 40 Tryd.underlying22 hi0 hz0 hz1 hz2 rfl (by omega) _ _ _ rfl (HO.out.alloc _) ⟨wr.heap.size, 0, none⟩ 1 1 (tq ⟨10 + 1, 0, 0, []⟩) rfl rfl (World.news_of_block (heap_alloc_new wr _)) (by intro u hu; exact tvs_one [⟨10 + 1, 0, 0, []⟩] u (by simpa [tvs] using hu)) (by omega) (by unfold maxLen; omega) (by omega) (by simp; omega) _ rfl ?_; intro g cap w3 hown3 hgrow hat hgl)
        have hb3 : Below w1.heap.size w1 w3 := (HB.out.alloc hsz _).grown hgrow (by simp; omega) (fun q hq => (HO.out.lt q hq).1)
        have hT3 := HT1.out.below' hb3
        have hst3 : St w3 w3.heap.size (some ⟨g, 0, none⟩) (out ++ [⟨10 + 1, 0, 0, []⟩]) := by
          obtain ⟨c', _, _, A', hv, hs⟩ := St.of_own (own_tok hown3 rfl)
          injection hv with e1 _ _
          subst e1
          exact hs
        have hkd : ((⟨10, 0, 0, []⟩ : Tk).kind = 6 ∨ (⟨10, 0, 0, []⟩ : Tk).kind = 8 ∨ (⟨10, 0, 0, []⟩ : Tk).kind = 10) := by decide
        have hfl : (flat L).length ≤ 1000 := by have := List.length_filter_le (fun t : Tk => decide (t.kind < 6)) L; unfold flat; omega
        have hP1 := Parse_any (L := out ++ [⟨10 + 1, 0, 0, []⟩]) (en := 9) (c := cap) w3 hst3 hT3.sec (by rw [HE2.out]; exact deep_jv hkd flat_lt (by simp) hfl)
        have hdc : ∃ j, parseT (out ++ [⟨10 + 1, 0, 0, []⟩]) 9 = .ok [] j := by rw [HE2.out]; exact deep_close hkd rfl flat_lt
        have hdo : parseT out 9 = .no 9 2 := by rw [HE2.out]; exact deep_open hkd flat_lt
        have el : (out ++ [⟨10 + 1, 0, 0, []⟩] : List Tk).length = out.length + 1 := by simp
        rw [el] at hP1
        have HP1 := Lib.hid hP1
        have HC := Lib.hid hdc
        have HDo := Lib.hid hdo
        have HS3 := Lib.hid hst3
        have hcap : out.length + 1 ≤ cap := by rcases hown3.2 with ⟨e1, _⟩ | ⟨g', cap', cur, e1, _, _, h9, _⟩; cases e1; injection e1 with _ _ e3; omega
        have HB3 := Lib.hid hb3
        have HT3 := Lib.hid hT3
        have HJ2 : Hid (Jv out [] 0) := Lib.hid (by rw [HE2.out]; have := deep_jv (R := []) hkd (flat_lt (L := L)) (by simp) hfl; simpa using this)
        clear hP1 hdc hdo hst3 hb3 hT3 el hkd hfl hown3 hgrow hat
        go_wp2_with fail
        refine HP1.out.mono ?_
        rintro r w4 ⟨hb4, h4⟩
        obtain ⟨j0, hj0⟩ := HC.out
        rw [hj0] at h4
        rcases h4 with ⟨_, _, q, _⟩ | ⟨x, j, A', c', q, rfl, hix⟩
        · cases q
        injection q with q1 _
        subst q1
        clear hix HP1
        have hT4 := HT3.out.below' hb4
        have hP2 := Parse_any (L := out) (en := 9) (c := cap) w4 (HS3.out.front.over hb4) hT4.sec HJ2.out
        have HP2 := Lib.hid hP2
        have HB4 := Lib.hid hb4
        clear hP2 hb4 hT4
        simp only [List.length_nil]
        go_wp2_with fail
        refine HP2.out.mono ?_
        rintro r w5 ⟨hb5, h5⟩
        rw [HDo.out] at h5
        rcases h5 with ⟨a5, e5, q, _, rfl⟩ | ⟨_, _, _, _, q, _⟩
        · injection q with q1 q2
          subst q1 q2
          have hbz : Below w.heap.size w w5 := HB1.out.trans ((HB3.out.trans ((HB4.out.trans (hb5.mono HB4.out.size)).mono HB3.out.size)).mono HB1.out.size)
          clear HP2 hb5
          go_wp2_with fail
          refine (items_none A' c' w5).mono ?_
          rintro r w6 ⟨rfl, rfl⟩
          go_wp2_with fail
          refine (same_none _).mono ?_
          rintro r w7 ⟨rfl, rfl⟩
          go_wp2
          go_ret
          exact ⟨rfl, hbz⟩
        · cases q
end Go.Proofs.YthcnjiigkmljnaaDoor
