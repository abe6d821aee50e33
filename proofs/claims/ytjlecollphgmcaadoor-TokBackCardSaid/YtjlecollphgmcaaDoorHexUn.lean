/-
  hex.UnHex: the bytes of digits, or the place of the first byte that may not be there: of every text of at most a million bytes.
-/
import Derived.Test.YtjlecollphgmcaaDoorStrGet
import Derived.Test.YtjlecollphgmcaaDoorHexPack
import Derived.Test.YtjlecollphgmcaaDoorMem
import Derived.Test.YtjlecollphgmcaaDoorHexHex
import Derived.Deep.AppendLies
namespace Go.Proofs.YtjlecollphgmcaaDoor
open Go.RowKit

theorem or_fin : ∀ a d : Fin 16, (16 * a.val) ||| d.val = 16 * a.val + d.val := by decide
theorem or_low (a d : Nat) (ha : a < 16) (hd : d < 16) : bits .or .u8 (16 * (a : Int)) (d : Int) = 16 * (a : Int) + d := by
  have h := u8_or_nat (16 * a) d (by omega) (by omega)
  rw [or_fin ⟨a, ha⟩ ⟨d, hd⟩] at h
  simpa using h
theorem byte_toNat (n : Nat) (h : n < 256) : ((UInt8.ofNat n).toNat : Int) = n := by simp; omega

theorem set_last (p : List UInt8) (x y : UInt8) (z : Int) (h : (y.toNat : Int) = z) : (bvs (p ++ [x])).set p.length (.int .u8 z) = bvs (p ++ [y]) := by
  subst h
  simp only [bvs, List.map_append, List.map_cons, List.map_nil]
  rw [List.set_append_right _ _ (by simp)]
  simp
theorem nibs_white {l : List UInt8} {k : Nat} {x : UInt8} (hk : k < l.length) (hx : x = l[k]?.getD 0) (h : kb x = 1) : nibs (l.take (k + 1)) = nibs (l.take k) := by
  rw [take_snoc l k hk, nibs_append, nibs_one, if_neg (by rw [← hx]; omega), List.append_nil]
theorem nibs_digit {l : List UInt8} {k : Nat} {x : UInt8} (hk : k < l.length) (hx : x = l[k]?.getD 0) (h : 2 ≤ kb x) : nibs (l.take (k + 1)) = nibs (l.take k) ++ [(kb x - 2).toNat] := by
  rw [take_snoc l k hk, nibs_append, nibs_one, if_pos (by rw [← hx]; omega), ← hx]

set_option maxHeartbeats 2000000 in
theorem UnHex_any (l : List UInt8) (w : World) (ht : Tab w) (hl : l.length ≤ 1048576) :
    Calls Tryd.prog 37 #[.string (str l)] w (RetBytes w (unB l) (unN l) (unE l)) := by
  obtain ⟨i0, hi, hz0, hz1, hz2⟩ := info_parts info8
  go_enter Tryd.func37, Tryd.ntmps37
  go_wp2
  go_loopw [5, 6, 7] (fun v h i wr => ∃ k : Nat, k ≤ l.length ∧ i = .int .i64 k ∧ h = .bool (decide ((nibs (l.take k)).length % 2 = 1)) ∧ wr.ownsRow w.heap.size 5 1 v (pack (nibs (l.take k))).length (bvs (pack (nibs (l.take k)))) ∧ Good (l.take k) ∧ Below w.heap.size w wr) (fun _ _ i _ => l.length - (intOf i).toNat)
  case atStart => exact ⟨0, Nat.zero_le _, rfl, by simp [nibs], by simpa [nibs, pack, bvs] using World.ownsRow_nil _ _ _ _, fun b hb => by simp at hb, Below.refl _ _⟩
  case round =>
    obtain ⟨k, hk, rfl, rfl, hown, hgood, hbel⟩ := hrel
    by_cases hlt : k < l.length
    · obtain ⟨x, hx⟩ : ∃ x, x = l[k]?.getD 0 := ⟨_, rfl⟩
      have hgs : ∀ h, (str l)[k]'h = x := fun h => (get_str l k h).trans hx.symm
      have hx1 := x.toNat_lt
      have HX := Lib.hid hx
      have ht' : Tab wr := ht.below' hbel
      have hkb := kb_bounds x
      have hsz := hbel.size
      clear hx
      rcases (show kb x = 1 ∨ kb x = 0 ∨ 2 ≤ kb x by omega) with h1 | h1 | h1
      · have hw : (kz (x.toNat : Int) == 1) = true := by simpa [kb] using h1
        have H1 := Lib.hid h1
        have HG := Lib.hid hgood
        clear h1 hgood
        go_wp2_with (go_at_call 16; refine (White_any _ _ ht').mono ?_; rintro e w' ⟨rfl, rfl⟩)
        go_roundw
        case rel =>
          have e := nibs_white hlt HX.out H1.out
          exact ⟨k + 1, by omega, by go_num, by rw [e], by rw [e]; exact hown, good_snoc hlt HG.out (by rw [← HX.out, H1.out]; decide), hbel⟩
        case measure => simp [intOf]; omega
      · have hw : (kz (x.toNat : Int) == 1) = false := by
          have h1' : kz (x.toNat : Int) = 0 := h1
          rw [h1']; rfl
        have hk0 : kz (x.toNat : Int) < 2 := by
          have h1' : kz (x.toNat : Int) = 0 := h1
          omega
        have hbad := bad_at hlt hgood (by rw [← HX.out]; exact h1)
        have HB := Lib.hid hbad
        have H1 := Lib.hid h1
        have HG := Lib.hid hgood
        clear h1 hgood hbad
        go_wp2_with (first | (go_at_call 16; refine (White_any _ _ ht').mono ?_; rintro e w' ⟨rfl, rfl⟩) | (go_at_call 51; refine (Digit_no _ _ ht' hk0).mono ?_; rintro e w' ⟨rfl, rfl⟩))
        go_ret3
        obtain ⟨e1, e2, e3⟩ := un_bad (l := l) (by rw [HB.out]; exact hlt)
        rw [e1, e2, e3, HB.out]
        exact ⟨none, 0, rfl, Nat.le_refl _, Sl.nil, hbel⟩
      · have hw : (kz (x.toNat : Int) == 1) = false := by
          have h1' : 2 ≤ kz (x.toNat : Int) := h1
          have : kz (x.toNat : Int) ≠ 1 := by omega
          simpa using this
        have hk2 : 2 ≤ kz (x.toNat : Int) := h1
        obtain ⟨d, hd⟩ : ∃ d : Nat, kz (x.toNat : Int) - 2 = (d : Int) := ⟨(kz (x.toNat : Int) - 2).toNat, by omega⟩
        have hd16 : d < 16 := by have := kz_bounds (x.toNat : Int); omega
        have hnd : (kb x - 2).toNat = d := by show (kz (x.toNat : Int) - 2).toNat = d; omega
        have HN := Lib.hid hnd
        have H1 := Lib.hid h1
        have HG := Lib.hid hgood
        have hkl := nibs_length (l.take k)
        have hll : (l.take k).length ≤ k := List.length_take_le _ _
        clear h1 hgood hnd
        by_cases hodd : (nibs (l.take k)).length % 2 = 1
        · obtain ⟨p, a, ha, hp, hpl, hpd⟩ := pack_odd _ hodd
          have ha16 := nibs_lt ha
          have hlen : (pack (nibs (l.take k))).length = p.length + 1 := by rw [hp]; simp
          have hhalf : decide ((nibs (l.take k)).length % 2 = 1) = true := by simpa using hodd
          rw [hlen, hp] at hown
          obtain ⟨g, cap, rfl, hgb, hgl⟩ := hown.form (by omega)
          have hlast : ((UInt8.ofNat (16 * a)).toNat : Int) = 16 * (a : Int) := by rw [byte_toNat _ (by omega)]; omega
          have hcell : wr.cell? ⟨g, p.length, none⟩ = some (.int .u8 (16 * (a : Int))) := by
            rw [hown.cellAt p.length (by omega), bvs_get _ _ (by simp), ← hlast]; simp
          have hfz : wr.frozen? ⟨g, p.length, none⟩ = false := hown.frozenAt p.length
          have hor := or_low a d ha16 hd16
          have hpk : p.length ≤ k := by omega
          have HP := Lib.hid hpd
          have HO := Lib.hid hodd
          have HP2 := Lib.hid hp
          have HP3 := Lib.hid hpl
          have HP4 := Lib.hid hlen
          clear hpd hodd hp hpl hlen hlast
          go_wp2_with (first | (go_at_call 16; refine (White_any _ _ ht').mono ?_; rintro e w' ⟨rfl, rfl⟩) | (go_at_call 51; refine (Digit_yes _ _ ht' hk2).mono ?_; rintro e w' ⟨rfl, rfl⟩))
          go_roundw
          case rel =>
            have e : nibs (l.take (k + 1)) = nibs (l.take k) ++ [d] := by rw [nibs_digit hlt HX.out H1.out, HN.out]
            have e2 : pack (nibs (l.take (k + 1))) = p ++ [UInt8.ofNat (16 * a + d)] := by rw [e, HP.out]
            have e3 : (pack (nibs (l.take (k + 1)))).length = p.length + 1 := by rw [e2]; simp
            have hst := (hown.stored p.length (.int .u8 (16 * (a : Int) + d))).1
            have e4 : (bvs (p ++ [UInt8.ofNat (16 * a)])).set p.length (.int .u8 (16 * (a : Int) + d)) = bvs (p ++ [UInt8.ofNat (16 * a + d)]) := set_last p _ _ _ (by rw [byte_toNat _ (by omega)]; omega)
            refine ⟨k + 1, by omega, by go_num, ?_, ?_, good_snoc hlt HG.out (by rw [← HX.out]; have := H1.out; omega), hbel.setCell hgb _⟩
            · rw [e, List.length_append]
              have := HO.out
              have h2 : ¬ ((nibs (l.take k)).length + [d].length) % 2 = 1 := by simp only [List.length_singleton]; omega
              exact congrArg Value.bool (decide_eq_false h2).symm
            · rw [e3, e2, ← e4]
              exact hst
          case measure => simp [intOf]; omega
        · have hhalf : decide ((nibs (l.take k)).length % 2 = 1) = false := by simpa using hodd
          have hpe := pack_even _ (show (nibs (l.take k)).length % 2 = 0 by omega) [d]
          have hpl := pack_length (nibs (l.take k))
          have HP := Lib.hid hpe
          have HO := Lib.hid hodd
          have hple : (pack (nibs (l.take k))).length ≤ k := by omega
          clear hpe hodd hpl
          go_wp2_with (first | (go_at_call 16; refine (White_any _ _ ht').mono ?_; rintro e w' ⟨rfl, rfl⟩) | (go_at_call 51; refine (Digit_yes _ _ ht' hk2).mono ?_; rintro e w' ⟨rfl, rfl⟩) | (at_builtin; refine wpList_append_lies _ rfl (.tmp 42) (.tmp 46) _ rfl w.heap.size 5 i0 (.int .u8 0) 1 1 Tryd.underlying35 hi hz0 hz1 hz2 rfl (by omega) u5 _ _ rfl (hown.alloc _) ⟨wr.heap.size, 0, none⟩ 1 1 [.int .u8 ((d : Int) * 16)] rfl rfl (World.news_of_block (heap_alloc_new wr _)) (by intro u hu; simp at hu; subst hu; rfl) (by omega) (by unfold maxLen; omega) (by omega) (by simp; omega) _ rfl ?_; intro g cap w1 hown1 hgrow hat hgl))
          go_roundw
          case rel =>
            have e : nibs (l.take (k + 1)) = nibs (l.take k) ++ [d] := by rw [nibs_digit hlt HX.out H1.out, HN.out]
            have e2 : pack (nibs (l.take (k + 1))) = pack (nibs (l.take k)) ++ [UInt8.ofNat (16 * d)] := by rw [e, HP.out]; rfl
            have e3 : (pack (nibs (l.take (k + 1)))).length = (pack (nibs (l.take k))).length + 1 := by rw [e2]; simp
            have e4 : bvs (pack (nibs (l.take (k + 1)))) = bvs (pack (nibs (l.take k))) ++ [.int .u8 ((d : Int) * 16)] := by
              rw [e2, bvs_append]
              have : ((UInt8.ofNat (16 * d)).toNat : Int) = (d : Int) * 16 := by rw [byte_toNat _ (by omega)]; omega
              simp only [bvs, List.map_cons, List.map_nil, this]
            refine ⟨k + 1, by omega, by go_num, ?_, ?_, good_snoc hlt HG.out (by rw [← HX.out]; have := H1.out; omega), (hbel.alloc hsz _).grown hgrow (by simp; omega) (fun q hq => (hown.lt q hq).1)⟩
            · rw [e, List.length_append]
              have := HO.out
              have h2 : ((nibs (l.take k)).length + [d].length) % 2 = 1 := by simp only [List.length_singleton]; omega
              exact congrArg Value.bool (decide_eq_true h2).symm
            · rw [e3, e4]
              exact hown1
          case measure => simp [intOf]; omega
    · have hkl : k = l.length := by omega
      obtain rfl : l.length = k := hkl.symm
      rw [List.take_of_length_le (Nat.le_refl _)] at hown hgood
      obtain ⟨c', _, hc', A', hv, hsl⟩ := Sl.of_own hown
      subst hv
      obtain ⟨e1, e2, e3⟩ := un_good hgood
      have E1 := Lib.hid e1
      have E2 := Lib.hid e2
      have E3 := Lib.hid e3
      have HG := Lib.hid hgood
      clear e1 e2 e3 hgood
      go_wp2
      go_ret3
      rw [E1.out, E2.out, E3.out]
      exact ⟨A', c', rfl, hc', hsl, hbel⟩
theorem UnHex_bad (l : List UInt8) (w : World) (ht : Tab w) (hl : l.length ≤ 1048576) (h : bad l < l.length) : Calls Tryd.prog 37 #[.string (str l)] w (RetBytes w [] (bad l) 1) := by
  obtain ⟨e1, e2, e3⟩ := un_bad h
  have := UnHex_any l w ht hl
  rwa [e1, e2, e3] at this
theorem UnHex_good (l : List UInt8) (w : World) (ht : Tab w) (hl : l.length ≤ 1048576) (h : Good l) : Calls Tryd.prog 37 #[.string (str l)] w (RetBytes w (pack (nibs l)) l.length 0) := by
  obtain ⟨e1, e2, e3⟩ := un_good h
  have := UnHex_any l w ht hl
  rwa [e1, e2, e3] at this
end Go.Proofs.YtjlecollphgmcaaDoor
