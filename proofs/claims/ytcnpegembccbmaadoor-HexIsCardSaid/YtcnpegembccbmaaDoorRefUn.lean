/-
  The document's own UnHex: the same answer as the program's.
-/
import Derived.Test.YtcnpegembccbmaaDoorHexUn
import Derived.Test.YtcnpegembccbmaaDoorRefDigit
import Derived.Deep.RegionHeldLaw
import Derived.Deep.AppendLies
namespace Go.Proofs.YtcnpegembccbmaaDoor
open Go.RowKit

/-- Numbers as Go's values. -/
def ivs (l : List Nat) : List Value := l.map fun d : Nat => Value.int .i64 (d : Int)
theorem ivs_length (l : List Nat) : (ivs l).length = l.length := by simp [ivs]
theorem ivs_append (a b : List Nat) : ivs (a ++ b) = ivs a ++ ivs b := by simp [ivs]
theorem ivs_get (l : List Nat) (j : Nat) (h : j < l.length) : (ivs l)[j]? = some (.int .i64 ((l[j]?.getD 0 : Nat) : Int)) := by simp [ivs, h]
theorem info64 : (Tryd.prog.info? 3).map (fun i => (i.zero, i.size, i.bytes)) = some (some (.int .i64 0), 1, 8) := by kernel_rfl
/-- Two rows of different types are two. -/
theorem own_ne {w : World} {b b' s s' n n' : Nat} {e e' : TypeId} {v v' : Value} {xs xs' : List Value} (h : w.ownsRow b e s v n xs) (h' : w.ownsRow b' e' s' v' n' xs') (hne : e ≠ e') : v.ownBlock = none ∨ v.ownBlock ≠ v'.ownBlock := by
  rcases h.2 with ⟨rfl, _⟩ | ⟨g, cap, cur, rfl, _, hg, _⟩
  · exact .inl rfl
  · right
    rcases h'.2 with ⟨rfl, _⟩ | ⟨g', cap', cur', rfl, _, hg', _⟩
    · simp [Value.ownBlock]
    · intro he
      have : g = g' := by simpa [Value.ownBlock] using he
      subst this
      rw [hg] at hg'
      injection hg' with hg'
      injection hg' with _ ht
      exact hne ht
theorem own_at {w : World} {b n g cap : Nat} {e : TypeId} {xs : List Value} (h : w.ownsRow b e 1 (.slice (some ⟨g, 0, none⟩) n cap) n xs) (j : Nat) (u : Value) (hu : xs[j]? = some u) : w.cell? ⟨g, j, none⟩ = some u := by
  have := h.cells (g := g) rfl j u hu
  rw [addr_add] at this
  simpa using this
theorem pack_two (ds : List Nat) (k : Nat) (h : 2 * k + 1 < ds.length) : pack (ds.take (2 * k + 2)) = pack (ds.take (2 * k)) ++ [UInt8.ofNat (16 * (ds[2 * k]?.getD 0) + ds[2 * k + 1]?.getD 0)] := by
  have e : ds.take (2 * k + 2) = ds.take (2 * k) ++ [ds[2 * k]?.getD 0, ds[2 * k + 1]?.getD 0] := by
    rw [show 2 * k + 2 = 2 * k + 1 + 1 from rfl, List.take_succ_eq_append_getElem (by omega : 2 * k + 1 < ds.length), List.take_succ_eq_append_getElem (by omega : 2 * k < ds.length)]
    simp only [List.getElem?_eq_getElem (by omega : 2 * k < ds.length), List.getElem?_eq_getElem h, Option.getD_some, List.append_assoc, List.cons_append, List.nil_append]
  rw [e, pack_even _ (by rw [List.length_take]; omega)]
  rfl
theorem pack_evened (l : List UInt8) (ds : List Nat) (h : ds = nibs l ∨ (ds = nibs l ++ [0] ∧ (nibs l).length % 2 = 1)) : pack ds = pack (nibs l) := by
  rcases h with rfl | ⟨rfl, hodd⟩
  · rfl
  · obtain ⟨p, a, _, h1, _, h3⟩ := pack_odd _ hodd
    rw [h3, h1]
    rfl

set_option maxHeartbeats 4000000 in
theorem rUnHex_any (l : List UInt8) (w : World) (hl : l.length ≤ 1048576) :
    Calls Tryd.prog 14 #[.string (str l)] w (RetBytes w (unB l) (unN l) (unE l)) := by
  obtain ⟨i0, hi, hz0, hz1, hz2⟩ := info_parts info8
  obtain ⟨j0, ji, jz0, jz1, jz2⟩ := info_parts info64
  go_enter Tryd.func14, Tryd.ntmps14
  go_wp2
  go_loopw [5, 6] (fun v i wr => ∃ k : Nat, k ≤ l.length ∧ i = .int .i64 k ∧ wr.ownsRow w.heap.size 3 1 v (nibs (l.take k)).length (ivs (nibs (l.take k))) ∧ Good (l.take k) ∧ Below w.heap.size w wr) (fun _ i _ => l.length - (intOf i).toNat)
  case atStart => exact ⟨0, Nat.zero_le _, rfl, by simpa [nibs, ivs] using World.ownsRow_nil _ _ _ _, fun b hb => by simp at hb, Below.refl _ _⟩
  case round =>
    obtain ⟨k, hk, rfl, hown, hgood, hbel⟩ := hrel
    by_cases hlt : k < l.length
    · obtain ⟨x, hx⟩ : ∃ x, x = l[k]?.getD 0 := ⟨_, rfl⟩
      have hgs : ∀ h, (str l)[k]'h = x := fun h => (get_str l k h).trans hx.symm
      have hx1 := x.toNat_lt
      have HX := Lib.hid hx
      have hkb := kb_bounds x
      have hsz := hbel.size
      clear hx
      rcases (show kb x = 1 ∨ kb x = 0 ∨ 2 ≤ kb x by omega) with h1 | h1 | h1
      · have hw : (kz (x.toNat : Int) == 1) = true := by simpa [kb] using h1
        have hk2 : kz (x.toNat : Int) < 2 := by have h1' : kz (x.toNat : Int) = 1 := h1; omega
        have H1 := Lib.hid h1
        have HG := Lib.hid hgood
        clear h1 hgood
        go_wp2_with (first | (go_at_call 16; refine (rWhite_any _ _).mono ?_; rintro e w' ⟨rfl, rfl⟩) | (go_at_call 12; refine (rDigit_no _ _ hk2).mono ?_; rintro e w' ⟨rfl, rfl⟩))
        go_roundw
        case rel =>
          have e := nibs_white hlt HX.out H1.out
          exact ⟨k + 1, by omega, by go_num, by rw [e]; exact hown, good_snoc hlt HG.out (by rw [← HX.out, H1.out]; decide), hbel⟩
        case measure => simp [intOf]; omega
      · have h1' : kz (x.toNat : Int) = 0 := h1
        have hw : (kz (x.toNat : Int) == 1) = false := by rw [h1']; rfl
        have hk0 : kz (x.toNat : Int) < 2 := by omega
        have hbad := bad_at hlt hgood (by rw [← HX.out]; exact h1)
        have HB := Lib.hid hbad
        have HG := Lib.hid hgood
        clear h1 h1' hgood hbad
        go_wp2_with (first | (go_at_call 16; refine (rWhite_any _ _).mono ?_; rintro e w' ⟨rfl, rfl⟩) | (go_at_call 12; refine (rDigit_no _ _ hk0).mono ?_; rintro e w' ⟨rfl, rfl⟩))
        go_ret3
        obtain ⟨e1, e2, e3⟩ := un_bad (l := l) (by rw [HB.out]; exact hlt)
        rw [e1, e2, e3, HB.out]
        exact ⟨none, 0, rfl, Nat.le_refl _, Sl.nil, hbel⟩
      · have hk2 : 2 ≤ kz (x.toNat : Int) := h1
        obtain ⟨d, hd⟩ : ∃ d : Nat, kz (x.toNat : Int) - 2 = (d : Int) := ⟨(kz (x.toNat : Int) - 2).toNat, by omega⟩
        have hd16 : d < 16 := by have := kz_bounds (x.toNat : Int); omega
        have hnd : (kb x - 2).toNat = d := by show (kz (x.toNat : Int) - 2).toNat = d; omega
        have HN := Lib.hid hnd
        have H1 := Lib.hid h1
        have HG := Lib.hid hgood
        have hkl := nibs_length (l.take k)
        have hll : (l.take k).length ≤ k := List.length_take_le _ _
        clear h1 hgood hnd
        go_wp2_with (first | (go_at_call 12; refine (rDigit_yes _ _ hk2).mono ?_; rintro e w' ⟨rfl, rfl⟩) | (at_builtin; refine wpList_append_lies _ rfl (.tmp 37) (.tmp 39) _ rfl w.heap.size 3 j0 (.int .i64 0) 1 8 Tryd.underlying47 ji jz0 jz1 jz2 rfl (by omega) u5 _ _ rfl (hown.alloc _) ⟨wr.heap.size, 0, none⟩ 1 1 [.int .i64 (d : Int)] rfl rfl (World.news_of_block (heap_alloc_new wr _)) (by intro u hu; simp at hu; subst hu; rfl) (by omega) (by unfold maxLen; omega) (by omega) (by simp; omega) _ rfl ?_; intro g cap w1 hown1 hgrow hat hgl))
        go_roundw
        case rel =>
          have e : nibs (l.take (k + 1)) = nibs (l.take k) ++ [d] := by rw [nibs_digit hlt HX.out H1.out, HN.out]
          refine ⟨k + 1, by omega, by go_num, ?_, good_snoc hlt HG.out (by rw [← HX.out]; have := H1.out; omega), (hbel.alloc hsz _).grown hgrow (by simp; omega) (fun q hq => (hown.lt q hq).1)⟩
          have e' : ivs (nibs (l.take (k + 1))) = ivs (nibs (l.take k)) ++ [.int .i64 (d : Int)] := by rw [e, ivs_append]; rfl
          have e'' : (nibs (l.take (k + 1))).length = (nibs (l.take k)).length + 1 := by rw [e]; simp
          rw [e', e'']
          exact hown1
        case measure => simp [intOf]; omega
    · have hkl : k = l.length := by omega
      obtain rfl : l.length = k := hkl.symm
      rw [List.take_of_length_le (Nat.le_refl _)] at hown hgood
      obtain ⟨e1, e2, e3⟩ := un_good hgood
      have E1 := Lib.hid e1
      have E2 := Lib.hid e2
      have E3 := Lib.hid e3
      have hnl := nibs_length l
      have hsz := hbel.size
      obtain ⟨nl, hnl'⟩ : ∃ nl, nl = nibs l := ⟨_, rfl⟩
      have hlt16 : ∀ d ∈ nl, d < 16 := fun d hd => nibs_lt (by rw [hnl'] at hd; exact hd)
      rw [← hnl'] at hown hnl
      have HN := Lib.hid hnl'
      have H16 := Lib.hid hlt16
      obtain ⟨c5, _, hc5, A5, hv5⟩ : ∃ c, True ∧ nl.length ≤ c ∧ ∃ A, u5 = .slice A nl.length c := by
        rcases hown.2 with ⟨rfl, h0⟩ | ⟨g, cap, cur, rfl, _, _, hnc, _⟩
        · exact ⟨0, trivial, by omega, none, by rw [h0]⟩
        · exact ⟨cap, trivial, hnc, _, rfl⟩
      subst hv5
      clear e1 e2 e3 hgood hnl' hlt16 hlt hk
      by_cases hodd : nl.length % 2 = 1
      · have t1 : ((nl.length : Int) % 2 == 1) = true := by simp; omega
        go_wp2_with (at_builtin; go_must (refine wpList_append_lies _ rfl (.tmp 45) (.tmp 46) _ rfl w.heap.size 3 j0 (.int .i64 0) 1 8 Tryd.underlying47 ji jz0 jz1 jz2 rfl (by omega) _ _ _ rfl (hown.alloc _) ⟨wr.heap.size, 0, none⟩ 1 1 [.int .i64 0] rfl rfl (World.news_of_block (heap_alloc_new wr _)) (by intro u hu; simp at hu; subst hu; rfl) (by omega) (by unfold maxLen; omega) (by omega) (by simp; omega) _ rfl ?_; intro g cap w1 hown1 hgrow hat hgl))
        obtain ⟨ds, hds⟩ : ∃ ds, ds = nl ++ [0] := ⟨_, rfl⟩
        have hdl : nl.length + 1 = ds.length := by rw [hds]; simp
        have hownL : w1.ownsRow w.heap.size 3 1 (.slice (some ⟨g, 0, none⟩) ds.length cap) ds.length (ivs ds) := by rw [← hdl, hds, ivs_append]; exact hown1
        have hbL : Below w.heap.size w w1 := (hbel.alloc hsz _).grown hgrow (by simp; omega) (fun q hq => (hown.lt q hq).1)
        have hpk := pack_evened l ds (.inr ⟨by rw [hds, HN.out], by rw [← HN.out]; exact hodd⟩)
        have h16 : ∀ d ∈ ds, d < 16 := fun d hd => by
          rw [hds] at hd
          rcases List.mem_append.1 hd with h | h
          · exact H16.out d h
          · simp at h; omega
        have hev : ds.length % 2 = 0 := by omega
        have hdle : ds.length ≤ 1048577 := by omega
        rw [hdl]
        clear hds hown1 hgrow hat hgl hown hodd t1 hdl hnl hbel hsz
        generalize (some (⟨g, 0, none⟩ : Addr)) = AL at *
        go_loopw [9, 10] (fun v i wr => ∃ k : Nat, 2 * k ≤ ds.length ∧ i = .int .i64 (2 * (k : Int)) ∧ wr.ownsRow w.heap.size 5 1 v k (bvs (pack (ds.take (2 * k)))) ∧ wr.ownsRow w.heap.size 3 1 (.slice AL ds.length cap) ds.length (ivs ds) ∧ Below w.heap.size w wr) (fun _ i _ => ds.length - (intOf i).toNat)
        case atStart => exact ⟨0, Nat.zero_le _, rfl, by simpa [pack, bvs] using World.ownsRow_nil _ _ _ _, hownL, hbL⟩
        case round =>
          obtain ⟨k, hk, rfl, ho, hoL, hbel2⟩ := hrel
          have hsz2 := hbel2.size
          by_cases hlt : 2 * k + 1 < ds.length
          · obtain ⟨gl, cl, hvl, hgb, hgl2⟩ := hoL.form (by omega)
            have hAe : AL = some ⟨gl, 0, none⟩ := by injection hvl
            subst hAe
            obtain ⟨a, ea⟩ : ∃ a, a = ds[2 * k]?.getD 0 := ⟨_, rfl⟩
            obtain ⟨b, eb⟩ : ∃ b, b = ds[2 * k + 1]?.getD 0 := ⟨_, rfl⟩
            have ha : a < 16 := h16 a (by rw [ea, List.getElem?_eq_getElem (by omega : 2 * k < ds.length)]; exact List.getElem_mem _)
            have hb : b < 16 := h16 b (by rw [eb, List.getElem?_eq_getElem hlt]; exact List.getElem_mem _)
            have hca : wr.cell? ⟨gl, 2 * k, none⟩ = some (.int .i64 (a : Int)) := by
              have := hoL.cells (g := gl) rfl (2 * k) _ (ivs_get ds (2 * k) (by omega))
              rw [addr_add] at this
              simpa [ea] using this
            have hcb : wr.cell? ⟨gl, 2 * k + 1, none⟩ = some (.int .i64 (b : Int)) := by
              have := hoL.cells (g := gl) rfl (2 * k + 1) _ (ivs_get ds (2 * k + 1) hlt)
              rw [addr_add] at this
              simpa [eb] using this
            have EA := Lib.hid ea
            have EB := Lib.hid eb
            have HH := Lib.hid h16
            have r0 : (0 : Int) ≤ 2 * (k : Int) := by omega
            have r1 : 2 * (k : Int) < (ds.length : Int) := by omega
            have r2 : (0 : Int) ≤ 2 * (k : Int) + 1 := by omega
            have r3 : 2 * (k : Int) + 1 < (ds.length : Int) := by omega
            have t0 : (2 * (k : Int)).toNat = 2 * k := by omega
            have t1' : (2 * (k : Int) + 1).toNat = 2 * k + 1 := by omega
            have v1 : IntKind.i64.wrap (2 * (k : Int) + 1) = 2 * (k : Int) + 1 := IntWalk.i64_in _ (by omega)
            have v2 : IntKind.i64.wrap (16 * (a : Int)) = 16 * (a : Int) := IntWalk.i64_in _ (by omega)
            have v3 : IntKind.i64.wrap (16 * (a : Int) + (b : Int)) = 16 * (a : Int) + (b : Int) := IntWalk.i64_in _ (by omega)
            have v4 : IntKind.u8.wrap (16 * (a : Int) + (b : Int)) = 16 * (a : Int) + (b : Int) := IntWalk.u8_in _ (by omega)
            have hne := own_ne hoL ho (by decide)
            clear ea eb h16 hvl
            go_wp2
            go_region_held_law (fun w' => w'.cell? ⟨gl, 2 * k, none⟩ = some (.int .i64 (a : Int)) ∧ w'.cell? ⟨gl, 2 * k + 1, none⟩ = some (.int .i64 (b : Int)))
              (first | exact ⟨hca, hcb⟩ | exact ⟨(World.cell?_alloc_lt _ _ _ (show gl < wr.heap.size by omega)).trans hca, (World.cell?_alloc_lt _ _ _ (show gl < wr.heap.size by omega)).trans hcb⟩ | exact ⟨hca1, hcb1⟩)
              ((refine step_append_lies _ (by rfl) _ _ _ (by rfl) w.heap.size 5 i0 (.int .u8 0) 1 1 Tryd.underlying22 hi hz0 hz1 hz2 rfl (by omega) u9 k (bvs (pack (ds.take (2 * k)))) (by rfl) (ho.alloc _).drew ⟨wr.heap.size, 0, none⟩ 1 1 [.int .u8 (16 * (a : Int) + (b : Int))] (by rfl) (by rfl) (World.news_of_block (heap_alloc_new wr _)) (by intro u hu; simp at hu; subst hu; rfl) (by omega) (by unfold maxLen; omega) (by omega) (by simp; omega) _ rfl ?_; intro g2 cap2 w3 hown3 hgrow3 hat3 hgl3; have hoL3 := ((hoL.alloc (.cells #[.int .u8 (16 * (a : Int) + (b : Int))] 5)).drew).kept hgrow3 hne; have hca1 : w3.cell? ⟨gl, 2 * k, none⟩ = some (.int .i64 (a : Int)) := own_at hoL3 _ _ (by rw [ivs_get ds (2 * k) (by omega), ← EA.out]); have hcb1 : w3.cell? ⟨gl, 2 * k + 1, none⟩ = some (.int .i64 (b : Int)) := own_at hoL3 _ _ (by rw [ivs_get ds (2 * k + 1) hlt, ← EB.out])))
            all_goals
              have hown4 : w3.ownsRow w.heap.size 5 1 (.slice (some ⟨g2, 0, none⟩) (k + 1) cap2) (k + 1) (bvs (pack (ds.take (2 * (k + 1))))) := by
                have e0 : ((UInt8.ofNat (16 * a + b)).toNat : Int) = 16 * (a : Int) + (b : Int) := by rw [byte_toNat _ (by omega)]; omega
                have e1 : bvs (pack (ds.take (2 * (k + 1)))) = bvs (pack (ds.take (2 * k))) ++ [.int .u8 (16 * (a : Int) + (b : Int))] := by
                  rw [show 2 * (k + 1) = 2 * k + 2 by omega, pack_two ds k hlt, ← EA.out, ← EB.out, bvs_append]
                  simp only [bvs, List.map_cons, List.map_nil, e0]
                rw [e1]; exact hown3
              have hbel3 : Below w.heap.size w w3 := ((hbel2.alloc hsz2 _).drew).grown hgrow3 (by simp; omega) (fun q hq => (ho.lt q hq).1)
              clear hown3 hgrow3 hat3 hgl3 hca hcb hca1 hcb1 v1 v2 v3 v4 t0 t1'
              go_wp2
              go_roundw
              case rel => exact ⟨k + 1, by omega, by go_num, hown4, hoL3, hbel3⟩
              case measure => simp [intOf]; omega
          · have e2k : 2 * k = ds.length := by omega
            rw [e2k, List.take_of_length_le (Nat.le_refl _), hpk] at ho
            obtain ⟨c', en, hc', A', hv, hsl⟩ := Sl.of_own ho
            subst hv
            have P1 := Lib.hid e2k
            have P2 := Lib.hid hpk
            have P3 := Lib.hid en
            have P4 := Lib.hid h16
            clear e2k hpk en h16
            go_wp2
            go_ret3
            rw [E1.out, E2.out, E3.out]
            exact ⟨A', c', rfl, by have := P3.out; omega, hsl, hbel2⟩
      · have t1 : ((nl.length : Int) % 2 == 1) = false := by rw [beq_eq_false_iff_ne]; omega
        go_wp2
        have hpk := pack_evened l nl (.inl HN.out)
        have hev : nl.length % 2 = 0 := by omega
        have hdle : nl.length ≤ 1048577 := by omega
        have h16 := H16.out
        go_loopw [9, 10] (fun v i wr => ∃ k : Nat, 2 * k ≤ nl.length ∧ i = .int .i64 (2 * (k : Int)) ∧ wr.ownsRow w.heap.size 5 1 v k (bvs (pack (nl.take (2 * k)))) ∧ wr.ownsRow w.heap.size 3 1 (.slice A5 nl.length c5) nl.length (ivs nl) ∧ Below w.heap.size w wr) (fun _ i _ => nl.length - (intOf i).toNat)
        case atStart => exact ⟨0, Nat.zero_le _, rfl, by simpa [pack, bvs] using World.ownsRow_nil _ _ _ _, hown, hbel⟩
        case round =>
          obtain ⟨k, hk, rfl, ho, hoL, hbel2⟩ := hrel
          have hsz2 := hbel2.size
          by_cases hlt : 2 * k + 1 < nl.length
          · obtain ⟨gl, cl, hvl, hgb, hgl2⟩ := hoL.form (by omega)
            have hAe : A5 = some ⟨gl, 0, none⟩ := by injection hvl
            subst hAe
            obtain ⟨a, ea⟩ : ∃ a, a = nl[2 * k]?.getD 0 := ⟨_, rfl⟩
            obtain ⟨b, eb⟩ : ∃ b, b = nl[2 * k + 1]?.getD 0 := ⟨_, rfl⟩
            have ha : a < 16 := h16 a (by rw [ea, List.getElem?_eq_getElem (by omega : 2 * k < nl.length)]; exact List.getElem_mem _)
            have hb : b < 16 := h16 b (by rw [eb, List.getElem?_eq_getElem hlt]; exact List.getElem_mem _)
            have hca : wr.cell? ⟨gl, 2 * k, none⟩ = some (.int .i64 (a : Int)) := by
              have := hoL.cells (g := gl) rfl (2 * k) _ (ivs_get nl (2 * k) (by omega))
              rw [addr_add] at this
              simpa [ea] using this
            have hcb : wr.cell? ⟨gl, 2 * k + 1, none⟩ = some (.int .i64 (b : Int)) := by
              have := hoL.cells (g := gl) rfl (2 * k + 1) _ (ivs_get nl (2 * k + 1) hlt)
              rw [addr_add] at this
              simpa [eb] using this
            have EA := Lib.hid ea
            have EB := Lib.hid eb
            have HH := Lib.hid h16
            have r0 : (0 : Int) ≤ 2 * (k : Int) := by omega
            have r1 : 2 * (k : Int) < (nl.length : Int) := by omega
            have r2 : (0 : Int) ≤ 2 * (k : Int) + 1 := by omega
            have r3 : 2 * (k : Int) + 1 < (nl.length : Int) := by omega
            have t0 : (2 * (k : Int)).toNat = 2 * k := by omega
            have t1' : (2 * (k : Int) + 1).toNat = 2 * k + 1 := by omega
            have v1 : IntKind.i64.wrap (2 * (k : Int) + 1) = 2 * (k : Int) + 1 := IntWalk.i64_in _ (by omega)
            have v2 : IntKind.i64.wrap (16 * (a : Int)) = 16 * (a : Int) := IntWalk.i64_in _ (by omega)
            have v3 : IntKind.i64.wrap (16 * (a : Int) + (b : Int)) = 16 * (a : Int) + (b : Int) := IntWalk.i64_in _ (by omega)
            have v4 : IntKind.u8.wrap (16 * (a : Int) + (b : Int)) = 16 * (a : Int) + (b : Int) := IntWalk.u8_in _ (by omega)
            have hne := own_ne hoL ho (by decide)
            clear ea eb h16 hvl
            go_wp2
            go_region_held_law (fun w' => w'.cell? ⟨gl, 2 * k, none⟩ = some (.int .i64 (a : Int)) ∧ w'.cell? ⟨gl, 2 * k + 1, none⟩ = some (.int .i64 (b : Int)))
              (first | exact ⟨hca, hcb⟩ | exact ⟨(World.cell?_alloc_lt _ _ _ (show gl < wr.heap.size by omega)).trans hca, (World.cell?_alloc_lt _ _ _ (show gl < wr.heap.size by omega)).trans hcb⟩ | exact ⟨hca1, hcb1⟩)
              ((refine step_append_lies _ (by rfl) _ _ _ (by rfl) w.heap.size 5 i0 (.int .u8 0) 1 1 Tryd.underlying22 hi hz0 hz1 hz2 rfl (by omega) u9 k (bvs (pack (nl.take (2 * k)))) (by rfl) (ho.alloc _).drew ⟨wr.heap.size, 0, none⟩ 1 1 [.int .u8 (16 * (a : Int) + (b : Int))] (by rfl) (by rfl) (World.news_of_block (heap_alloc_new wr _)) (by intro u hu; simp at hu; subst hu; rfl) (by omega) (by unfold maxLen; omega) (by omega) (by simp; omega) _ rfl ?_; intro g2 cap2 w3 hown3 hgrow3 hat3 hgl3; have hoL3 := ((hoL.alloc (.cells #[.int .u8 (16 * (a : Int) + (b : Int))] 5)).drew).kept hgrow3 hne; have hca1 : w3.cell? ⟨gl, 2 * k, none⟩ = some (.int .i64 (a : Int)) := own_at hoL3 _ _ (by rw [ivs_get nl (2 * k) (by omega), ← EA.out]); have hcb1 : w3.cell? ⟨gl, 2 * k + 1, none⟩ = some (.int .i64 (b : Int)) := own_at hoL3 _ _ (by rw [ivs_get nl (2 * k + 1) hlt, ← EB.out])))
            all_goals
              have hown4 : w3.ownsRow w.heap.size 5 1 (.slice (some ⟨g2, 0, none⟩) (k + 1) cap2) (k + 1) (bvs (pack (nl.take (2 * (k + 1))))) := by
                have e0 : ((UInt8.ofNat (16 * a + b)).toNat : Int) = 16 * (a : Int) + (b : Int) := by rw [byte_toNat _ (by omega)]; omega
                have e1 : bvs (pack (nl.take (2 * (k + 1)))) = bvs (pack (nl.take (2 * k))) ++ [.int .u8 (16 * (a : Int) + (b : Int))] := by
                  rw [show 2 * (k + 1) = 2 * k + 2 by omega, pack_two nl k hlt, ← EA.out, ← EB.out, bvs_append]
                  simp only [bvs, List.map_cons, List.map_nil, e0]
                rw [e1]; exact hown3
              have hbel3 : Below w.heap.size w w3 := ((hbel2.alloc hsz2 _).drew).grown hgrow3 (by simp; omega) (fun q hq => (ho.lt q hq).1)
              clear hown3 hgrow3 hat3 hgl3 hca hcb hca1 hcb1 v1 v2 v3 v4 t0 t1'
              go_wp2
              go_roundw
              case rel => exact ⟨k + 1, by omega, by go_num, hown4, hoL3, hbel3⟩
              case measure => simp [intOf]; omega
          · have e2k : 2 * k = nl.length := by omega
            rw [e2k, List.take_of_length_le (Nat.le_refl _), hpk] at ho
            obtain ⟨c', en, hc', A', hv, hsl⟩ := Sl.of_own ho
            subst hv
            have P1 := Lib.hid e2k
            have P2 := Lib.hid hpk
            have P3 := Lib.hid en
            have P4 := Lib.hid h16
            clear e2k hpk en h16
            go_wp2
            go_ret3
            rw [E1.out, E2.out, E3.out]
            exact ⟨A', c', rfl, by have := P3.out; omega, hsl, hbel2⟩
end Go.Proofs.YtcnpegembccbmaaDoor
