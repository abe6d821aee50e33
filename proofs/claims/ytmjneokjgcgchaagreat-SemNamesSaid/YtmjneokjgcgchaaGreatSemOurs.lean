/-
  The law's copies of items: the same lists, in new memory.
-/
import Derived.Test.YtmjneokjgcgchaaGreatSemLists
import Derived.Deep.RegionHeldLaw
namespace Go.Proofs.YtmjneokjgcgchaaGreat
open Go.RowKit

@[go_sem] theorem bldI4 (k at_ : Int) (s : ByteArray) (a b n : Int) (z : ByteArray) (w : World) : (Instr.build 40 #[(0, .int .i64 k), (1, .int .i64 at_), (2, .string s), (3, .agg #[.int .i64 a, .int .i64 b, .int .i64 n, .string z])]).run Tryz.prog w = .ok (.agg #[.int .i64 k, .int .i64 at_, .string s, .int .i64 a, .int .i64 b, .int .i64 n, .string z, .slice none 0 0]) w := run_build w 40 _ _ (by kernel_rfl)
@[go_sem] theorem bldE5' (ln lv hn hv t : Int) (A B : Option Addr) (n c m d : Nat) (w : World) : (Instr.build 69 #[(0, .agg #[.int .i64 ln, .int .i64 lv]), (1, .agg #[.int .i64 hn, .int .i64 hv]), (2, .int .i64 t), (3, .slice A n c), (4, .slice B m d)]).run Tryz.prog w = .ok (.agg #[.int .i64 ln, .int .i64 lv, .int .i64 hn, .int .i64 hv, .int .i64 t, .slice A n c, .slice B m d]) w := run_build w 69 _ _ (by kernel_rfl)
theorem infoEn : (Tryz.prog.info? 69).map (fun i => (i.zero, i.size, i.bytes)) = some (some (.agg #[.int .i64 0, .int .i64 0, .int .i64 0, .int .i64 0, .int .i64 0, .slice none 0 0, .slice none 0 0]), 7, 88) := by kernel_rfl
theorem infoIm : (Tryz.prog.info? 40).map (fun i => (i.zero, i.size, i.bytes)) = some (some (.agg #[.int .i64 0, .int .i64 0, .string ⟨#[]⟩, .int .i64 0, .int .i64 0, .int .i64 0, .string ⟨#[]⟩, .slice none 0 0]), 8, 96) := by kernel_rfl
theorem own_kp9 {w w' : World} {X : Nat → Prop} {base k n : Nat} {e : TypeId} {v : Value} {xs : List Value} (h : w.ownsRow base e k v n xs) (hk : Kp w w' X) (hx : ∀ b, v.ownBlock = some b → ¬ X b) : w'.ownsRow base e k v n xs := by
  refine ⟨h.1, ?_⟩
  rcases h.2 with hn | ⟨g, cap, cur, rfl, h1, hg, rest⟩
  · exact .inl hn
  · exact .inr ⟨g, cap, cur, rfl, h1, (hk.block g (Array.getElem?_eq_some_iff.1 hg).1 (hx g rfl)).trans hg, rest⟩
theorem own_low9 {w : World} {base base' n size : Nat} {e : TypeId} {v : Value} {xs : List Value} (h : w.ownsRow base e size v n xs) (hb : base' ≤ base) : w.ownsRow base' e size v n xs := by
  refine ⟨h.1, ?_⟩
  rcases h.2 with hn | ⟨g, cap, cur, e, h1, rest⟩
  · exact .inl hn
  · exact .inr ⟨g, cap, cur, e, by omega, rest⟩
theorem dq_one9 (p : En × Value × Value) {A1 A2 : Option Addr} {n1 c1 n2 c2 : Nat} (h1 : p.2.1 = .slice A1 n1 c1) (h2 : p.2.2 = .slice A2 n2 c2) : ∀ u ∈ dq p, u.oneCell' = true := by
  intro u hu
  simp only [dq, h1, h2, List.mem_cons, List.not_mem_nil, or_false] at hu
  rcases hu with rfl | rfl | rfl | rfl | rfl | rfl | rfl <;> rfl
theorem iq_one9 (p : Im × Value) {A : Option Addr} {n c : Nat} (h : p.2 = .slice A n c) : ∀ u ∈ iq p, u.oneCell' = true := by
  intro u hu
  simp only [iq, h, List.mem_cons, List.not_mem_nil, or_false] at hu
  rcases hu with rfl | rfl | rfl | rfl | rfl | rfl | rfl | rfl <;> rfl
set_option maxRecDepth 100000 in
set_option maxHeartbeats 8000000 in
theorem ours_any {v : Value} {is : List Im} (w : World) (hx : Ix w (fun _ => False) v is) (hl : is.length ≤ 10000) (hb : ∀ x ∈ is, x.ents.length ≤ 10000) :
    Calls Tryz.prog 16 #[v] w fun r w' => ∃ v', r = .returned v' ∧ Ix w' (fun _ => False) v' is ∧ Below w.heap.size w w' := by
  obtain ⟨e0, he0, hy0, hy1, hy2⟩ := info_parts infoIm
  obtain ⟨e1, he1, hj0, hj1, hj2⟩ := info_parts infoEn
  obtain ⟨d, hd, hr, hn⟩ := hx.old
  obtain ⟨Av, cv, hve, _⟩ := id hr
  subst hve
  have hdl : d.length = is.length := by rw [hd]; simp
  have hdl2 : d.length ≤ 10000 := by omega
  have HR := Lib.hid hr
  have HN := Lib.hid hn
  have HD := Lib.hid hd
  have HBd := Lib.hid hb
  clear hr hn hd hl hdl hx hb
  have HO0 : Hid (∃ d' : List (Im × Value), d'.map (·.1) = (d.take 0).map (·.1) ∧ w.ownsRow w.heap.size 40 8 (.slice none 0 0) 0 (d'.flatMap iq) ∧ ∀ p ∈ d', Ex w (fun b => (Value.slice none 0 0).ownBlock = some b) p.2 p.1.ents) := Lib.hid ⟨[], rfl, World.ownsRow_nil _ _ _ _, fun _ h => by cases h⟩
  generalize hnn : d.length = n at *
  have HL := Lib.hid hnn
  clear hnn
  go_enter Tryz.func16, Tryz.ntmps16
  go_wp2
  go_loopw [3, 4] (fun vo i wr => ∃ k : Nat, k ≤ n ∧ i = .int .i64 (k : Int) ∧ Hid (∃ d' : List (Im × Value), d'.map (·.1) = (d.take k).map (·.1) ∧ wr.ownsRow w.heap.size 40 8 vo k (d'.flatMap iq) ∧ ∀ p ∈ d', Ex wr (fun b => vo.ownBlock = some b) p.2 p.1.ents) ∧ Hid (Below w.heap.size w wr)) (fun _ i _ => n - (intOf i).toNat)
  case atStart => exact ⟨0, Nat.zero_le _, rfl, HO0, Lib.hid (Below.refl _ _)⟩
  case round =>
    obtain ⟨k, hk, rfl, HOd, HB⟩ := hrel
    obtain ⟨d', hd', hO, hn'⟩ := HOd.out
    by_cases hkl : k < n
    · have t0 : decide (k < n) = true := by simp; omega
      obtain ⟨b, o, c, p, q1, g1, hm, q2⟩ := Rw.at HR.out (j := k) (by have := HL.out; omega)
      injection q1 with q1 e1n e1c
      clear e1n
      subst q1 e1c
      have hz := HN.out p hm
      have HTk := Lib.hid (take_last g1)
      have hbd := HBd.out p.1 (by rw [HD.out]; exact List.mem_map_of_mem hm)
      obtain ⟨⟨ik, ia, nm, ⟨tk, tt, tn, ts⟩, es⟩, v1⟩ := p
      simp only at hz hbd
      obtain ⟨de, hde, hre, hne⟩ := hz
      obtain ⟨A1, s1, hv1, _⟩ := id hre
      subst hv1
      have hdel : de.length = es.length := by rw [hde]; simp
      rw [← hdel] at hbd
      have HDE := Lib.hid hde
      have HRE := Lib.hid hre
      have HNE := Lib.hid hne
      generalize hen : de.length = ne at *
      have HEN := Lib.hid hen
      have q0 := q2 0 _ rfl
      have hbl : b < w.heap.size := World.block_lt_of_cell? w _ q0
      have hS : ∀ w', Below w.heap.size w w' → w'.cell? ⟨b, o + k * 8, none⟩ = some (.int .i64 ik) ∧ w'.cell? ⟨b, o + k * 8 + 1, none⟩ = some (.int .i64 ia) ∧ w'.cell? ⟨b, o + k * 8 + 2, none⟩ = some (.string (str nm)) ∧ w'.cell? ⟨b, o + k * 8 + 3, none⟩ = some (.int .i64 tk) ∧ w'.cell? ⟨b, o + k * 8 + 4, none⟩ = some (.int .i64 tt) ∧ w'.cell? ⟨b, o + k * 8 + 5, none⟩ = some (.int .i64 tn) ∧ w'.cell? ⟨b, o + k * 8 + 6, none⟩ = some (.string (str ts)) := fun w' hb => ⟨by rw [hb.cell (p := ⟨b, o + k * 8, none⟩) hbl]; simpa using q0, (hb.cell (p := ⟨b, o + k * 8 + 1, none⟩) hbl).trans (q2 1 _ rfl), (hb.cell (p := ⟨b, o + k * 8 + 2, none⟩) hbl).trans (q2 2 _ rfl), (hb.cell (p := ⟨b, o + k * 8 + 3, none⟩) hbl).trans (q2 3 _ rfl), (hb.cell (p := ⟨b, o + k * 8 + 4, none⟩) hbl).trans (q2 4 _ rfl), (hb.cell (p := ⟨b, o + k * 8 + 5, none⟩) hbl).trans (q2 5 _ rfl), (hb.cell (p := ⟨b, o + k * 8 + 6, none⟩) hbl).trans (q2 6 _ rfl)⟩
      have HS := Lib.hid hS
      have HS7 : Hid (∀ w', Below w.heap.size w w' → w'.cell? ⟨b, o + k * 8 + 7, none⟩ = some (.slice A1 ne s1)) := Lib.hid fun w' hb => (hb.cell (p := ⟨b, o + k * 8 + 7, none⟩) hbl).trans (q2 7 _ rfl)
      have hsz := HB.out.size
      have z0 : Below w.heap.size w wr.drew := HB.out.drew
      have zA : ∀ cs t, Below w.heap.size w ((wr.alloc (.cells cs t)).drew) := fun cs t => (HB.out.alloc hsz _).drew
      have Hd' := Lib.hid hd'
      have HO := Lib.hid hO
      have Hn' := Lib.hid hn'
      have HBD := Lib.hid hbd
      have HZA := Lib.hid zA
      clear hS q0 q2 hde hre hne g1 hm hd' hO hn' HOd hen hdel zA
      go_wp2
      go_region_held (fun w' => w'.cell? ⟨b, o + k * 8, none⟩ = some (.int .i64 ik) ∧ w'.cell? ⟨b, o + k * 8 + 1, none⟩ = some (.int .i64 ia) ∧ w'.cell? ⟨b, o + k * 8 + 2, none⟩ = some (.string (str nm)) ∧ w'.cell? ⟨b, o + k * 8 + 3, none⟩ = some (.int .i64 tk) ∧ w'.cell? ⟨b, o + k * 8 + 4, none⟩ = some (.int .i64 tt) ∧ w'.cell? ⟨b, o + k * 8 + 5, none⟩ = some (.int .i64 tn) ∧ w'.cell? ⟨b, o + k * 8 + 6, none⟩ = some (.string (str ts)))
        (first | exact HS.out _ z0 | exact HS.out _ (HZA.out _ _))
        (fail)
      obtain ⟨W1, hW1⟩ : ∃ W, W = (wr.alloc (.cells #[.int .i64 ik, .int .i64 ia, .string (str nm), .int .i64 tk, .int .i64 tt, .int .i64 tn, .string (str ts), .slice none 0 0] 40)).drew := ⟨_, rfl⟩
      have hX1 : W1.heap[wr.heap.size]? = some (.cells #[.int .i64 ik, .int .i64 ia, .string (str nm), .int .i64 tk, .int .i64 tt, .int .i64 tn, .string (str ts), .slice none 0 0] 40 (0, 0)) := by rw [hW1]; exact heap_alloc_new wr _
      have hB1 : Below wr.heap.size wr W1 := by rw [hW1]; exact ((Below.refl _ _).alloc (Nat.le_refl _) _).drew
      rw [← hW1]
      clear hW1 HZA z0
      obtain ⟨M, hM⟩ : ∃ M, M = wr.heap.size := ⟨_, rfl⟩
      have HM := Lib.hid hM
      rw [← hM] at hX1 hB1 hsz ⊢
      clear hM
      have HX1 := Lib.hid hX1
      have HB1 := Lib.hid hB1
      have hs1 : M < W1.heap.size := (Array.getElem?_eq_some_iff.1 hX1).1
      clear hX1 hB1
      obtain ⟨wO, rfl⟩ : ∃ x, x = wr := ⟨_, rfl⟩
      go_wp2
      go_loopw [6] (fun i wx => ∃ (j : Nat) (A' : Option Addr) (c' : Nat), j ≤ ne ∧ i = .int .i64 (j : Int) ∧ Hid (wx.heap[M]? = some (.cells #[.int .i64 ik, .int .i64 ia, .string (str nm), .int .i64 tk, .int .i64 tt, .int .i64 tn, .string (str ts), .slice A' j c'] 40 (0, 0))) ∧ Hid (wx.ownsRow M 69 7 (.slice A' j c') j ((de.take j).flatMap dq)) ∧ Hid (Below M wO wx)) (fun i _ => ne - (intOf i).toNat)
      case atStart => exact ⟨0, none, 0, Nat.zero_le _, rfl, HX1, Lib.hid (World.ownsRow_nil _ _ _ _), HB1⟩
      case round =>
        clear HX1 HB1 hs1
        obtain ⟨j, A', c', hj, rfl, HX2, HO2, HB2⟩ := hrel
        have hbw : Below w.heap.size w wr := HB.out.trans (HB2.out.mono hsz)
        have y7 := HS7.out _ hbw
        have hs2 : M < wr.heap.size := (Array.getElem?_eq_some_iff.1 HX2.out).1
        by_cases hjl : j < ne
        · have t1 : decide (j < ne) = true := by simp; omega
          obtain ⟨b2, p2, c2, pe, f1, f2, f3, f4⟩ := Rw.at HRE.out (j := j) (by have := HEN.out; omega)
          injection f1 with f1 f1n f1c
          clear f1n
          subst f1 f1c
          have HTE := Lib.hid (flat_take dq f2)
          have hzq := HNE.out pe f3
          obtain ⟨⟨⟨ln, lv⟩, ⟨hn, hv⟩, tov, uu, lx⟩, v5, v6⟩ := pe
          obtain ⟨zu, zl⟩ := hzq
          simp only at zu zl
          obtain ⟨A5, c5, hv5, _⟩ := id zu
          obtain ⟨A6, n6, c6, hv6⟩ := zl.shape'
          subst hv5 hv6
          generalize uu.length = n5 at *
          have hb2l : b2 < w.heap.size := World.block_lt_of_cell? w _ (f4 0 _ rfl)
          have g0 : wr.cell? ⟨b2, p2 + j * 7, none⟩ = some (.int .i64 ln) := by
            have := (hbw.cell (p := ⟨b2, p2 + j * 7 + 0, none⟩) hb2l).trans (f4 0 _ rfl)
            simpa using this
          have g1 := (hbw.cell (p := ⟨b2, p2 + j * 7 + 1, none⟩) hb2l).trans (f4 1 _ rfl)
          have g2 := (hbw.cell (p := ⟨b2, p2 + j * 7 + 2, none⟩) hb2l).trans (f4 2 _ rfl)
          have g3 := (hbw.cell (p := ⟨b2, p2 + j * 7 + 3, none⟩) hb2l).trans (f4 3 _ rfl)
          have g4 := (hbw.cell (p := ⟨b2, p2 + j * 7 + 4, none⟩) hb2l).trans (f4 4 _ rfl)
          have g5 := (hbw.cell (p := ⟨b2, p2 + j * 7 + 5, none⟩) hb2l).trans (f4 5 _ rfl)
          have g6 := (hbw.cell (p := ⟨b2, p2 + j * 7 + 6, none⟩) hb2l).trans (f4 6 _ rfl)
          have q7 := cell8 HX2.out
          have HNB := Lib.hid (own_typ_ne HO2.out HX2.out (by decide))
          clear f2 f3 f4 zu zl
          go_wp2_with (at_builtin; refine wpList_append_lies _ rfl _ _ _ rfl M 69 e1 (.agg #[.int .i64 0, .int .i64 0, .int .i64 0, .int .i64 0, .int .i64 0, .slice none 0 0, .slice none 0 0]) 7 88 Tryz.underlying38 he1 hj0 hj1 hj2 rfl (by omega) _ _ _ rfl ((HO2.out.alloc _).alloc _) ⟨wr.heap.size + 1, 0, none⟩ 1 1 (dq ((⟨⟨ln, lv⟩, ⟨hn, hv⟩, tov, uu, lx⟩ : En), .slice A5 n5 c5, .slice A6 n6 c6)) rfl rfl (news2 _ _ #[.int .i64 ln, .int .i64 lv, .int .i64 hn, .int .i64 hv, .int .i64 tov, .slice A5 n5 c5, .slice A6 n6 c6] _) (dq_one9 _ rfl rfl) (by omega) (by unfold maxLen; have := HBD.out; omega) (by have := HBD.out; omega) (by simp; omega) _ rfl ?_; intro g cap w4 hown4 hgrow hat hgl; have hX4 := (hgrow.block M (by simp; omega) (fun e => HNB.out e.symm)).trans ((Below.heap_alloc _ _ M (by simp; omega)).trans ((Below.heap_alloc _ _ M hs2).trans HX2.out)); have q8 := cell8 hX4; have q9 : w4.frozen? ⟨M, 7, none⟩ = false := by simp [World.frozen?, hX4])
          have HX5 : Hid ((w4.setCell ⟨M, 7, none⟩ (.slice (some ⟨g, 0, none⟩) (j + 1) cap)).heap[M]? = some (.cells #[.int .i64 ik, .int .i64 ia, .string (str nm), .int .i64 tk, .int .i64 tt, .int .i64 tn, .string (str ts), .slice (some ⟨g, 0, none⟩) (j + 1) cap] 40 (0, 0))) := Lib.hid (_root_.Go.heap_setCell_same w4 M 7 _ _ _ hX4)
          have hgM := own_typ_ne hown4 hX4 (by decide)
          have HO5 : Hid ((w4.setCell ⟨M, 7, none⟩ (.slice (some ⟨g, 0, none⟩) (j + 1) cap)).ownsRow M 69 7 (.slice (some ⟨g, 0, none⟩) (j + 1) cap) (j + 1) ((de.take (j + 1)).flatMap dq)) := by
            rw [HTE.out]
            exact Lib.hid (own_kp9 (X := fun b => b = M) hown4 ⟨by simp, fun b _ hne => heap_setCell_other _ _ _ _ (show b ≠ M from hne)⟩ (fun b hb e => hgM (by rw [hb, e])))
          have HB5 : Hid (Below M wO (w4.setCell ⟨M, 7, none⟩ (.slice (some ⟨g, 0, none⟩) (j + 1) cap))) := Lib.hid ((((HB2.out.alloc (by omega) _).alloc (by simp; omega) _).grown hgrow (by simp; omega) (fun q hq => (HO2.out.lt q hq).1)).setCell (Nat.le_refl M) _)
          clear hown4 hgrow hat hgl hX4 q8 q9 hgM g0 g1 g2 g3 g4 g5 g6 q7 y7
          go_wp2
          exact ⟨⟨j + 1, some ⟨g, 0, none⟩, cap, by omega, by go_num, HX5, HO5, HB5⟩, by simp [intOf]; omega⟩
        · have t1 : decide (j < ne) = false := by simp; omega
          obtain rfl : j = ne := by omega
          obtain ⟨k0, k1, k2, k3, k4, k5, k6, k7⟩ := cells8 HX2.out
          have hde : de.take j = de := List.take_of_length_le (by have := HEN.out; omega)
          have hO5 := HO2.out
          rw [hde] at hO5
          have HO5 := Lib.hid hO5
          have hO1 := own_kp9 HO.out (Kp.of_below (X := fun _ => False) (HM.out ▸ HB2.out)) (fun _ _ h => h)
          have HO1 := Lib.hid hO1
          have HOL := Lib.hid (fun q hq => HO.out.lt q hq)
          clear hde hO5 hO1
          go_wp2_with (at_builtin; refine wpList_append_lies _ rfl _ _ _ rfl w.heap.size 40 e0 (.agg #[.int .i64 0, .int .i64 0, .string ⟨#[]⟩, .int .i64 0, .int .i64 0, .int .i64 0, .string ⟨#[]⟩, .slice none 0 0]) 8 96 Tryz.underlying41 he0 hy0 hy1 hy2 rfl (by omega) _ _ _ rfl (HO1.out.alloc _) ⟨wr.heap.size, 0, none⟩ 1 1 (iq ((⟨ik, ia, nm, ⟨tk, tt, tn, ts⟩, es⟩ : Im), .slice A' j c')) rfl rfl (World.news_of_block (heap_alloc_new wr _)) (iq_one9 _ rfl) (by omega) (by unfold maxLen; omega) (by omega) (by simp; omega) _ rfl ?_; intro g cap w4 hown4 hgrow hat hgl)
          have hat : u3.ownBlock = some g ∨ g = wr.heap.size + 1 := hat.imp id (fun h => by simpa using h)
          have hj2 : ∀ p ∈ d' ++ [((⟨ik, ia, nm, ⟨tk, tt, tn, ts⟩, es⟩ : Im), Value.slice A' j c')], Ex w4 (fun b => (Value.slice (some ⟨g, 0, none⟩) (k + 1) cap).ownBlock = some b) p.2 p.1.ents := by
            intro p hp
            have hkp : Kp wO w4 (fun b => u3.ownBlock = some b) := ((Kp.of_below (HM.out ▸ HB2.out)).trans (Kp.of_below ((Below.refl _ _).alloc (Nat.le_refl _) (.cells #[.int .i64 ik, .int .i64 ia, .string (str nm), .int .i64 tk, .int .i64 tt, .int .i64 tn, .string (str ts), .slice A' j c'] 40)))).trans (Kp.of_grown hgrow (fun _ h => h))
            rcases List.mem_append.1 hp with hp | hp
            · refine (Hn'.out p hp).to hkp ?_
              intro b hb h1
              have hgb : g = b := by simpa [Value.ownBlock] using h1
              subst hgb
              rcases hat with h2 | h2
              · exact h2
              · have := HM.out; have := hs2; omega
            · obtain rfl : p = ((⟨ik, ia, nm, ⟨tk, tt, tn, ts⟩, es⟩ : Im), Value.slice A' j c') := by simpa using hp
              have hgr : Kp wr w4 (fun b => u3.ownBlock = some b) := (Kp.of_below ((Below.refl _ _).alloc (Nat.le_refl _) (.cells #[.int .i64 ik, .int .i64 ia, .string (str nm), .int .i64 tk, .int .i64 tt, .int .i64 tn, .string (str ts), .slice A' j c'] 40))).trans (Kp.of_grown hgrow (fun _ h => h))
              have hrow := (Rw.of_own dq_len (by decide) HO5.out (X := fun b => u3.ownBlock = some b ∨ b = wr.heap.size + 1) (fun b hb hlt h => by
                have hge := (HO5.out.lt b hb).1
                rcases h with h | h
                · have := (HOL.out b h).2
                  have := HM.out
                  omega
                · omega)).2
              refine ⟨de, HDE.out, hrow.to (Kp.mono hgr (fun _ _ h => .inl h)) ?_, fun q hq => ?_⟩
              · intro b hb h1
                have hgb : g = b := by simpa [Value.ownBlock] using h1
                subst hgb
                rcases hat with h2 | h2
                · exact .inl h2
                · exact .inr h2
              · refine (HNE.out q hq).to (X' := fun b => (Value.slice (some ⟨g, 0, none⟩) (k + 1) cap).ownBlock = some b) ((Kp.of_below hbw).trans (Kp.mono hgr (fun b _ h => ?_))) ?_
                · exact (HOL.out b h).1
                · intro b hb h1
                  have hgb : g = b := by simpa [Value.ownBlock] using h1
                  subst hgb
                  rcases hat with h2 | h2
                  · exact (HOL.out g h2).1
                  · have := hbw.size
                    omega
          have HO2' := Lib.hid hown4
          have HJ2 := Lib.hid hj2
          have z1 : Below w.heap.size w w4 := (hbw.alloc hbw.size _).grown hgrow (by have := hbw.size; simp; omega) (fun q hq => (HOL.out q hq).1)
          have HZ1 := Lib.hid z1
          clear hown4 hgrow hat hgl hj2 z1
          refine ⟨⟨k + 1, by omega, by go_num, Lib.hid ⟨_, by rw [HTk.out, List.map_append, List.map_append, Hd'.out]; rfl, by rw [flat_snoc]; exact HO2'.out, HJ2.out⟩, HZ1⟩, by simp [intOf]; omega⟩
    · have t0 : decide (k < n) = false := by simp; omega
      obtain ⟨Ao, co, hvo, _⟩ := row_end hO
      have htk : d.take k = d := List.take_of_length_le (by have := HL.out; omega)
      rw [htk, ← HD.out] at hd'
      have hfin : ∃ v', (Ending.returned u3) = .returned v' ∧ Ix wr (fun _ => False) v' is ∧ Below w.heap.size w wr := by
        have hlen : k = d'.length := by
          have h1 := hO.1
          rw [flat_len iq_len] at h1
          omega
        subst hlen
        exact ⟨u3, rfl, ⟨d', hd'.symm, (Rw.of_own iq_len (by decide) hO (fun _ _ _ h => h)).2, fun p hp => (hn' p hp).to (Kp.refl _ _) (fun _ _ h => h.elim)⟩, HB.out⟩
      subst hvo
      have HFin := Lib.hid hfin
      clear hfin htk hd' hO hn' HOd
      go_wp2
      refine bodyPost_ret (v := _) (by simp [results, Tryz.results16, go_sem]; try rfl) rfl HFin.out
end Go.Proofs.YtmjneokjgcgchaaGreat
