/-
  The walk of the statement DestEnds.
-/
import Derived.Test.YtpcaipifppnfdaaDestFinds
import Derived.Test.YtpcaipifppnfdaaBits
namespace Go.Proofs.Ytpcaipifppnfdaa
open Go.RowKit
attribute [local go_sem ↓] Go.wp_at_zero Go.wp_at_succ

theorem Ct.find {m : List Bp} (h : Ct m) {s : Bp} (hs : s ∈ m) {v : Int} (h1 : s.lo ≤ v) (h2 : v ≤ s.hi) : findB m s.n v = some (goB s v) := by
  rw [findB, if_pos h, h.of hs h1 h2]
theorem Ct.behind {m : List Bp} (h : Ct m) {s : Bp} (hs : s ∈ m) : (findB m s.n (s.hi + 1)).isSome = false ∨ (findB m s.n (s.hi + 1)).getD [] ≠ addU (goB s s.hi) 1 := by
  rw [findB, if_pos h]
  cases e : lastB m s.n (s.hi + 1) with
  | none => exact .inl rfl
  | some x =>
    right
    rw [← goB_add]
    exact h.ends hs e
theorem findB_short {m : List Bp} {n v : Int} (h : ∀ b ∈ m, b.u.length ≤ 1000) : ((findB m n v).getD []).length ≤ 1000 := by
  unfold findB
  split
  · exact lastB_short h
  · simp
theorem own_int_cell {w : World} {base g n cap q : Nat} {e : TypeId} {u : List Int} {x : Int} (h : w.ownsRow base e 1 (.slice (some ⟨g, 0, none⟩) n cap) n (ivs u)) (hx : u[q]? = some x) : w.cell? ⟨g, q, none⟩ = some (.int .i64 x) := by
  have := h.cells (g := g) rfl q (.int .i64 x) (by simp [ivs, hx])
  rwa [addr_add, Nat.zero_add] at this
set_option maxRecDepth 100000 in
set_option maxHeartbeats 8000000 in
theorem dends_walk (A : Option Addr) (c : Nat) (l : List Me) (k : Int) (w : World) (hA : Sd w A l) (hm : l.length ≤ maxLen) (hmu : ∀ m ∈ l, m.b.u.length ≤ maxLen) :
    Calls Try.prog 7 #[.slice A l.length c, .int .i64 k] w fun e w' => e = .returned (.bool true) ∧ Below w.heap.size w w' := by
  obtain ⟨i0, hi0, hz0, hz1, hz2⟩ := info_parts info64
  unfold maxLen at hm hmu
  have HA := Lib.hid hA
  have HMU := Lib.hid hmu
  obtain ⟨K, hk⟩ : ∃ K, K = l.length := ⟨_, rfl⟩
  have HK := Lib.hid hk
  have KFW : Hid (∀ W, Below w.heap.size w W → Calls Try.prog 10 #[.slice A K c] W fun e w' => e = .returned (.bool (decide (fewB (pl l)))) ∧ Below W.heap.size W w') := Lib.hid fun W hW => by
    have := Few_any A c l W (HA.out.over hW) (by omega) (fun m hm => by have := HMU.out m hm; omega)
    rwa [← hk] at this
  rw [← hk] at hm ⊢
  clear hk hA hmu
  go_enter Try.func7, Try.ntmps7
  go_wp2_with fail
  refine (awake_any _).mono ?_
  rintro e w1 ⟨rfl, bk1⟩
  go_wp2_with fail
  refine (KFW.out _ bk1).mono ?_
  rintro e w1' ⟨rfl, hb1'⟩
  have bk1' := bk1.trans (hb1'.mono bk1.size)
  clear hb1' KFW bk1
  cases hfew : decide (fewB (pl l)) with
  | false =>
    go_wp2
    go_ret
    exact ⟨rfl, bk1'⟩
  | true =>
    have HFEW := Lib.hid (of_decide_eq_true hfew)
    clear hfew
    have hk60 : K ≤ 60 := by have := HFEW.out.2; rw [pl_length, ← HK.out] at this; exact this
    have K1 : Hid (Calls Try.prog 21 #[.slice A K c] w1' (BuiltB w1' (pl l))) := Lib.hid (by
      have := DBuild_any l (by have := HK.out; omega) A c w1' (HA.out.over bk1')
      rwa [← HK.out] at this)
    go_wp2_with fail
    refine K1.out.mono ?_
    rintro e w2 ⟨m, A1, c1, rfl, h2, h3, h4, h5, h6, h7, h8⟩
    have bk2 := bk1'.trans (h8.mono bk1'.size)
    have hfew2 := h6.few h7
    rw [pl_length, pl_length] at hfew2
    have HM := Lib.hid h4
    have HP := Lib.hid h6
    obtain ⟨f, hf⟩ : ∃ f, f = m.length := ⟨_, rfl⟩
    have HF := Lib.hid hf
    have hfk : f ≤ 120 := by have := HK.out; omega
    rw [← hf]
    clear h2 h3 h5 h6 h7 h8 hfew2 hf K1
    by_cases h0 : f = 0
    · have t1 : ((f : Int) == 0) = true := by simp [h0]
      have t2 : (f == 0) = true := by simp [h0]
      clear h4
      subst h0
      go_wp2
      go_ret
      exact ⟨rfl, bk2⟩
    · have t1 : ((f : Int) == 0) = false := by simp; omega
      have t2 : (f == 0) = false := by simp; omega
      obtain ⟨i, hi⟩ : ∃ i : Nat, (i : Int) = k % 65536 % (f : Int) := ⟨(k % 65536 % (f : Int)).toNat, by have := Int.emod_nonneg (k % 65536) (b := (f : Int)) (by omega); omega⟩
      have hi2 : i < f := by have := Int.emod_lt_of_pos (k % 65536) (b := (f : Int)) (by omega); omega
      have hx := List.getElem?_eq_getElem (l := m) (i := i) (by have := HF.out; omega)
      generalize m[i]'(by have := HF.out; omega) = s at *
      have hsm : s.b ∈ pl m := List.mem_map.2 ⟨s, List.mem_of_getElem? hx, rfl⟩
      have hss := HP.out.1 s.b hsm
      have hlo := HP.out.lo hsm
      have p1 := saneB_top hss.1
      have p2 := saneB_top hss.2.1
      have hsu := HM.out.ul s (List.mem_of_getElem? hx)
      obtain ⟨b, o, rfl, hb, ⟨y0, y1, y2, y3⟩⟩ := h4.rd.at hx
      have KF : ∀ (v : Int) (r : Option (List Int)), findB (pl m) s.b.n v = r → ∀ W, Below w2.heap.size w2 W → Calls Try.prog 16 #[.slice (some ⟨b, o, none⟩) f c1, .agg #[.int .i64 s.b.n, .int .i64 v]] W (RetO W r) := fun v r hr W hW => by
        have := dFind_any (some ⟨b, o, none⟩) c1 m s.b.n v W (HM.out.over hW) (by have := HF.out; omega)
        rw [hr] at this
        rwa [← HF.out] at this
      have k1 := KF _ _ (HP.out.find hsm (Int.le_refl _) hlo)
      have k2 := KF _ _ (HP.out.find hsm hlo (Int.le_refl _))
      have k3 := KF _ _ (rfl : findB (pl m) s.b.n (s.b.hi + 1) = _)
      have hbh := HP.out.behind hsm
      have hsh := findB_short (n := s.b.n) (v := s.b.hi + 1) (ct_short HP.out)
      rw [goB_lo] at k1
      have hnz := hss.2.2.2.1
      obtain ⟨q, hq⟩ : ∃ q, s.b.u.length = q + 1 := ⟨s.b.u.length - 1, by have := hnz.1; omega⟩
      have hq64 : q < 64 := by have := hnz.2.1; omega
      have hgl : (goB s.b s.b.hi).length = q + 1 := by rw [goB_len, hq]
      have hL0 : s.b.u[q]? = some (lastU s.b.u) := lastU_at hq
      have hL1 : (goB s.b s.b.hi)[q]? = some (lastU s.b.u + (s.b.hi - s.b.lo)) := by rw [lastU_at hgl, lastU_goB hnz]
      have hgL : lastU (goB s.b s.b.hi) = lastU s.b.u + (s.b.hi - s.b.lo) := lastU_goB hnz _
      have hlb := hnz.last
      have hl5 := hss.2.2.2.2
      generalize goB s.b s.b.hi = G at *
      generalize findB (pl m) s.b.n (s.b.hi + 1) = R at *
      have HI := Lib.hid hi
      have tm : bits .and .i64 k 65535 = k % 65536 := i64_mask16 k
      generalize hm' : k % 65536 = kk at *
      have hk0 : 0 ≤ kk ∧ kk < 65536 := by omega
      obtain ⟨hk0, hk1⟩ := hk0
      have hr : kk % (f : Int) = (i : Int) := HI.out.symm
      have K1 := Lib.hid k1
      have K2 := Lib.hid k2
      have K3 := Lib.hid k3
      have HBH := Lib.hid hbh
      have HSH := Lib.hid hsh
      have HL0 := Lib.hid hL0
      have HL1 := Lib.hid hL1
      have HGL := Lib.hid hgl
      have HGU := Lib.hid hgL
      have HQ := Lib.hid hq
      have HSU := Lib.hid hsu
      generalize lastU s.b.u = LU at *
      obtain ⟨n0, n1, _⟩ := p1
      obtain ⟨n2, n3, _⟩ := p2
      have hwr : IntKind.i64.wrap (s.b.hi + 1) = s.b.hi + 1 := IntWalk.i64_in _ (by omega)
      have wr1 : IntKind.i64.wrap (LU + s.b.hi) = LU + s.b.hi := IntWalk.i64_in _ (by omega)
      have wr2 : IntKind.i64.wrap (LU + s.b.hi - s.b.lo) = LU + s.b.hi - s.b.lo := IntWalk.i64_in _ (by omega)
      have wr3 : IntKind.i64.wrap (LU + (s.b.hi - s.b.lo) + 1) = LU + (s.b.hi - s.b.lo) + 1 := IntWalk.i64_in _ (by omega)
      have tg : (LU + (s.b.hi - s.b.lo) != LU + s.b.hi - s.b.lo) = false := by simp; omega
      have hbs := Fb.new w2 s 25
      have hszA : (w2.alloc (.cells #[.int .i64 s.b.n, .int .i64 s.b.lo, .int .i64 s.b.hi, .slice s.a s.b.u.length s.c] 25)).heap.size = w2.heap.size + 1 := by simp
      have hbA := al_below w2 (.cells #[.int .i64 s.b.n, .int .i64 s.b.lo, .int .i64 s.b.hi, .slice s.a s.b.u.length s.c] 25)
      clear hx hsm hss KF k1 k2 k3 hbh hsh hm' hi h4 hq hnz hgl hL0 hL1 hgL hsu
      go_wp2_with fail
      refine (K1.out _ hbA).mono ?_
      intro e w3 hre
      obtain ⟨a3, c3, u3, b3, rfl, hu3, rfl, hun3, hb3⟩ := retO_same hre
      have hu3' : u3 = s.b.u := hu3
      subst hu3'
      have s3 := hbs.below hb3 (by omega)
      have k3 := hbA.trans (hb3.mono (by omega))
      have z3 : w2.heap.size < w3.heap.size := by have := hb3.size; omega
      clear y0 y1 y2 y3 hbs hszA hre hu3
      obtain ⟨y0, y1, y2, y3⟩ := id s3
      simp only [Nat.zero_add] at y1 y2 y3
      go_wp2_with fail
      refine (K2.out _ k3).mono ?_
      intro e w4 hre
      obtain ⟨a4, c4, u4, b4, rfl, hu4, rfl, hun4, hb4⟩ := retO_same hre
      have hu4' : u4 = G := hu4
      subst hu4'
      have s4 := s3.below hb4 z3
      have k4 := k3.trans (hb4.mono k3.size)
      have z4 := Nat.lt_of_lt_of_le z3 hb4.size
      have hun3 := hun3.over hb4
      clear y0 y1 y2 y3 s3 hre hu4
      obtain ⟨y0, y1, y2, y3⟩ := id s4
      simp only [Nat.zero_add] at y1 y2 y3
      go_wp2_with fail
      refine (K3.out _ k4).mono ?_
      intro e w5 hre
      obtain ⟨a5, c5, u5', b5, rfl, hu5, hbb5, hun5, hb5⟩ := retO_same hre
      have s5 := s4.below hb5 z4
      have k5 := k4.trans (hb5.mono k4.size)
      have hun3 := hun3.over hb5
      have hun4 := hun4.over hb5
      have hus5 := HSU.out.over k5
      have bE := bk2.trans (k5.mono bk2.size)
      have hR : b5 = false ∨ u5' ≠ addU u4 1 := by
        rcases HBH.out with h | h
        · exact .inl (hbb5.trans h)
        · exact .inr (by rw [hu5]; exact h)
      have hl5u : u5'.length ≤ 1000 := by rw [hu5]; exact HSH.out
      have HRR := Lib.hid hR
      clear y0 y1 y2 y3 s4 hre hu5 hbb5 hR K1 K2 K3 k3 k4 hb3 hb4 hb5
      obtain ⟨y0, y1, y2, y3⟩ := id s5
      simp only [Nat.zero_add] at y1 y2 y3
      obtain ⟨b3, o3, ea3, _, hc3⟩ := hun3.si (by have := HQ.out; omega)
      obtain ⟨b4, o4, ea4, _, hc4⟩ := hun4.si (by have := HGL.out; omega)
      have g3 := hc3 q (by have := HQ.out; omega)
      have g4 := hc4 q (by have := HGL.out; omega)
      rw [HL0.out] at g3
      rw [HL1.out] at g4
      have g3' : w5.cell? ⟨b3, o3 + q, none⟩ = some (.int .i64 LU) := g3
      have g4' : w5.cell? ⟨b4, o4 + q, none⟩ = some (.int .i64 (LU + (s.b.hi - s.b.lo))) := g4
      have KS : Hid (∀ m', Calls Try.prog 18 #[.slice a3 (q + 1) c3, .slice s.a (q + 1) s.c] (w5.drewN m') fun r w' => r = .returned (.bool true) ∧ ∃ n, w' = (w5.drewN m').drewN n) := Lib.hid fun m' => by
        have hk : Below w5.heap.size w5 (w5.drewN m') := below_drewN (Below.refl _ _) _
        have := iSame_any a3 s.a c3 s.c (q + 1) (q + 1) s.b.u s.b.u (w5.drewN m') HQ.out.symm HQ.out.symm (by omega) (by omega) (hun3.si.over hk) (hus5.si.over hk)
        rw [decide_eq_true rfl] at this
        exact this
      rw [HQ.out] at y3 ⊢
      rw [HGL.out]
      subst ea3 ea4
      have f1 : (0 : Int) ≤ (q : Int) := by omega
      have f2 : (q : Int) < (q : Int) + 1 := by omega
      have tq0 : ((q : Int) + 1 == 0) = false := by simp; omega
      have hwq : IntKind.i64.wrap (q : Int) = (q : Int) := IntWalk.i64_in _ (by omega)
      have HUN4 := Lib.hid hun4
      have HUN5 := Lib.hid hun5
      clear g3 g4 hc3 hc4 hun3 hun4 hus5 s5 hun5
      go_wp2
      go_quiet ((go_at_call 18; exact Calls.quiet_of (KS.out _)))
      have HL5 := Lib.hid hl5u
      have HS5 := Lib.hid (below_drewN (Below.refl w5.heap.size w5) nq)
      have HBE := Lib.hid (below_drewN bE nq)
      have hown0 := own_emptyI (w5.drewN nq) w5.heap.size 3 (Nat.le_refl _)
      have hu4W := HUN4.out.over HS5.out
      have hu5W := HUN5.out.over HS5.out
      clear hl5u y0 y1 y2 y3 g3' g4' bE
      generalize w5.drewN nq = w6 at *
      have HGS := Lib.hid (ivs_set_last HGL.out 1)
      have HU5 := Lib.hid hu5W
      cases b5 with
      | false =>
        go_wp2_with (at_builtin; refine app_ints rfl _ _ _ rfl w5.heap.size 3 i0 Try.underlying23 hi0 hz0 hz1 hz2 _ [] rfl hown0 w6.heap.size (some ⟨b4, o4, none⟩) _ _ u4 HGL.out.symm rfl (hu4W.si.alloc (Nat.le_refl _) _) (fun e => by cases e) (by have := HGL.out; simp; omega) (by have := HS5.out.size; simp; omega) ?_; intro v7 w7 hown7 hgrow7; rw [List.nil_append, HGL.out] at hown7; obtain ⟨g7, cap7, rfl, hg71, hg72⟩ := hown7.form (by omega); have hcl7 := own_int_cell hown7 HL1.out; have hfz7 := hown7.frozenAt q)
        have hb7 : Below w5.heap.size w5 w7 := (HS5.out.alloc HS5.out.size _).grown hgrow7 (by have := HS5.out.size; simp; omega) (fun j hj => (own_ltD hown0 hj).1)
        have k7 := hown7.stored q (.int .i64 (LU + (s.b.hi - s.b.lo) + 1))
        have hgs := HGS.out
        rw [HGU.out] at hgs
        rw [hgs] at k7
        obtain ⟨k7, kg7⟩ := k7
        have hb8 : Below w5.heap.size w5 (w7.setCell ⟨g7, q, none⟩ (.int .i64 (LU + (s.b.hi - s.b.lo) + 1))) := hb7.setCell (p := ⟨g7, q, none⟩) hg71 _
        have hu5b := HUN5.out.over hb8
        have HE := Lib.hid (bk2.trans ((k5.trans (hb8.mono k5.size)).mono bk2.size))
        clear hown7 hgrow7 hb7 k7 kg7 hgs hb8 hu5b hown0 hu4W hu5W
        go_ret
        exact ⟨rfl, HE.out⟩
      | true =>
        go_wp2_with (at_builtin; refine app_ints rfl _ _ _ rfl w5.heap.size 3 i0 Try.underlying23 hi0 hz0 hz1 hz2 _ [] rfl hown0 w6.heap.size (some ⟨b4, o4, none⟩) _ _ u4 HGL.out.symm rfl (hu4W.si.alloc (Nat.le_refl _) _) (fun e => by cases e) (by have := HGL.out; simp; omega) (by have := HS5.out.size; simp; omega) ?_; intro v7 w7 hown7 hgrow7; rw [List.nil_append, HGL.out] at hown7; obtain ⟨g7, cap7, rfl, hg71, hg72⟩ := hown7.form (by omega); have hcl7 := own_int_cell hown7 HL1.out; have hfz7 := hown7.frozenAt q)
        have hb7 : Below w5.heap.size w5 w7 := (HS5.out.alloc HS5.out.size _).grown hgrow7 (by have := HS5.out.size; simp; omega) (fun j hj => (own_ltD hown0 hj).1)
        have k7 := hown7.stored q (.int .i64 (LU + (s.b.hi - s.b.lo) + 1))
        have hgs := HGS.out
        rw [HGU.out] at hgs
        rw [hgs] at k7
        obtain ⟨k7, kg7⟩ := k7
        have hb8 : Below w5.heap.size w5 (w7.setCell ⟨g7, q, none⟩ (.int .i64 (LU + (s.b.hi - s.b.lo) + 1))) := hb7.setCell (p := ⟨g7, q, none⟩) hg71 _
        have hu5b := HUN5.out.over hb8
        have KE : Hid (Calls Try.prog 18 #[.slice a5 u5'.length c5, .slice (some ⟨g7, 0, none⟩) (q + 1) cap7] (w7.setCell ⟨g7, q, none⟩ (.int .i64 (LU + (s.b.hi - s.b.lo) + 1))) fun e w' => e = .returned (.bool false) ∧ ∃ z, w' = (w7.setCell ⟨g7, q, none⟩ (.int .i64 (LU + (s.b.hi - s.b.lo) + 1))).drewN z) := Lib.hid (by
          obtain ⟨c, hcc, _, A', eA, hsi⟩ := Si.of_own k7
          injection eA with eA _ _
          subst eA
          have := iSame_any a5 (some ⟨g7, 0, none⟩) c5 cap7 u5'.length (q + 1) u5' (addU u4 1) _ rfl (by rw [addU_length, HGL.out]) (by have := HL5.out; omega) (by omega) hu5b.si hsi
          rw [decide_eq_false (by
            rcases HRR.out with h | h
            · cases h
            · exact h)] at this
          exact this)
        have HE := Lib.hid (bk2.trans ((k5.trans (hb8.mono k5.size)).mono bk2.size))
        clear hown7 hgrow7 hb7 k7 kg7 hgs hb8 hu5b hown0 hu4W hu5W
        generalize u5'.length = L5 at *
        refine KE.out.mono ?_
        rintro e w9 ⟨rfl, z, rfl⟩
        have hE2 := below_drewN HE.out z
        go_wp2
        go_ret
        exact ⟨rfl, hE2⟩
end Go.Proofs.Ytpcaipifppnfdaa
