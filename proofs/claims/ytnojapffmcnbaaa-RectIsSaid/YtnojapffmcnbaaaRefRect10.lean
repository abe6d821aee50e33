/-
  The document's own Nth, where there is one.
-/
import Derived.Test.YtnojapffmcnbaaaRefRect9
import Derived.Test.YtnojapffmcnbaaaRefVal
import Derived.Deep.DrawnRows
namespace Go.Proofs.Ytnojapffmcnbaaa
open Go.RowKit
attribute [local go_sem ↓] Go.wp_at_zero Go.wp_at_succ

theorem num_rev : ∀ {u : List Nat}, (∀ d ∈ u, d < 256) → num (u.reverse.map UInt8.ofNat) = (nuR u : Int)
  | [], _ => rfl
  | d :: t, h => by
    have ih := num_rev (u := t) (fun x hx => h x (List.mem_cons_of_mem _ hx))
    have hd := h d List.mem_cons_self
    rw [List.reverse_cons, List.map_append, List.map_cons, List.map_nil, num_snoc, ih, nuR, UInt8.toNat_ofNat_of_lt' hd]
    omega
/-- Bytes of a block that may be written, those behind a place known. -/
structure Qn (w : World) (g N : Nat) (u : List Nat) (j : Nat) : Prop where
  sm : ∀ t, t < N → (w.cell? ⟨g, t, none⟩).isSome = true
  fz : ∀ t, t < N → w.frozen? ⟨g, t, none⟩ = false
  val : ∀ (t d : Nat), t < j → u[t]? = some d → w.cell? ⟨g, N - 1 - t, none⟩ = some (.int .u8 (d : Int))
theorem Qn.set {w : World} {g N j : Nat} {u : List Nat} (h : Qn w g N u j) (hj : j < N) {d : Nat} (hd : u[j]? = some d) : Qn (w.setCell ⟨g, N - 1 - j, none⟩ (.int .u8 (d : Int))) g N u (j + 1) := by
  have ne : ∀ t, t ≠ N - 1 - j → (⟨g, N - 1 - j, none⟩ : Addr) ≠ ⟨g, t, none⟩ := fun t ht e => by injection e with _ e2; exact ht e2.symm
  obtain ⟨v, hv⟩ := Option.isSome_iff_exists.1 (h.sm (N - 1 - j) (by omega))
  refine ⟨fun t ht => ?_, fun t ht => by rw [World.frozen?_setCell]; exact h.fz t ht, fun t e ht he => ?_⟩
  · by_cases q : t = N - 1 - j
    · rw [q, World.cell?_setCell_same _ _ _ hv]; rfl
    · rw [World.cell?_setCell_other _ _ _ _ (ne t q)]; exact h.sm t ht
  · by_cases q : t = j
    · subst q
      rw [hd] at he
      cases he
      exact World.cell?_setCell_same _ _ _ hv
    · rw [World.cell?_setCell_other _ _ _ _ (ne _ (by omega))]
      exact h.val t e (by omega) he
theorem Qn.drewN {w : World} {g N j : Nat} {u : List Nat} (h : Qn w g N u j) (n : Nat) : Qn (w.drewN n) g N u j := ⟨h.sm, h.fz, h.val⟩
theorem Qn.sl {w : World} {g N : Nat} {u : List Nat} (h : Qn w g N u N) (hu : u.length = N) (hs : ∀ d ∈ u, d < 256) (hg : g < w.heap.size) : Sl w w.heap.size (some ⟨g, 0, none⟩) (u.reverse.map UInt8.ofNat) := fun _ => by
  refine ⟨g, 0, rfl, hg, fun i hi => ?_⟩
  have hi' : i < N := by simpa [hu] using hi
  obtain ⟨d, hd⟩ : ∃ d, u[N - 1 - i]? = some d := ⟨_, List.getElem?_eq_getElem (by omega)⟩
  have := h.val (N - 1 - i) d (by omega) hd
  rw [show N - 1 - (N - 1 - i) = i by omega] at this
  rw [Nat.zero_add, this, List.getElem?_map, rev_at (by omega), hu, hd]
  simp only [Option.map_some, Option.getD_some]
  rw [UInt8.toNat_ofNat_of_lt' (hs d (List.mem_of_getElem? hd))]
set_option maxRecDepth 100000 in
set_option maxHeartbeats 2000000 in
theorem rNth_yes (r : Rc) (K : Nat) (w : World) (hs : saneR r = true) (hK : K < sizeR r) :
    Calls Try.prog 12 #[.agg #[.int .i64 r.n, .int .i64 r.lo, .int .i64 r.hi], .int .i64 (K : Nat)] w fun e w' => e = .returned (.tuple #[.agg #[.int .i64 r.n, .int .i64 (nthC r K)], .bool true]) ∧ Below w.heap.size w w' := by
  obtain ⟨i0, hi, hz0, hz1, hz2⟩ := info_parts (show (Try.prog.info? 5).map (fun i => (i.zero, i.size, i.bytes)) = some (some (.int .u8 0), 1, 1) by kernel_rfl)
  have k1 := rSize_any r
  have hK2 := sizeR_le r
  have h0 := (saneR_iff r).1 hs
  have hsb := (saneR_by h0.1 h0.2.1).1 hs
  obtain ⟨n1, n2, _⟩ := (saneB_iff _ _).1 h0.1
  have t0 : decide ((K : Int) < 0) = false := decide_eq_false (by omega)
  have t1 : decide (sizeR r ≤ K) = false := decide_eq_false (by omega)
  have hsm := wiR_small (prs_bnd hs) (ntR_in K (prs_bnd hs))
  obtain ⟨u, hu⟩ : ∃ u, u = ntR (prs r) K := ⟨_, rfl⟩
  rw [← hu] at hsm
  have hul : u.length = r.n.toNat := by rw [hu, ntR_length, prs_len hs]
  have hV : nthC r K = (nuR u : Int) := by rw [hu]; rfl
  rw [hV]
  have HSM := Lib.hid hsm
  have HU := Lib.hid hu
  have K1 := Lib.hid k1
  have K2 := Lib.hid (rlows_any r)
  have K3 := Lib.hid (rhighs_any r)
  have HS := Lib.hid hs
  have H0 := Lib.hid h0
  have HB := Lib.hid hsb
  obtain ⟨N, hN⟩ : ∃ N, N = r.n.toNat := ⟨_, rfl⟩
  have hNr : r.n = (N : Int) := by omega
  have hN4 : N ≤ 4 := by omega
  have hN1 : 1 ≤ N := by omega
  have HN := Lib.hid hN
  have e1 : (codeL r.n r.lo).length = N := by rw [code_len H0.out.1, hN]
  have e2 : (codeL r.n r.hi).length = N := by rw [code_len H0.out.2.1, hN]
  have E1 := Lib.hid e1
  have E2 := Lib.hid e2
  have HNR := Lib.hid hNr
  have HUL : Hid (u.length = N) := Lib.hid (by rw [hul, hN])
  clear k1 hs h0 hsb hV hsm hu hul hN e1 e2 hNr
  generalize sizeR r = Z at *
  go_enter Try.func12, Try.ntmps12
  go_wp2_with fail
  refine (K1.out _).mono ?_
  rintro e w1 ⟨rfl, hb1⟩
  have z1 : w.heap.size + 1 < w1.heap.size := by have := hb1.size; simp at this; omega
  have x1 : Bx w1 w.heap.size r := (Bx.mk (by simp) (by simp) (by simp)).below hb1 (by simp; omega)
  have b1 : Below w.heap.size w w1 := (((Below.refl _ _).alloc (Nat.le_refl _) _).alloc (by simp) _).trans (hb1.mono (by simp; omega))
  have r1 : Rs w1 (w.heap.size + 1) := (Rs.mk (by simp) (by simp) (by simp) (by simp)).below hb1 (by simp)
  clear hb1
  obtain ⟨y0, y1, y2⟩ := id x1
  go_wp2_with fail
  refine (K2.out _).mono ?_
  rintro e w2 ⟨A1, c1, rfl, hc1, hs1, hb2⟩
  rw [E1.out] at hc1 ⊢
  have x2 := x1.below hb2 (by omega)
  have r2 := r1.below hb2 z1
  have b2 := b1.trans (hb2.mono b1.size)
  have z2 := Nat.lt_of_lt_of_le z1 hb2.size
  clear y0 y1 y2 hb2 x1 z1 b1 r1
  obtain ⟨y0, y1, y2⟩ := id x2
  go_wp2_with fail
  refine (K3.out _).mono ?_
  rintro e w3 ⟨A2, c2, rfl, _, hs2, hb3⟩
  rw [E2.out]
  have x3 := x2.below hb3 (by omega)
  have r3 := r2.below hb3 z2
  have b3 := b2.trans (hb3.mono b2.size)
  have z3 := Nat.lt_of_lt_of_le z2 hb3.size
  have hs1' := hs1.over hb3
  clear y0 y1 y2 hb3 x2 z2 b2 r2 hs1
  obtain ⟨ba, oa, rfl, hba, hca⟩ := hs1' (by rw [E1.out]; omega)
  obtain ⟨bb, ob, rfl, hbb, hcb⟩ := hs2 (by rw [E2.out]; omega)
  have hS3 : Sl (w3.alloc (.cells #[] 5)) w3.heap.size (some ⟨ba, oa, none⟩) (codeL r.n r.lo) := hs1'.below ((Below.refl _ _).alloc (Nat.le_refl _) _)
  have HCA := Lib.hid hca
  have HCB := Lib.hid hcb
  clear hca hcb hs1' hs2
  go_wp2_with (at_builtin; refine app_bytes rfl _ _ _ rfl w3.heap.size 5 i0 Try.underlying26 hi hz0 hz1 hz2 _ [] rfl (own_emptyB w3 w3.heap.size _ (Nat.le_refl _)) w3.heap.size (some ⟨ba, oa, none⟩) c1 (codeL r.n r.lo) (by rw [E1.out]; rfl) hS3 (fun e => by cases e) (by rw [E1.out]; simp; omega) (by simp) ?_; intro v4 w4 hown4 hgrow4; have hb4 : Below w3.heap.size w3 w4 := ((Below.refl _ _).alloc (Nat.le_refl _) _).grown hgrow4 (by simp) (fun q hq => ((own_emptyB w3 w3.heap.size 5 (Nat.le_refl _)).lt q hq).1); have x4 := x3.below hb4 (by omega); obtain ⟨y0, y1, y2⟩ := id x4)
  rw [List.nil_append, E1.out] at hown4
  obtain ⟨g, cap, cur, rfl, hg3, hgh, hcap, hsz⟩ : ∃ g cap cur, v4 = .slice (some ⟨g, 0, none⟩) N cap ∧ w3.heap.size ≤ g ∧ w4.heap[g]? = some (.cells cur 5 (0, 0)) ∧ N ≤ cap ∧ cur.size = cap := by
    rcases hown4.2 with ⟨_, h0⟩ | ⟨g, cap, cur, hv, h1, h2, h3, _, h5, _⟩
    · omega
    · exact ⟨g, cap, cur, hv, h1, h2, h3, by simpa using h5⟩
  have hQ0 : Qn w4 g N u 0 := ⟨fun t ht => by simp [World.cell?, hgh]; omega, fun t ht => by simp [World.frozen?, hgh], fun t d ht => by omega⟩
  have hgz : g < w4.heap.size := (Array.getElem?_eq_some_iff.1 hgh).1
  have hk0 : kJ (prs r) K 0 = K := by cases prs r <;> rfl
  have HX := Lib.hid x3
  have HR := Lib.hid r3
  clear hown4 hgrow4 hgh hsz hS3 x4 x3 r3 y0 y1 y2
  rw [HNR.out]
  go_wp2
  go_loopw [1, 9] (fun kk i wr => ∃ j : Nat, j ≤ N ∧ i = .int .i64 ((N : Int) - 1 - (j : Int)) ∧ kk = .int .i64 ((kJ (prs r) K j : Nat) : Int) ∧ Hid (kJ (prs r) K j ≤ K) ∧ Below w3.heap.size w3 wr ∧ g < wr.heap.size ∧ Hid (Qn wr g N u j)) (fun _ i _ => (intOf i + 1).toNat)
  case atStart => exact ⟨0, Nat.zero_le _, by simp, by rw [hk0], Lib.hid (by rw [hk0]; exact Nat.le_refl _), hb4, hgz, Lib.hid hQ0⟩
  case round =>
    clear hb4 hgz hQ0 hk0
    obtain ⟨j, hj, rfl, rfl, HL, hbel, hgz, HQ⟩ := hrel
    by_cases hlt : j < N
    · obtain ⟨I, hI⟩ : ∃ I : Nat, I = N - 1 - j := ⟨_, rfl⟩
      have eI : (N : Int) - 1 - (j : Int) = (I : Int) := by omega
      rw [eI]
      have t2 : decide ((0 : Int) ≤ (I : Int)) = true := decide_eq_true (by omega)
      have hjn : j < r.n.toNat := by rw [← HN.out]; exact hlt
      have hIn : I < r.n.toNat := by rw [← HN.out]; omega
      have v1 := HCA.out I (by rw [E1.out]; omega)
      have v2 := HCB.out I (by rw [E2.out]; omega)
      rw [code_byte H0.out.1 hIn, ← HN.out, show N - 1 - I = j by omega] at v1
      rw [code_byte H0.out.2.1 hIn, ← HN.out, show N - 1 - I = j by omega] at v2
      have v3 : wr.cell? ⟨ba, oa + I, none⟩ = some (.int .u8 (byJ r.lo j)) := (hbel.cell (p := ⟨ba, oa + I, none⟩) hba).trans v1
      have v4 : wr.cell? ⟨bb, ob + I, none⟩ = some (.int .u8 (byJ r.hi j)) := (hbel.cell (p := ⟨bb, ob + I, none⟩) hbb).trans v2
      have hp := prs_at H0.out.1 H0.out.2.1 hjn
      have hst := kJ_step (k := K) hp
      have hnt := ntR_at (k := K) hp
      rw [← HU.out] at hnt
      have hle := HB.out j hjn
      have b4 := byJ_bnd r.lo j
      have b5 := byJ_bnd r.hi j
      simp only at hst hnt
      have hkl := HL.out
      generalize hX : byJ r.lo j = x at *
      generalize hY : byJ r.hi j = y at *
      generalize hJ : kJ (prs r) K j = k at *
      have m1 : y.toNat - x.toNat + 1 = (y - x + 1).toNat := by omega
      rw [m1] at hst hnt
      obtain ⟨m, hm⟩ : ∃ m : Nat, (m : Int) = y - x + 1 := ⟨(y - x + 1).toNat, by omega⟩
      have m2 : (y - x + 1).toNat = m := by omega
      rw [m2] at hst hnt
      have m3 : 1 ≤ m := by omega
      have m4 : m ≤ 256 := by omega
      have hml := Nat.mod_lt k m3
      have hdl := Nat.div_le_self k m
      have ed : x + (k : Int) % (y - x + 1) = ((x.toNat + k % m : Nat) : Int) := by
        rw [← hm]
        omega
      have eq : (k : Int) / (y - x + 1) = ((k / m : Nat) : Int) := by
        rw [← hm]
        exact (Int.natCast_ediv k m).symm
      have hD : x.toNat + k % m < 256 := by omega
      generalize hDD : x.toNat + k % m = D at *
      generalize hQQ : k / m = q at *
      have hmod : 0 ≤ (k : Int) % (y - x + 1) ∧ (k : Int) % (y - x + 1) < 256 := by omega
      obtain ⟨hmo0, hmo1⟩ := hmod
      have wx : IntKind.i64.wrap x = x := by rw [IntKind.wrap_i64]; omega
      have wy : IntKind.i64.wrap y = y := by rw [IntKind.wrap_i64]; omega
      obtain ⟨c0, hc0⟩ := Option.isSome_iff_exists.1 (HQ.out.sm I (by omega))
      have hf0 := HQ.out.fz I (by omega)
      have hIN : I < N := by omega
      have HNT := Lib.hid hnt
      have HST := Lib.hid hst
      have HII := Lib.hid hI
      clear v1 v2 hp hst hnt hX hY hJ m1 m2 hDD hQQ hm hml eI hI hIn hjn
      go_wp2_with fail
      go_quiet (fail)
      go_wp2_with fail
      have v5 : (wr.drewN nq).cell? ⟨ba, oa + I, none⟩ = some (.int .u8 x) := v3
      have c5 : (wr.drewN nq).cell? ⟨g, I, none⟩ = some c0 := hc0
      have f5 : (wr.drewN nq).frozen? ⟨g, I, none⟩ = false := hf0
      have hbelD : Below w3.heap.size w3 (wr.drewN nq) := below_drewN hbel _
      have hgzD : g < (wr.drewN nq).heap.size := hgz
      have HQD := Lib.hid (HQ.out.drewN nq)
      clear v3 v4 hc0 hf0 hbel hgz HQ
      generalize wr.drewN nq = wD at *
      have hSa : wD.drew.cell? ⟨ba, oa + I, none⟩ = some (.int .u8 x) := v5
      have c6 : wD.drew.cell? ⟨g, I, none⟩ = some c0 := c5
      have f6 : wD.drew.frozen? ⟨g, I, none⟩ = false := f5
      have HKS : Hid (∀ v, (wD.drew.setCell ⟨g, I, none⟩ v).cell? ⟨ba, oa + I, none⟩ = some (.int .u8 x)) := Lib.hid (fun v => (World.cell?_setCell_far wD.drew ⟨g, I, none⟩ ⟨ba, oa + I, none⟩ v (by show g ≠ ba; omega)).trans hSa)
      have HKT : Hid (∀ v, (wD.setCell ⟨g, I, none⟩ v).drew.cell? ⟨ba, oa + I, none⟩ = some (.int .u8 x)) := Lib.hid (fun v => HKS.out v)
      have hw1 : IntKind.u8.wrap ((k : Int) % (y - x + 1)) = (k : Int) % (y - x + 1) := by
        generalize (k : Int) % (y - x + 1) = z at *
        simp [IntKind.wrap, IntKind.bits, IntKind.signed]
        omega
      have hw2 : IntKind.u8.wrap (D : Int) = (D : Int) := by
        simp [IntKind.wrap, IntKind.bits, IntKind.signed]
        omega
      go_region_held (fun w' => w'.cell? ⟨ba, oa + I, none⟩ = some (.int .u8 x))
        (first | with_reducible exact hSa | with_reducible exact HKS.out _ | with_reducible exact HKT.out _ | exact HKS.out _ | exact HKT.out _)
        (fail)
      all_goals
        go_wp2
        have hQs := HQD.out.set hlt HNT.out
        rw [← HII.out] at hQs
        refine ⟨⟨j + 1, by omega, by congr 1; have := HII.out; omega, by rw [HST.out], Lib.hid (by rw [HST.out]; have := HL.out; omega), (hbelD.setCell (show w3.heap.size ≤ g by omega) _).drew, by simpa using hgzD, Lib.hid ⟨hQs.sm, hQs.fz, hQs.val⟩⟩, by simp [intOf]⟩
    · have ej : j = N := by omega
      subst ej
      have t2 : decide ((0 : Int) ≤ (j : Int) - 1 - (j : Int)) = false := decide_eq_false (by omega)
      have hsl := HQ.out.sl HUL.out HSM.out hgz
      have hll : (u.reverse.map UInt8.ofNat).length = j := by simp [HUL.out]
      have kv := rVal_yes (some ⟨g, 0, none⟩) cap (u.reverse.map UInt8.ofNat) wr hsl (by omega) (by omega)
      rw [num_rev HSM.out, hll] at kv
      have KV := Lib.hid kv
      clear kv hsl hll
      go_wp2_with fail
      refine KV.out.mono ?_
      rintro e w5 ⟨rfl, hb5⟩
      have b5 := hbel.trans (hb5.mono hbel.size)
      have r5 := HR.out.below b5 z3
      have b6 := b3.trans (b5.mono b3.size)
      obtain ⟨g0, g1⟩ := r5.set (.int .i64 (j : Int)) (.int .i64 (nuR u : Int))
      have hbE : Below w.heap.size w ((w5.setCell ⟨w.heap.size + 1, 0, none⟩ (.int .i64 (j : Int))).setCell ⟨w.heap.size + 1, 1, none⟩ (.int .i64 (nuR u : Int))) := (b6.setCell (by simp) _).setCell (by simp) _
      obtain ⟨q0, q1, q2, q3⟩ := r5
      go_wp2
      clear q0 q1 q2 q3 b5 b6 hb5
      generalize (w5.setCell ⟨w.heap.size + 1, 0, none⟩ (.int .i64 (j : Int))).setCell ⟨w.heap.size + 1, 1, none⟩ (.int .i64 (nuR u : Int)) = W at *
      refine bodyPost_ret (v := _) (by simp [results, Try.results12, go_sem, g0, g1]; try rfl) rfl ?_
      exact ⟨by rw [HNR.out], hbE⟩
end Go.Proofs.Ytnojapffmcnbaaa
