/-
  The document's own Build (hornbookref07).
-/
import Derived.Test.YtdlkgcbiekilhaaRefSpan2
import Derived.Test.YtdlkgcbiekilhaaRefSpan4
import Derived.Test.YtdlkgcbiekilhaaSpanBld
import Derived.Test.YtdlkgcbiekilhaaSpanCat
import Derived.Test.YtdlkgcbiekilhaaSpanAdd
import Derived.Handy
namespace Go.Proofs.Ytdlkgcbiekilhaa
open Go.RowKit
attribute [local go_sem ↓] Go.wp_at_zero Go.wp_at_succ

theorem own_emptyS (w : World) (B : Nat) (e : TypeId) (hB : B ≤ w.heap.size) : (w.alloc (.cells #[] e)).ownsRow B e 4 (.slice (some ⟨w.heap.size, 0, none⟩) 0 0) ([] : List Sp).length (svs []) :=
  ⟨rfl, .inr ⟨w.heap.size, 0, #[], rfl, hB, heap_alloc_new w _, Nat.le_refl _, by unfold maxLen; omega, rfl, rfl⟩⟩
theorem own_room {w : World} {base c : Nat} {e : TypeId} {A : Option Addr} {l : List Sp} (h : w.ownsRow base e 4 (.slice A l.length c) l.length (svs l)) : A = none → c = 0 := by
  rintro rfl
  rcases h.2 with ⟨h1, _⟩ | ⟨g, cap, cur, h1, _⟩
  · injection h1
  · injection h1 with h1
    cases h1
theorem own_low {w : World} {base base' size n : Nat} {e : TypeId} {v : Value} {xs : List Value} (h : w.ownsRow base e size v n xs) (hb : base' ≤ base) : w.ownsRow base' e size v n xs := by
  refine ⟨h.1, ?_⟩
  rcases h.2 with h1 | ⟨g, cap, cur, h1, h2, h3⟩
  · exact .inl h1
  · exact .inr ⟨g, cap, cur, h1, Nat.le_trans hb h2, h3⟩
theorem Si.grown {w w' : World} {A : Option Addr} {l : List Int} {row : Option Nat} (h : Si w w.heap.size A l) (hg : w.grownBy w' row) (hne : ∀ g o, A = some ⟨g, o, none⟩ → row ≠ some g) : Si w' w'.heap.size A l := fun hn => by
  obtain ⟨b, o, e, hb, hc⟩ := h hn
  exact ⟨b, o, e, Nat.lt_of_lt_of_le hb hg.size, fun j hj => (World.grownBy.cell_far hg ⟨b, o + j, none⟩ hb (fun k => hne b o e k.symm)).trans (hc j hj)⟩
set_option maxRecDepth 100000 in
set_option maxHeartbeats 8000000 in
theorem rBuild_any (st : Bool) (A : Option Addr) (c : Nat) (l : List Sp) (w : World) (hA : Ss w w.heap.size A l) (hl : l.length ≤ 70) :
    Calls Try.prog 22 #[.slice A l.length c, .bool st] w (Bld w st l) := by
  obtain ⟨i0, hi, hz0, hz1, hz2⟩ := info_parts infoS
  have K1 := Lib.hid (fun (n : Int) W (hW : Below w.heap.size w W) => rborders_any st A c l n W (hA.over hW) (by omega))
  have K2 := Lib.hid (fun (n v : Int) W (hW : Below w.heap.size w W) => rLast_any st A c l n v W (hA.over hW) (by omega))
  obtain ⟨k0, hk0⟩ : ∃ k, k = l.length := ⟨_, rfl⟩
  rw [← hk0] at K1 K2 hl ⊢
  have HK := Lib.hid hk0
  clear hk0 hA
  go_enter Try.func22, Try.ntmps22
  go_wp2
  go_loopw [5, 6] (fun q i wr => ∃ (N : Nat) (out : List Sp), 1 ≤ N ∧ N ≤ 5 ∧ i = .int .i64 (N : Int) ∧ out.length ≤ 200 * (N - 1) ∧ Hid (PN st l (N : Int) out) ∧ wr.ownsRow w.heap.size 24 4 q out.length (svs out) ∧ Below w.heap.size w wr) (fun _ i _ => 5 - (intOf i).toNat)
  case atStart => exact ⟨1, [], by omega, by omega, rfl, by simp, Lib.hid PN.one, World.ownsRow_nil _ _ _ _, Below.refl _ _⟩
  case round =>
    obtain ⟨N, out, hN1, hN2, rfl, hout, HP, hown, hbel⟩ := hrel
    have hsz := hbel.size
    by_cases hN : N ≤ 4
    · have t0 : decide ((N : Int) ≤ 4) = true := decide_eq_true (by omega)
      have t1 : decide (N ≤ 4) = true := decide_eq_true hN
      go_wp2_with fail
      refine (K1.out _ _ hbel).mono ?_
      rintro e w1 ⟨b, Ab, cb, hbo, hbl, rfl, hsb, hnw, hb1⟩
      have own1 := own_belowS hown hb1 (Nat.le_refl _)
      have bk1 := hbel.trans (hb1.mono hsz)
      have hsz1 := bk1.size
      have HSB := Lib.hid hsb
      have HNE : Hid (∀ g o, Ab = some ⟨g, o, none⟩ → u5.ownBlock ≠ some g) := Lib.hid fun g o e k => by
        have h1 := hnw g o e
        have h2 := (hown.lt g k).2
        omega
      have HBO := Lib.hid hbo
      have HPI := Lib.hid (HP.out.start hbo)
      obtain ⟨B, hB⟩ : ∃ B, B = b.length := ⟨_, rfl⟩
      have hB2 : B ≤ 140 := by have := HK.out; omega
      have HBL := Lib.hid hB
      rw [← hB]
      clear hbo hbl hsb hnw hb1 hown hbel hsz hB HP
      go_wp2
      go_loopw [5, 8] (fun q2 i wq => ∃ (J : Nat) (o2 : List Sp), (J < B ∨ J = 0) ∧ i = .int .i64 (J : Int) ∧ o2.length ≤ 200 * (N - 1) + J ∧ Hid (PI st l (N : Int) b J o2) ∧ wq.ownsRow w.heap.size 24 4 q2 o2.length (svs o2) ∧ Below w.heap.size w wq ∧ Hid (Si wq wq.heap.size Ab b) ∧ Hid (∀ g o, Ab = some ⟨g, o, none⟩ → q2.ownBlock ≠ some g)) (fun _ i _ => B - (intOf i).toNat)
      case atStart => exact ⟨0, out, .inr rfl, rfl, by omega, HPI, own1, bk1, HSB, HNE⟩
      case round =>
        clear own1 bk1 hsz1 HSB HNE HPI hout
        obtain ⟨J, o2, hJ, rfl, hout, HP, hown, hbel, HS, HNE⟩ := hrel
        have hsz := hbel.size
        have w0 : IntKind.i64.wrap ((J : Int) + 1) = (J : Int) + 1 := IntWalk.i64_in _ (by omega)
        by_cases hJ1 : J + 1 < B
        · have u0 : decide ((J : Int) + 1 < (B : Int)) = true := decide_eq_true (by omega)
          have u1 : decide (J + 1 < B) = true := decide_eq_true hJ1
          have hj0 : (0 : Int) ≤ (J : Int) + 1 := by omega
          have hj2 : (J : Int) + 1 < (B : Int) := by omega
          have hj3 : (0 : Int) ≤ (J : Int) := by omega
          have hj4 : (J : Int) < (B : Int) := by omega
          obtain ⟨gb, ob, rfl, hgb, hcb⟩ := HS.out (by have := HBL.out; omega)
          have hy := List.getElem?_eq_getElem (l := b) (i := J) (by have := HBL.out; omega)
          have hz := List.getElem?_eq_getElem (l := b) (i := J + 1) (by have := HBL.out; omega)
          generalize b[J]'(by have := HBL.out; omega) = y at *
          generalize b[J + 1]'(by have := HBL.out; omega) = z at *
          have HY := Lib.hid hy
          have HZ := Lib.hid hz
          have HBC : Hid (∀ W, Below wr.heap.size wr W → W.cell? ⟨gb, ob + J, none⟩ = some (.int .i64 y) ∧ W.cell? ⟨gb, ob + (J + 1), none⟩ = some (.int .i64 z)) := Lib.hid fun W hW => by
            have h1 := hcb J (by have := HBL.out; omega)
            have h2 := hcb (J + 1) (by have := HBL.out; omega)
            rw [hy] at h1
            rw [hz] at h2
            exact ⟨(hW.cell (p := ⟨gb, ob + J, none⟩) hgb).trans h1, (hW.cell (p := ⟨gb, ob + (J + 1), none⟩) hgb).trans h2⟩
          obtain ⟨x0, x1⟩ := HBC.out _ (Below.refl _ _)
          clear hy hz hcb
          have KL := Lib.hid (K2.out (N : Int) y)
          unfold oV at KL
          cases hq : lastS st l (N : Int) y with
          | none =>
            rw [hq] at KL
            have HQ := Lib.hid hq
            clear hq
            go_wp2_with fail
            refine (KL.out _ hbel).mono ?_
            rintro e w2 ⟨rfl, hb2⟩
            have bk2 := hbel.trans (hb2.mono hsz)
            have own2 := own_belowS hown hb2 (Nat.le_refl _)
            clear x0 x1
            go_wp2
            refine ⟨⟨J + 1, o2, by omega, by first | rfl | go_num, by omega, Lib.hid (HP.out.skip HBO.out HY.out HZ.out HQ.out), own2, bk2, Lib.hid (HS.out.over hb2), HNE⟩, by simp [intOf]; omega⟩
          | some t =>
            rw [hq] at KL
            have HQ := Lib.hid hq
            clear hq
            go_wp2_with fail
            refine (KL.out _ hbel).mono ?_
            rintro e w2 ⟨rfl, hb2⟩
            have bk2 := hbel.trans (hb2.mono hsz)
            have own2 := own_belowS hown hb2 (Nat.le_refl _)
            have HH : Hid (∀ W, Below w2.heap.size w2 W → W.cell? ⟨gb, ob + J, none⟩ = some (.int .i64 y) ∧ W.cell? ⟨gb, ob + (J + 1), none⟩ = some (.int .i64 z)) := Lib.hid fun W hW => HBC.out _ (hb2.trans (hW.mono hb2.size))
            have HS2 := Lib.hid (HS.out.over hb2)
            have z0 : Below w2.heap.size w2 w2.drew := (Below.refl _ _).drew
            have hsn := HBO.out.sn HY.out HZ.out HQ.out
            have hzr : IntKind.i64.wrap (z - 1) = z - 1 := IntWalk.i64_in _ (by have := saneB_top hsn.2.1; simp only at this; omega)
            have HSN := Lib.hid hsn
            have hgb2 : gb < w2.heap.size := Nat.lt_of_lt_of_le hgb hb2.size
            clear x0 x1 hbel hsz hown HS hb2 hsn HBC KL
            have hsz2 := bk2.size
            obtain ⟨x0, x1⟩ := HH.out _ (Below.refl _ _)
            go_wp2_with fail
            go_region_held (fun W => W.cell? ⟨gb, ob + J, none⟩ = some (.int .i64 y) ∧ W.cell? ⟨gb, ob + (J + 1), none⟩ = some (.int .i64 z))
              (first | with_reducible exact HH.out _ z0 | exact HH.out _ (z0.alloc (by simp) _))
              (fail)
            obtain ⟨x, hx⟩ : ∃ x : Sp, x = ⟨(N : Int), y, z - 1, t⟩ := ⟨_, rfl⟩
            obtain ⟨W3, hW3⟩ : ∃ W3, (w2.alloc (.cells #[.int .i64 (N : Int), .int .i64 y, .int .i64 (z - 1), .int .i64 t] 24)).drew = W3 := ⟨_, rfl⟩
            have hbx : Bs W3 w2.heap.size x := by rw [← hW3, hx]; exact Bs.below (B := w2.heap.size + 1) (Bs.new w2 ⟨(N : Int), y, z - 1, t⟩ 24) (Below.refl _ _).drew (by omega)
            have hbW : Below w2.heap.size w2 W3 := by rw [← hW3]; exact ((Below.refl _ _).alloc (Nat.le_refl _) _).drew
            have hzW : w2.heap.size < W3.heap.size := by rw [← hW3]; simp
            rw [hW3]
            have HPA := Lib.hid (HP.out.add HBO.out HY.out HZ.out HQ.out)
            have HSN2 := HSN
            rw [← hx] at HPA HSN2
            have HCN : Hid (∀ s ∈ o2, Sn st s) := Lib.hid HP.out.1.1
            have hgb2 : gb < w2.heap.size := hgb2
            have HBX : Hid (∀ W, Below W3.heap.size W3 W → Bs W w2.heap.size x) := Lib.hid fun W hW => hbx.below hW hzW
            have HF : Hid (∀ W, Below W3.heap.size W3 W → Below w.heap.size w W ∧ W.ownsRow w.heap.size 24 4 u5 o2.length (svs o2) ∧ Si W W.heap.size (some ⟨gb, ob, none⟩) b ∧ w2.heap.size < W.heap.size) := Lib.hid fun W hW => by
              have k := hbW.trans (hW.mono hbW.size)
              exact ⟨bk2.trans (k.mono hsz2), own_belowS own2 k (Nat.le_refl _), HS2.out.over k, Nat.lt_of_lt_of_le hzW hW.size⟩
            obtain ⟨cv, _, hcv, Av, hv, _⟩ := Ss.of_own own2
            subst hv
            clear hW3 hbx hbW hzW hx x0 x1 HP HSN z0 hzr HH bk2 own2 HS2 HQ HY HZ
            rcases List.eq_nil_or_concat o2 with rfl | ⟨p, e, rfl⟩
            · have hadd : addL st [] x = [] ++ [x] := rfl
              rw [hadd] at HPA
              go_wp2_with fail
              go_quiet (fail)
              obtain ⟨W4, hW4⟩ : ∃ W4, W3.drewN nq = W4 := ⟨_, rfl⟩
              have hb4 : Below W3.heap.size W3 W4 := by rw [← hW4]; exact below_drewN (Below.refl _ _) _
              rw [hW4]
              clear hW4
              obtain ⟨bk4, own4, hs4, hz4⟩ := HF.out _ hb4
              obtain ⟨x0, x1, x2, x3⟩ := HBX.out _ hb4
              simp only [Nat.zero_add] at x1 x2 x3
              have hsz4 := bk4.size
              go_wp2_with (at_builtin; refine wpList_append_lies _ rfl _ _ _ rfl w.heap.size 24 i0 (.agg #[.int .i64 0, .int .i64 0, .int .i64 0, .int .i64 0]) 4 32 Try.underlying22 hi hz0 hz1 hz2 rfl (by omega) _ _ _ rfl (own4.alloc _) ⟨W4.heap.size, 0, none⟩ 1 1 (sq x) rfl rfl (World.news_of_block (heap_alloc_new W4 _)) (by intro u hu; exact svs_one [x] u (by simpa [svs] using hu)) (by omega) (by unfold maxLen; omega) (by omega) (by simp; omega) _ rfl ?_; intro g2 cap2 w5 hown5 hgrow hat hgl)
              refine ⟨⟨J + 1, [] ++ [x], by omega, by first | rfl | go_num, by simp; omega, HPA, own_sc (out := []) hown5 rfl, (bk4.alloc hsz4 _).grown hgrow (by simp; omega) (fun q hq => (own4.lt q hq).1), Lib.hid ((hs4.over ((Below.refl _ _).alloc (Nat.le_refl _) _)).grown hgrow HNE.out), Lib.hid (fun g o e k => ?_)⟩, by simp [intOf]; omega⟩
              have e2 : g2 = g := by simpa [Value.ownBlock] using k
              subst e2
              rcases hat with h | h
              · exact HNE.out _ _ e h
              · injection e with e
                injection e with e
                rw [h] at e
                simp at e
                omega
            · rw [List.concat_eq_append] at *
              obtain ⟨bk3, own3, _, hz3⟩ := HF.out _ (Below.refl _ _)
              obtain ⟨g, cap, hvv, hg1, hg2⟩ := own3.form (by simp)
              have hle : (p ++ [e]).length = p.length + 1 := by simp
              rw [hle] at hvv hout HF own3 HNE ⊢
              injection hvv with hv1 hv2 hv3
              subst hv1 hv3
              have HCL : Hid (∀ W, Below W3.heap.size W3 W → S4 W g (p.length * 4) e) := Lib.hid fun W hW => by
                have h1 := own_belowS own3 hW (Nat.le_refl _)
                have key : ∀ i u, i < 4 → (sq e)[i]? = some u → W.cell? ⟨g, p.length * 4 + i, none⟩ = some u := fun i u hi hu => by
                  have := h1.cells (g := g) rfl (p.length * 4 + i) u ((svs_get (p ++ [e]) p.length i e (by simp) hi).trans hu)
                  rwa [addr_add, Nat.zero_add] at this
                exact ⟨key 0 _ (by omega) rfl, key 1 _ (by omega) rfl, key 2 _ (by omega) rfl, key 3 _ (by omega) rfl⟩
              have HH : Hid (∀ w', Below W3.heap.size W3 w' → (w'.cell? ⟨g, p.length * 4, none⟩ = some (.int .i64 e.n) ∧ w'.cell? ⟨g, p.length * 4 + 1, none⟩ = some (.int .i64 e.lo) ∧ w'.cell? ⟨g, p.length * 4 + 2, none⟩ = some (.int .i64 e.hi) ∧ w'.cell? ⟨g, p.length * 4 + 3, none⟩ = some (.int .i64 e.to)) ∧ w'.cell? ⟨w2.heap.size, 0, none⟩ = some (.int .i64 x.n) ∧ w'.cell? ⟨w2.heap.size, 1, none⟩ = some (.int .i64 x.lo) ∧ w'.cell? ⟨w2.heap.size, 2, none⟩ = some (.int .i64 x.hi) ∧ w'.cell? ⟨w2.heap.size, 3, none⟩ = some (.int .i64 x.to)) := Lib.hid fun w' hw => by
                have q := HCL.out w' hw
                have r := HBX.out w' hw
                exact ⟨⟨q.c0, q.c1, q.c2, q.c3⟩, r.c0, r.c1, r.c2, r.c3⟩
              have KJ := Lib.hid (fun W => rjoins_any st e x W (HCN.out e (by simp)).nr HSN2.out.nr)
              unfold sv at KJ
              have hadd := addL_snoc (st := st) p e x
              have hP0 : (0 : Int) ≤ (p.length : Int) := by omega
              have hP1 : (p.length : Int) < (p.length : Int) + 1 := by omega
              have hPc : (p.length : Int) ≤ (cv : Int) := by omega
              have q0 : decide ((0 : Int) ≤ (p.length : Int)) = true := decide_eq_true hP0
              have q1 : (((p.length + 1 : Nat) : Int) - 1) = (p.length : Int) := by omega
              have q2 : IntKind.i64.wrap (p.length : Int) = (p.length : Int) := IntWalk.i64_in _ (by omega)
              have z0 : Below W3.heap.size W3 W3.drew := (Below.refl _ _).drew
              clear bk3 own3 HSN2 HCN
              cases hj : decide (jnS st e x) with
              | false =>
                rw [hj] at KJ
                rw [if_neg (of_decide_eq_false hj)] at hadd
                rw [hadd] at HPA
                have HJ := Lib.hid hj
                clear hj hadd
                go_wp2_with fail
                go_region_held (fun w' => (w'.cell? ⟨g, p.length * 4, none⟩ = some (.int .i64 e.n) ∧ w'.cell? ⟨g, p.length * 4 + 1, none⟩ = some (.int .i64 e.lo) ∧ w'.cell? ⟨g, p.length * 4 + 2, none⟩ = some (.int .i64 e.hi) ∧ w'.cell? ⟨g, p.length * 4 + 3, none⟩ = some (.int .i64 e.to)) ∧ w'.cell? ⟨w2.heap.size, 0, none⟩ = some (.int .i64 x.n) ∧ w'.cell? ⟨w2.heap.size, 1, none⟩ = some (.int .i64 x.lo) ∧ w'.cell? ⟨w2.heap.size, 2, none⟩ = some (.int .i64 x.hi) ∧ w'.cell? ⟨w2.heap.size, 3, none⟩ = some (.int .i64 x.to))
                  (first | with_reducible exact HH.out _ z8 | with_reducible exact HH.out _ z0)
                  ((go_at_call 33; with_reducible refine (KJ.out _).mono ?_; rintro e9 W4 ⟨rfl, y8⟩; have z8 := z0.trans (y8.mono z0.size)))
                all_goals
                  obtain ⟨bk4, own4, hs4, hz4⟩ := HF.out _ z8
                  obtain ⟨x0, x1, x2, x3⟩ := HBX.out _ z8
                  simp only [Nat.zero_add] at x1 x2 x3
                  have hsz4 := bk4.size
                  go_wp2_with (at_builtin; refine wpList_append_lies _ rfl _ _ _ rfl w.heap.size 24 i0 (.agg #[.int .i64 0, .int .i64 0, .int .i64 0, .int .i64 0]) 4 32 Try.underlying22 hi hz0 hz1 hz2 rfl (by omega) _ _ _ rfl (own4.alloc _) ⟨W4.heap.size, 0, none⟩ 1 1 (sq x) rfl rfl (World.news_of_block (heap_alloc_new W4 _)) (by intro u hu; exact svs_one [x] u (by simpa [svs] using hu)) (by omega) (by unfold maxLen; omega) (by omega) (by simp; omega) _ rfl ?_; intro g2 cap2 w5 hown5 hgrow hat hgl)
                  refine ⟨⟨J + 1, p ++ [e] ++ [x], by omega, by first | rfl | go_num, by simp; omega, HPA, own_sc (out := p ++ [e]) hown5 (by simp), (bk4.alloc hsz4 _).grown hgrow (by simp; omega) (fun q hq => (own4.lt q hq).1), Lib.hid ((hs4.over ((Below.refl _ _).alloc (Nat.le_refl _) _)).grown hgrow HNE.out), Lib.hid (fun g o e k => ?_)⟩, by simp [intOf]; omega⟩
                  have e2 : g2 = g := by simpa [Value.ownBlock] using k
                  subst e2
                  rcases hat with h | h
                  · exact HNE.out _ _ e h
                  · injection e with e
                    injection e with e
                    rw [h] at e
                    simp at e
                    omega
              | true =>
                rw [hj] at KJ
                rw [if_pos (of_decide_eq_true hj)] at hadd
                rw [hadd] at HPA
                have HJ := Lib.hid hj
                clear hj hadd
                go_wp2_with fail
                go_region_held (fun w' => (w'.cell? ⟨g, p.length * 4, none⟩ = some (.int .i64 e.n) ∧ w'.cell? ⟨g, p.length * 4 + 1, none⟩ = some (.int .i64 e.lo) ∧ w'.cell? ⟨g, p.length * 4 + 2, none⟩ = some (.int .i64 e.hi) ∧ w'.cell? ⟨g, p.length * 4 + 3, none⟩ = some (.int .i64 e.to)) ∧ w'.cell? ⟨w2.heap.size, 0, none⟩ = some (.int .i64 x.n) ∧ w'.cell? ⟨w2.heap.size, 1, none⟩ = some (.int .i64 x.lo) ∧ w'.cell? ⟨w2.heap.size, 2, none⟩ = some (.int .i64 x.hi) ∧ w'.cell? ⟨w2.heap.size, 3, none⟩ = some (.int .i64 x.to))
                  (first | with_reducible exact HH.out _ z8 | with_reducible exact HH.out _ z0)
                  ((go_at_call 33; with_reducible refine (KJ.out _).mono ?_; rintro e9 W4 ⟨rfl, y8⟩; have z8 := z0.trans (y8.mono z0.size)))
                all_goals
                  obtain ⟨bk4, own4, hs4, hz4⟩ := HF.out _ z8
                  obtain ⟨⟨y0, y1, y2, y3⟩, x0, x1, x2, x3⟩ := HH.out _ z8
                  have hsz4 := bk4.size
                  obtain ⟨Y, hY⟩ : ∃ Y, W4.alloc (.cells #[.int .i64 e.n, .int .i64 e.lo, .int .i64 x.hi, .int .i64 e.to] 24) = Y := ⟨_, rfl⟩
                  have hbY : Below W4.heap.size W4 Y := by rw [← hY]; exact (Below.refl _ _).alloc (Nat.le_refl _) _
                  have hYS : Bs Y W4.heap.size { e with hi := x.hi } := by rw [← hY]; exact Bs.new W4 { e with hi := x.hi } 24
                  have hYz : W4.heap.size < Y.heap.size := by rw [← hY]; simp
                  have hPW : Ss W4 W4.heap.size (some ⟨g, 0, none⟩) p := by
                    obtain ⟨_, _, _, A', h1, h2⟩ := Ss.of_own own4
                    injection h1 with h1 _ _
                    subst h1
                    have := h2.take p.length
                    rwa [List.take_left' rfl] at this
                  have hPY : Ss (Y.alloc (.cells #[] 24)) W4.heap.size (some ⟨g, 0, none⟩) p := (hPW.below hbY).below ((Below.refl W4.heap.size Y).alloc (Nat.le_of_lt hYz) _)
                  go_wp2_with (at_builtin; first | (refine app_spans rfl _ _ _ rfl Y.heap.size 24 i0 Try.underlying22 hi hz0 hz1 hz2 _ [] rfl (own_emptyS Y Y.heap.size _ (Nat.le_refl _)) W4.heap.size (some ⟨g, 0, none⟩) cv p rfl hPY (fun e => by cases e) (by simp; omega) (by simp) ?_; intro v6 w6 hown6 hgrow6; have hb6 : Below Y.heap.size Y w6 := ((Below.refl _ _).alloc (Nat.le_refl _) _).grown hgrow6 (by simp) (fun q hq => ((own_emptyS Y Y.heap.size 24 (Nat.le_refl _)).lt q hq).1); rw [List.nil_append] at hown6; have hsz6 := hb6.size; obtain ⟨a0, a1, a2, a3⟩ := hYS.below hb6 hYz; simp only [Nat.zero_add] at a1 a2 a3) | (refine wpList_append_lies _ rfl _ _ _ rfl Y.heap.size 24 i0 (.agg #[.int .i64 0, .int .i64 0, .int .i64 0, .int .i64 0]) 4 32 Try.underlying22 hi hz0 hz1 hz2 rfl (by omega) _ _ _ rfl (hown6.alloc _) ⟨w6.heap.size, 0, none⟩ 1 1 (sq { e with hi := x.hi }) rfl rfl (World.news_of_block (heap_alloc_new w6 _)) (by intro u hu; exact svs_one [{ e with hi := x.hi }] u (by simpa [svs] using hu)) (by omega) (by unfold maxLen; omega) (by omega) (by simp; omega) _ rfl ?_; intro g7 cap7 w7 hown7 hgrow7 hat7 hgl7))
                  have b7 : Below W4.heap.size W4 w7 := hbY.trans (((hb6.alloc hsz6 _).grown hgrow7 (by simp; omega) (fun q hq => (hown6.lt q hq).1)).mono (Nat.le_of_lt hYz))
                  refine ⟨⟨J + 1, p ++ [{ e with hi := x.hi }], by omega, by first | rfl | go_num, by simp; omega, HPA, own_low (own_sc (out := p) hown7 rfl) (by omega), bk4.trans (b7.mono hsz4), Lib.hid (hs4.over b7), Lib.hid (fun g8 o8 e8 k8 => ?_)⟩, by simp [intOf]; omega⟩
                  have h8 := (hown7.lt g8 k8).1
                  injection e8 with e8
                  injection e8 with e8
                  omega
        · have u0 : decide ((J : Int) + 1 < (B : Int)) = false := decide_eq_false (by omega)
          have u1 : decide (J + 1 < B) = false := decide_eq_false hJ1
          have hd := HP.out.done HBO.out (by have := HBL.out; omega) (by have := HBL.out; omega)
          have HD : Hid (PN st l ((N + 1 : Nat) : Int) o2) := Lib.hid (by rwa [show ((N + 1 : Nat) : Int) = (N : Int) + 1 by omega])
          clear hd
          go_wp2
          refine ⟨⟨N + 1, o2, by omega, by omega, by first | rfl | go_num, by omega, HD, hown, hbel⟩, by simp [intOf]; omega⟩
    · have t0 : decide ((N : Int) ≤ 4) = false := decide_eq_false (by omega)
      have t1 : decide (N ≤ 4) = false := decide_eq_false hN
      obtain rfl : N = 5 := by omega
      obtain ⟨c', _, hc', A', hv, hst⟩ := Ss.of_own hown
      subst hv
      have hroom := own_room hown
      go_wp2
      go_ret
      exact ⟨out, HP.out.1, fun n v => HP.out.end n v, A', c', rfl, hc', hroom, hst, hbel⟩
set_option maxRecDepth 100000 in
set_option maxHeartbeats 4000000 in
theorem rPut_any (st : Bool) (l : List Sp) (s : Sp) (hl : l.length ≤ 60) (A : Option Addr) (c : Nat) (w : World) (hA : Ss w w.heap.size A l) (hn : A = none → c = 0) :
    Calls Try.prog 24 #[.slice A l.length c, sv s, .bool st] w (Bld w st (l ++ [s])) := by
  obtain ⟨i0, hi, hz0, hz1, hz2⟩ := info_parts infoS
  obtain ⟨W1, hW1⟩ : ∃ W1, w.alloc (.cells #[.int .i64 s.n, .int .i64 s.lo, .int .i64 s.hi, .int .i64 s.to] 24) = W1 := ⟨_, rfl⟩
  have hb1 : Below w.heap.size w W1 := by rw [← hW1]; exact (Below.refl _ _).alloc (Nat.le_refl _) _
  have hs1 : Bs W1 w.heap.size s := by rw [← hW1]; exact Bs.new w s 24
  have hy1 : w.heap.size < W1.heap.size := by rw [← hW1]; simp
  have hA1 : Ss (W1.alloc (.cells #[] 24)) W1.heap.size A l := (hA.over hb1).below ((Below.refl _ _).alloc (Nat.le_refl _) _)
  unfold sv
  go_enter Try.func24, Try.ntmps24
  go_wp2_with (first
    | (at_builtin; refine app_spans rfl _ _ _ rfl W1.heap.size 24 i0 Try.underlying22 hi hz0 hz1 hz2 _ [] rfl (own_emptyS W1 W1.heap.size _ (Nat.le_refl _)) W1.heap.size A c l rfl hA1 hn (by simp; omega) (by simp) ?_; intro v2 w2 hown2 hgrow2; have hb2 : Below W1.heap.size W1 w2 := ((Below.refl _ _).alloc (Nat.le_refl _) _).grown hgrow2 (by simp) (fun q hq => ((own_emptyS W1 W1.heap.size 24 (Nat.le_refl _)).lt q hq).1); rw [List.nil_append] at hown2; have hsz2 := hb2.size; obtain ⟨a0, a1, a2, a3⟩ := hs1.below hb2 hy1; simp only [Nat.zero_add] at a1 a2 a3)
    | (at_builtin; refine wpList_append_lies _ rfl _ _ _ rfl W1.heap.size 24 i0 (.agg #[.int .i64 0, .int .i64 0, .int .i64 0, .int .i64 0]) 4 32 Try.underlying22 hi hz0 hz1 hz2 rfl (by omega) _ _ _ rfl (hown2.alloc _) ⟨w2.heap.size, 0, none⟩ 1 1 (sq s) rfl rfl (World.news_of_block (heap_alloc_new w2 _)) (by intro u hu; exact svs_one [s] u (by simpa [svs] using hu)) (by omega) (by unfold maxLen; omega) (by omega) (by simp; omega) _ rfl ?_; intro g cap w3 hown3 hgrow hat hgl))
  have hb3 : Below W1.heap.size W1 w3 := (hb2.alloc hsz2 _).grown hgrow (by simp; omega) (fun q hq => (hown2.lt q hq).1)
  have hown4 := own_sc (out := l) hown3 rfl
  obtain ⟨c4, _, _, A4, hv, hst⟩ := Ss.of_own hown4
  have hlen : (l ++ [s]).length = l.length + 1 := by simp
  have KB := rBuild_any st A4 c4 (l ++ [s]) w3 hst (by simp; omega)
  rw [hlen] at hv KB
  injection hv with h1 h2 h3
  subst h1 h3
  have hbw := hb1.trans (hb3.mono hb1.size)
  refine KB.mono ?_
  rintro e w4 ⟨m, p1, p2, A5, c5, rfl, p3, p4, p5, p6⟩
  go_wp2
  go_ret
  exact ⟨m, p1, p2, A5, c5, rfl, p3, p4, p5, hbw.trans (p6.mono hbw.size)⟩
end Go.Proofs.Ytdlkgcbiekilhaa
