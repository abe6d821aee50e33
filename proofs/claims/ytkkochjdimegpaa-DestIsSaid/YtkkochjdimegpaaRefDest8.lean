/-
  The document's own Build (hornbookref08).
-/
import Derived.Test.YtkkochjdimegpaaRefDest6
import Derived.Test.YtkkochjdimegpaaRefDest7
import Derived.Test.YtkkochjdimegpaaDestBtb
import Derived.Test.YtkkochjdimegpaaDestBuild
import Derived.Test.YtkkochjdimegpaaDestApp
import Derived.Handy
namespace Go.Proofs.Ytkkochjdimegpaa
open Go.RowKit
attribute [local go_sem ↓] Go.wp_at_zero Go.wp_at_succ

theorem Si.grownD {w w' : World} {A : Option Addr} {l : List Int} {row : Option Nat} (h : Si w w.heap.size A l) (hg : w.grownBy w' row) (hne : ∀ g o, A = some ⟨g, o, none⟩ → row ≠ some g) : Si w' w'.heap.size A l := fun hn => by
  obtain ⟨b, o, e, hb, hc⟩ := h hn
  exact ⟨b, o, e, Nat.lt_of_lt_of_le hb hg.size, fun j hj => (World.grownBy.cell_far hg ⟨b, o + j, none⟩ hb (fun k => hne b o e k.symm)).trans (hc j hj)⟩
theorem Rd.front {w : World} {B : Nat} {A : Option Addr} {p q : List Me} (h : Rd w B A (p ++ q)) : Rd w B A p := fun hn => by
  obtain ⟨b, o, e, hb, hc⟩ := h (by rw [List.length_append]; omega)
  exact ⟨b, o, e, hb, fun j x hx => hc j x (by rw [List.getElem?_append_left (List.getElem?_eq_some_iff.1 hx).1]; exact hx)⟩
theorem pl_snoc (p : List Me) (e : Me) : pl (p ++ [e]) = pl p ++ [e.b] := by simp [pl]
theorem utl_snoc {w : World} {o : List Me} {x : Me} (h : Utl w o) (hx : Ut w x.a x.c x.b.u) : Utl w (o ++ [x]) := fun m hm => by
  rcases List.mem_append.1 hm with hm | hm
  · exact h m hm
  · rw [List.mem_singleton] at hm
    subst hm
    exact hx
set_option maxRecDepth 100000 in
set_option maxHeartbeats 8000000 in
theorem rDBuild_any (A : Option Addr) (c : Nat) (l : List Me) (w : World) (hA : Sd w A l) (hl : l.length ≤ 70) (hul : ∀ m ∈ l, m.b.u.length ≤ 9223372036854775807) :
    Calls Try.prog 25 #[.slice A l.length c] w (BuiltB w (pl l)) := by
  obtain ⟨i0, hi, hz0, hz1, hz2⟩ := info_parts infoB
  have K1 := Lib.hid (fun (n : Int) W (hW : Below w.heap.size w W) => rborders_any A c l n W (hA.over hW) (by omega) hul)
  have K2 := Lib.hid (fun (n v : Int) W (hW : Below w.heap.size w W) => rDLast_any A c l n v W (hA.over hW) (by omega) hul)
  obtain ⟨k0, hk0⟩ : ∃ k, k = l.length := ⟨_, rfl⟩
  rw [← hk0] at K1 K2 hl ⊢
  have HK := Lib.hid hk0
  clear hk0 hA hul
  go_enter Try.func25, Try.ntmps25
  go_wp2
  go_loopw [3, 4] (fun q i wr => ∃ (N : Nat) (out : List Me), 1 ≤ N ∧ N ≤ 5 ∧ i = .int .i64 (N : Int) ∧ out.length ≤ 200 * (N - 1) ∧ Hid (PN (pl l) (N : Int) (pl out)) ∧ Hid (Utl wr out) ∧ wr.ownsRow w.heap.size 25 4 q out.length (dvs out) ∧ Below w.heap.size w wr) (fun _ i _ => 5 - (intOf i).toNat)
  case atStart => exact ⟨1, [], by omega, by omega, rfl, by simp, Lib.hid PN.one, Lib.hid (fun _ h => by cases h), World.ownsRow_nil _ _ _ _, Below.refl _ _⟩
  case round =>
    obtain ⟨N, out, hN1, hN2, rfl, hout, HP, HU, hown, hbel⟩ := hrel
    have hsz := hbel.size
    by_cases hN : N ≤ 4
    · have t0 : decide ((N : Int) ≤ 4) = true := decide_eq_true (by omega)
      have t1 : decide (N ≤ 4) = true := decide_eq_true hN
      go_wp2_with fail
      refine (K1.out _ _ hbel).mono ?_
      rintro e w1 ⟨b, Ab, cb, hbo, hbl, rfl, hsb, hnw, hb1⟩
      have own1 := own_belowD hown hb1 (Nat.le_refl _)
      have bk1 := hbel.trans (hb1.mono hsz)
      have hsz1 := bk1.size
      have HSB := Lib.hid hsb
      have HU1 := Lib.hid (HU.out.ik (Ik.of_below hb1))
      have HNE : Hid (∀ g o, Ab = some ⟨g, o, none⟩ → u3.ownBlock ≠ some g) := Lib.hid fun g o e k => by
        have h1 := hnw g o e
        have h2 := (hown.lt g k).2
        omega
      have HBO := Lib.hid hbo
      have HPI := Lib.hid (HP.out.start hbo)
      obtain ⟨B, hB⟩ : ∃ B, B = b.length := ⟨_, rfl⟩
      have hB2 : B ≤ 140 := by rw [pl_length] at hbl; have := HK.out; omega
      have HBL := Lib.hid hB
      rw [← hB]
      clear hbo hbl hsb hnw hb1 hown hbel hsz hB HP HU
      go_wp2
      go_loopw [3, 6] (fun q2 i wq => ∃ (J : Nat) (o2 : List Me), (J < B ∨ J = 0) ∧ i = .int .i64 (J : Int) ∧ o2.length ≤ 200 * (N - 1) + J ∧ Hid (PI (pl l) (N : Int) b J (pl o2)) ∧ Hid (Utl wq o2) ∧ wq.ownsRow w.heap.size 25 4 q2 o2.length (dvs o2) ∧ Below w.heap.size w wq ∧ Hid (Si wq wq.heap.size Ab b) ∧ Hid (∀ g o, Ab = some ⟨g, o, none⟩ → q2.ownBlock ≠ some g)) (fun _ i _ => B - (intOf i).toNat)
      case atStart => exact ⟨0, out, .inr rfl, rfl, by omega, HPI, HU1, own1, bk1, HSB, HNE⟩
      case round =>
        clear own1 bk1 hsz1 HSB HNE HPI HU1 hout
        obtain ⟨J, o2, hJ, rfl, hout, HP, HU, hown, hbel, HS, HNE⟩ := hrel
        have hsz := hbel.size
        have w0 : IntKind.i64.wrap ((J : Int) + 1) = (J : Int) + 1 := IntWalk.i64_in _ (by omega)
        by_cases hJ1 : J + 1 < B
        · have u0 : decide ((J : Int) + 1 < (B : Int)) = true := decide_eq_true (by omega)
          have u1 : decide (J + 1 < B) = true := decide_eq_true hJ1
          have hj0 : (0 : Int) ≤ (J : Int) + 1 := by omega
          have hj2 : (J : Int) + 1 < (B : Int) := by omega
          have hj3 : (0 : Int) ≤ (J : Int) := by omega
          have hj4 : (J : Int) < (B : Int) := by omega
          obtain ⟨gb, ob, rfl, hgb, hcb⟩ := HS.out (by have := HBL.out; omega)
          have hy := List.getElem?_eq_getElem (l := b) (i := J) (by have := HBL.out; omega)
          have hz := List.getElem?_eq_getElem (l := b) (i := J + 1) (by have := HBL.out; omega)
          generalize b[J]'(by have := HBL.out; omega) = y at *
          generalize b[J + 1]'(by have := HBL.out; omega) = z at *
          have HY := Lib.hid hy
          have HZ := Lib.hid hz
          have HBC : Hid (∀ W, Below wr.heap.size wr W → W.cell? ⟨gb, ob + J, none⟩ = some (.int .i64 y) ∧ W.cell? ⟨gb, ob + (J + 1), none⟩ = some (.int .i64 z)) := Lib.hid fun W hW => by
            have h1 := hcb J (by have := HBL.out; omega)
            have h2 := hcb (J + 1) (by have := HBL.out; omega)
            rw [hy] at h1
            rw [hz] at h2
            exact ⟨(hW.cell (p := ⟨gb, ob + J, none⟩) hgb).trans h1, (hW.cell (p := ⟨gb, ob + (J + 1), none⟩) hgb).trans h2⟩
          obtain ⟨x0, x1⟩ := HBC.out _ (Below.refl _ _)
          clear hy hz hcb
          have KL := Lib.hid (K2.out (N : Int) y)
          cases hq : lastB (pl l) (N : Int) y with
          | none =>
            rw [hq] at KL
            unfold RetO at KL
            dsimp only at KL
            have HQ := Lib.hid hq
            clear hq
            go_wp2_with fail
            refine (KL.out _ hbel).mono ?_
            rintro e w2 ⟨rfl, hb2⟩
            have bk2 := hbel.trans (hb2.mono hsz)
            have own2 := own_belowD hown hb2 (Nat.le_refl _)
            clear x0 x1
            go_wp2
            refine ⟨⟨J + 1, o2, by omega, by first | rfl | go_num, by omega, Lib.hid (HP.out.skip HBO.out HY.out HZ.out HQ.out), Lib.hid (HU.out.ik (Ik.of_below hb2)), own2, bk2, Lib.hid (HS.out.over hb2), HNE⟩, by simp [intOf]; omega⟩
          | some t =>
            rw [hq] at KL
            unfold RetO at KL
            dsimp only at KL
            have HQ := Lib.hid hq
            clear hq
            go_wp2_with fail
            refine (KL.out _ hbel).mono ?_
            rintro e w2 ⟨⟨ta, tc, rfl, htu⟩, hb2⟩
            have HU2 := Lib.hid (HU.out.ik (Ik.of_below hb2))
            have HTU := Lib.hid htu
            have bk2 := hbel.trans (hb2.mono hsz)
            have own2 := own_belowD hown hb2 (Nat.le_refl _)
            have HH : Hid (∀ W, Below w2.heap.size w2 W → W.cell? ⟨gb, ob + J, none⟩ = some (.int .i64 y) ∧ W.cell? ⟨gb, ob + (J + 1), none⟩ = some (.int .i64 z)) := Lib.hid fun W hW => HBC.out _ (hb2.trans (hW.mono hb2.size))
            have HS2 := Lib.hid (HS.out.over hb2)
            have z0 : Below w2.heap.size w2 w2.drew := (Below.refl _ _).drew
            have hsn := HBO.out.sn HY.out HZ.out HQ.out
            have hzr : IntKind.i64.wrap (z - 1) = z - 1 := IntWalk.i64_in _ (by have := saneB_top hsn.2.1; simp only at this; omega)
            have HSN := Lib.hid hsn
            have hgb2 : gb < w2.heap.size := Nat.lt_of_lt_of_le hgb hb2.size
            clear x0 x1 hbel hsz hown HS hb2 hsn HBC KL HU htu
            have hsz2 := bk2.size
            obtain ⟨x0, x1⟩ := HH.out _ (Below.refl _ _)
            go_wp2_with fail
            go_region_held (fun W => W.cell? ⟨gb, ob + J, none⟩ = some (.int .i64 y) ∧ W.cell? ⟨gb, ob + (J + 1), none⟩ = some (.int .i64 z))
              (first | with_reducible exact HH.out _ z0 | exact HH.out _ (z0.alloc (by simp) _))
              (fail)
            obtain ⟨x, hx⟩ : ∃ x : Me, x = ⟨⟨(N : Int), y, z - 1, t⟩, ta, tc⟩ := ⟨_, rfl⟩
            obtain ⟨W3, hW3⟩ : ∃ W3, (w2.alloc (.cells #[.int .i64 (N : Int), .int .i64 y, .int .i64 (z - 1), .slice ta t.length tc] 25)).drew = W3 := ⟨_, rfl⟩
            have hbx : Fb W3 w2.heap.size x := by rw [← hW3, hx]; exact Fb.below (B := w2.heap.size + 1) (Fb.new w2 ⟨⟨(N : Int), y, z - 1, t⟩, ta, tc⟩ 25) (Below.refl _ _).drew (by omega)
            have hbW : Below w2.heap.size w2 W3 := by rw [← hW3]; exact ((Below.refl _ _).alloc (Nat.le_refl _) _).drew
            have hzW : w2.heap.size < W3.heap.size := by rw [← hW3]; simp
            rw [hW3]
            have HPA := Lib.hid (HP.out.add HBO.out HY.out HZ.out HQ.out)
            have HSN2 : Hid (Sb x.b) := Lib.hid (by rw [hx]; exact HSN.out)
            have HPA : Hid (PI (pl l) (N : Int) b (J + 1) (addE (pl o2) x.b)) := Lib.hid (by rw [hx]; exact HPA.out)
            have HXU : Hid (Ut W3 x.a x.c x.b.u) := Lib.hid (by rw [hx]; exact HTU.out.ik (Ik.of_below hbW))
            have HU3 : Hid (Utl W3 o2) := Lib.hid (HU2.out.ik (Ik.of_below hbW))
            have HCN : Hid (∀ s ∈ o2, Sb s.b) := Lib.hid fun s hs => HP.out.1.1 s.b (List.mem_map.2 ⟨s, hs, rfl⟩)
            have hgb2 : gb < w2.heap.size := hgb2
            have HBX : Hid (∀ W, Below W3.heap.size W3 W → Fb W w2.heap.size x) := Lib.hid fun W hW => hbx.below hW hzW
            have HF : Hid (∀ W, Below W3.heap.size W3 W → Below w.heap.size w W ∧ W.ownsRow w.heap.size 25 4 u3 o2.length (dvs o2) ∧ Si W W.heap.size (some ⟨gb, ob, none⟩) b ∧ w2.heap.size < W.heap.size) := Lib.hid fun W hW => by
              have k := hbW.trans (hW.mono hbW.size)
              exact ⟨bk2.trans (k.mono hsz2), own_belowD own2 k (Nat.le_refl _), HS2.out.over k, Nat.lt_of_lt_of_le hzW hW.size⟩
            obtain ⟨cv, _, hcv, Av, hv, _, _⟩ := Rd.of_own own2
            subst hv
            clear hW3 hbx hbW hzW hx x0 x1 HP HSN z0 hzr HH bk2 own2 HS2 HQ HY HZ HU2 HTU
            rcases List.eq_nil_or_concat o2 with rfl | ⟨p, e, rfl⟩
            · have hadd : addE (pl []) x.b = pl ([] ++ [x]) := rfl
              rw [hadd] at HPA
              go_wp2_with fail
              go_quiet (fail)
              obtain ⟨W4, hW4⟩ : ∃ W4, W3.drewN nq = W4 := ⟨_, rfl⟩
              have hb4 : Below W3.heap.size W3 W4 := by rw [← hW4]; exact below_drewN (Below.refl _ _) _
              rw [hW4]
              clear hW4
              obtain ⟨bk4, own4, hs4, hz4⟩ := HF.out _ hb4
              obtain ⟨x0, x1, x2, x3⟩ := HBX.out _ hb4
              simp only [Nat.zero_add] at x1 x2 x3
              have hsz4 := bk4.size
              go_wp2_with (at_builtin; refine wpList_append_lies _ rfl _ _ _ rfl w.heap.size 25 i0 (.agg #[.int .i64 0, .int .i64 0, .int .i64 0, .slice none 0 0]) 4 48 Try.underlying22 hi hz0 hz1 hz2 rfl (by omega) _ _ _ rfl (own4.alloc _) ⟨W4.heap.size, 0, none⟩ 1 1 (fq x) rfl rfl (World.news_of_block (heap_alloc_new W4 _)) (by intro u hu; exact dvs_one [x] u (by simpa [dvs] using hu)) (by omega) (by unfold maxLen; omega) (by omega) (by simp; omega) _ rfl ?_; intro g2 cap2 w5 hown5 hgrow hat hgl)
              refine ⟨⟨J + 1, [] ++ [x], by omega, by first | rfl | go_num, by simp; omega, HPA, Lib.hid ((utl_snoc HU3.out HXU.out).ik ((Ik.of_below (hb4.trans ((al_below W4 _).mono hb4.size))).trans (Ik.of_grown hgrow (fun g hg => own_tq (own4.alloc _) hg)))), own_fd (out := []) hown5 rfl, (bk4.alloc hsz4 _).grown hgrow (by simp; omega) (fun q hq => (own4.lt q hq).1), Lib.hid ((hs4.over ((Below.refl _ _).alloc (Nat.le_refl _) _)).grownD hgrow HNE.out), Lib.hid (fun g o e k => ?_)⟩, by simp [intOf]; omega⟩
              have e2 : g2 = g := by simpa [Value.ownBlock] using k
              subst e2
              rcases hat with h | h
              · exact HNE.out _ _ e h
              · injection e with e
                injection e with e
                rw [h] at e
                simp at e
                omega
            · rw [List.concat_eq_append] at *
              obtain ⟨bk3, own3, _, hz3⟩ := HF.out _ (Below.refl _ _)
              obtain ⟨g, cap, hvv, hg1, hg2⟩ := own3.form (by simp)
              have hle : (p ++ [e]).length = p.length + 1 := by simp
              rw [hle] at hvv hout HF own3 HNE ⊢
              injection hvv with hv1 hv2 hv3
              subst hv1 hv3
              have HCL : Hid (∀ W, Below W3.heap.size W3 W → F4 W g (p.length * 4) e) := Lib.hid fun W hW => by
                have h1 := own_belowD own3 hW (Nat.le_refl _)
                have key : ∀ i u, i < 4 → (fq e)[i]? = some u → W.cell? ⟨g, p.length * 4 + i, none⟩ = some u := fun i u hi hu => by
                  have := h1.cells (g := g) rfl (p.length * 4 + i) u ((dvs_get (p ++ [e]) p.length i e (by simp) hi).trans hu)
                  rwa [addr_add, Nat.zero_add] at this
                exact ⟨key 0 _ (by omega) rfl, key 1 _ (by omega) rfl, key 2 _ (by omega) rfl, key 3 _ (by omega) rfl⟩
              have HH : Hid (∀ w', Below W3.heap.size W3 w' → (w'.cell? ⟨g, p.length * 4, none⟩ = some (.int .i64 e.b.n) ∧ w'.cell? ⟨g, p.length * 4 + 1, none⟩ = some (.int .i64 e.b.lo) ∧ w'.cell? ⟨g, p.length * 4 + 2, none⟩ = some (.int .i64 e.b.hi) ∧ w'.cell? ⟨g, p.length * 4 + 3, none⟩ = some (.slice e.a e.b.u.length e.c)) ∧ w'.cell? ⟨w2.heap.size, 0, none⟩ = some (.int .i64 x.b.n) ∧ w'.cell? ⟨w2.heap.size, 1, none⟩ = some (.int .i64 x.b.lo) ∧ w'.cell? ⟨w2.heap.size, 2, none⟩ = some (.int .i64 x.b.hi) ∧ w'.cell? ⟨w2.heap.size, 3, none⟩ = some (.slice x.a x.b.u.length x.c)) := Lib.hid fun w' hw => by
                have q := HCL.out w' hw
                have r := HBX.out w' hw
                exact ⟨⟨q.c0, q.c1, q.c2, q.c3⟩, r.c0, r.c1, r.c2, r.c3⟩
              have KJ : Hid (∀ W, Below W3.heap.size W3 W → Calls Try.prog 40 #[fv e, fv x] W fun r w' => r = .returned (.bool (decide (jnB e.b x.b))) ∧ Below W.heap.size W w') := Lib.hid fun W hW => rDjoins_any e x W ((HU3.out e (by simp)).ik (Ik.of_below hW)).un (HXU.out.ik (Ik.of_below hW)).un (HCN.out e (by simp)) HSN2.out
              unfold fv at KJ
              have hadd := addE_snoc (pl p) e.b x.b
              rw [← pl_snoc] at hadd
              have hP0 : (0 : Int) ≤ (p.length : Int) := by omega
              have hP1 : (p.length : Int) < (p.length : Int) + 1 := by omega
              have hPc : (p.length : Int) ≤ (cv : Int) := by omega
              have q0 : decide ((0 : Int) ≤ (p.length : Int)) = true := decide_eq_true hP0
              have q1 : (((p.length + 1 : Nat) : Int) - 1) = (p.length : Int) := by omega
              have q2 : IntKind.i64.wrap (p.length : Int) = (p.length : Int) := IntWalk.i64_in _ (by omega)
              have z0 : Below W3.heap.size W3 W3.drew := (Below.refl _ _).drew
              clear bk3 own3 HSN2 HCN
              cases hj : decide (jnB e.b x.b) with
              | false =>
                rw [hj] at KJ
                rw [if_neg (of_decide_eq_false hj), ← pl_snoc] at hadd
                rw [hadd] at HPA
                have HJ := Lib.hid hj
                clear hj hadd
                go_wp2_with fail
                go_region_held (fun w' => (w'.cell? ⟨g, p.length * 4, none⟩ = some (.int .i64 e.b.n) ∧ w'.cell? ⟨g, p.length * 4 + 1, none⟩ = some (.int .i64 e.b.lo) ∧ w'.cell? ⟨g, p.length * 4 + 2, none⟩ = some (.int .i64 e.b.hi) ∧ w'.cell? ⟨g, p.length * 4 + 3, none⟩ = some (.slice e.a e.b.u.length e.c)) ∧ w'.cell? ⟨w2.heap.size, 0, none⟩ = some (.int .i64 x.b.n) ∧ w'.cell? ⟨w2.heap.size, 1, none⟩ = some (.int .i64 x.b.lo) ∧ w'.cell? ⟨w2.heap.size, 2, none⟩ = some (.int .i64 x.b.hi) ∧ w'.cell? ⟨w2.heap.size, 3, none⟩ = some (.slice x.a x.b.u.length x.c))
                  (first | with_reducible exact HH.out _ z8 | with_reducible exact HH.out _ z0)
                  ((go_at_call 40; with_reducible refine (KJ.out _ z0).mono ?_; rintro e9 W4 ⟨rfl, y8⟩; have z8 := z0.trans (y8.mono z0.size)))
                all_goals
                  obtain ⟨bk4, own4, hs4, hz4⟩ := HF.out _ z8
                  obtain ⟨x0, x1, x2, x3⟩ := HBX.out _ z8
                  simp only [Nat.zero_add] at x1 x2 x3
                  have hsz4 := bk4.size
                  go_wp2_with (at_builtin; refine wpList_append_lies _ rfl _ _ _ rfl w.heap.size 25 i0 (.agg #[.int .i64 0, .int .i64 0, .int .i64 0, .slice none 0 0]) 4 48 Try.underlying22 hi hz0 hz1 hz2 rfl (by omega) _ _ _ rfl (own4.alloc _) ⟨W4.heap.size, 0, none⟩ 1 1 (fq x) rfl rfl (World.news_of_block (heap_alloc_new W4 _)) (by intro u hu; exact dvs_one [x] u (by simpa [dvs] using hu)) (by omega) (by unfold maxLen; omega) (by omega) (by simp; omega) _ rfl ?_; intro g2 cap2 w5 hown5 hgrow hat hgl)
                  refine ⟨⟨J + 1, p ++ [e] ++ [x], by omega, by first | rfl | go_num, by simp; omega, HPA, Lib.hid ((utl_snoc HU3.out HXU.out).ik ((Ik.of_below (z8.trans ((al_below W4 _).mono z8.size))).trans (Ik.of_grown hgrow (fun g hg => own_tq (own4.alloc _) hg)))), own_fd (out := p ++ [e]) hown5 (by simp), (bk4.alloc hsz4 _).grown hgrow (by simp; omega) (fun q hq => (own4.lt q hq).1), Lib.hid ((hs4.over ((Below.refl _ _).alloc (Nat.le_refl _) _)).grownD hgrow HNE.out), Lib.hid (fun g o e k => ?_)⟩, by simp [intOf]; omega⟩
                  have e2 : g2 = g := by simpa [Value.ownBlock] using k
                  subst e2
                  rcases hat with h | h
                  · exact HNE.out _ _ e h
                  · injection e with e
                    injection e with e
                    rw [h] at e
                    simp at e
                    omega
              | true =>
                rw [hj] at KJ
                have hyb : pl p ++ [{ e.b with hi := x.b.hi }] = pl (p ++ [⟨{ e.b with hi := x.b.hi }, e.a, e.c⟩]) := (pl_snoc p ⟨{ e.b with hi := x.b.hi }, e.a, e.c⟩).symm
                rw [if_pos (of_decide_eq_true hj), hyb] at hadd
                rw [hadd] at HPA
                have HJ := Lib.hid hj
                clear hj hadd
                go_wp2_with fail
                go_region_held (fun w' => (w'.cell? ⟨g, p.length * 4, none⟩ = some (.int .i64 e.b.n) ∧ w'.cell? ⟨g, p.length * 4 + 1, none⟩ = some (.int .i64 e.b.lo) ∧ w'.cell? ⟨g, p.length * 4 + 2, none⟩ = some (.int .i64 e.b.hi) ∧ w'.cell? ⟨g, p.length * 4 + 3, none⟩ = some (.slice e.a e.b.u.length e.c)) ∧ w'.cell? ⟨w2.heap.size, 0, none⟩ = some (.int .i64 x.b.n) ∧ w'.cell? ⟨w2.heap.size, 1, none⟩ = some (.int .i64 x.b.lo) ∧ w'.cell? ⟨w2.heap.size, 2, none⟩ = some (.int .i64 x.b.hi) ∧ w'.cell? ⟨w2.heap.size, 3, none⟩ = some (.slice x.a x.b.u.length x.c))
                  (first | with_reducible exact HH.out _ z8 | with_reducible exact HH.out _ z0)
                  ((go_at_call 40; with_reducible refine (KJ.out _ z0).mono ?_; rintro e9 W4 ⟨rfl, y8⟩; have z8 := z0.trans (y8.mono z0.size)))
                all_goals
                  obtain ⟨bk4, own4, hs4, hz4⟩ := HF.out _ z8
                  obtain ⟨⟨y0, y1, y2, y3⟩, x0, x1, x2, x3⟩ := HH.out _ z8
                  have hsz4 := bk4.size
                  obtain ⟨Y, hY⟩ : ∃ Y, W4.alloc (.cells #[.int .i64 e.b.n, .int .i64 e.b.lo, .int .i64 x.b.hi, .slice e.a e.b.u.length e.c] 25) = Y := ⟨_, rfl⟩
                  have hbY : Below W4.heap.size W4 Y := by rw [← hY]; exact (Below.refl _ _).alloc (Nat.le_refl _) _
                  have hYS : Fb Y W4.heap.size (⟨{ e.b with hi := x.b.hi }, e.a, e.c⟩ : Me) := by rw [← hY]; exact Fb.new W4 (⟨{ e.b with hi := x.b.hi }, e.a, e.c⟩ : Me) 25
                  have hYz : W4.heap.size < Y.heap.size := by rw [← hY]; simp
                  have hPW : Rd W4 W4.heap.size (some ⟨g, 0, none⟩) p := by
                    obtain ⟨_, _, _, A', h1, _, h2⟩ := Rd.of_own own4
                    injection h1 with h1 _ _
                    subst h1
                    exact h2.front
                  have hPY : Rd (Y.alloc (.cells #[] 25)) W4.heap.size (some ⟨g, 0, none⟩) p := (hPW.below hbY).below ((Below.refl W4.heap.size Y).alloc (Nat.le_of_lt hYz) _)
                  go_wp2_with (at_builtin; first | (refine app_bfs rfl _ _ _ rfl Y.heap.size 25 i0 Try.underlying22 hi hz0 hz1 hz2 _ [] rfl (own_emptyF Y Y.heap.size _ (Nat.le_refl _)) W4.heap.size (some ⟨g, 0, none⟩) _ _ p rfl rfl hPY (fun e => by cases e) (by simp; omega) (by simp) ?_; intro v6 w6 hown6 hgrow6; have hb6 : Below Y.heap.size Y w6 := ((Below.refl _ _).alloc (Nat.le_refl _) _).grown hgrow6 (by simp) (fun q hq => ((own_emptyF Y Y.heap.size 25 (Nat.le_refl _)).lt q hq).1); rw [List.nil_append] at hown6; have hsz6 := hb6.size; obtain ⟨a0, a1, a2, a3⟩ := hYS.below hb6 hYz; simp only [Nat.zero_add] at a1 a2 a3) | (refine wpList_append_lies _ rfl _ _ _ rfl Y.heap.size 25 i0 (.agg #[.int .i64 0, .int .i64 0, .int .i64 0, .slice none 0 0]) 4 48 Try.underlying22 hi hz0 hz1 hz2 rfl (by omega) _ _ _ rfl (hown6.alloc _) ⟨w6.heap.size, 0, none⟩ 1 1 (fq (⟨{ e.b with hi := x.b.hi }, e.a, e.c⟩ : Me)) rfl rfl (World.news_of_block (heap_alloc_new w6 _)) (by intro u hu; exact dvs_one [(⟨{ e.b with hi := x.b.hi }, e.a, e.c⟩ : Me)] u (by simpa [dvs] using hu)) (by omega) (by unfold maxLen; omega) (by omega) (by simp; omega) _ rfl ?_; intro g7 cap7 w7 hown7 hgrow7 hat7 hgl7))
                  have b7 : Below W4.heap.size W4 w7 := hbY.trans (((hb6.alloc hsz6 _).grown hgrow7 (by simp; omega) (fun q hq => (hown6.lt q hq).1)).mono (Nat.le_of_lt hYz))
                  refine ⟨⟨J + 1, p ++ [(⟨{ e.b with hi := x.b.hi }, e.a, e.c⟩ : Me)], by omega, by first | rfl | go_num, by simp; omega, HPA, Lib.hid ((utl_snoc (x := (⟨{ e.b with hi := x.b.hi }, e.a, e.c⟩ : Me)) (fun m hm => HU3.out m (List.mem_append_left _ hm)) (HU3.out e (by simp))).ik (Ik.of_below (z8.trans (b7.mono z8.size)))), own_lowD (own_fd (out := p) hown7 rfl) (by omega), bk4.trans (b7.mono hsz4), Lib.hid (hs4.over b7), Lib.hid (fun g8 o8 e8 k8 => ?_)⟩, by simp [intOf]; omega⟩
                  have h8 := (hown7.lt g8 k8).1
                  injection e8 with e8
                  injection e8 with e8
                  omega
        · have u0 : decide ((J : Int) + 1 < (B : Int)) = false := decide_eq_false (by omega)
          have u1 : decide (J + 1 < B) = false := decide_eq_false hJ1
          have hd := HP.out.done HBO.out (by have := HBL.out; omega) (by have := HBL.out; omega)
          have HD : Hid (PN (pl l) ((N + 1 : Nat) : Int) (pl o2)) := Lib.hid (by rwa [show ((N + 1 : Nat) : Int) = (N : Int) + 1 by omega])
          clear hd
          go_wp2
          refine ⟨⟨N + 1, o2, by omega, by omega, by first | rfl | go_num, by omega, HD, HU, hown, hbel⟩, by simp [intOf]; omega⟩
    · have t0 : decide ((N : Int) ≤ 4) = false := decide_eq_false (by omega)
      have t1 : decide (N ≤ 4) = false := decide_eq_false hN
      obtain rfl : N = 5 := by omega
      obtain ⟨c', _, hc', A', hv, hroom, hst⟩ := Rd.of_own hown
      subst hv
      go_wp2
      go_ret
      exact ⟨out, A', c', rfl, hc', hroom, ⟨hst, HU.out.ul⟩, HU.out, HP.out.1, fun n v => HP.out.end n v, hbel⟩
end Go.Proofs.Ytkkochjdimegpaa
