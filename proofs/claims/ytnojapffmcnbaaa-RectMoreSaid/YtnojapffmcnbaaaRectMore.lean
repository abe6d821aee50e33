/-
  The walk of the statement RectMore.
-/
import Derived.Test.YtnojapffmcnbaaaRectApp
import Derived.Deep.RegionHeld
import Derived.Deep.DrawnRows
namespace Go.Proofs.Ytnojapffmcnbaaa
open Go.RowKit
attribute [local go_sem ↓] Go.wp_at_zero Go.wp_at_succ

theorem more_any {l m : List Rc} {r : Rc} (h : Cnn saneR hoC ltC (l ++ [r]) m) (hs : saneR r = true) : (m.any fun x => decide (x = r)) = !(m.any fun x => decide (x ≠ r) && hoC x r) := by
  have q := h.more hol hs
  cases e1 : (m.any fun x => decide (x = r)) with
  | true =>
    rw [List.any_eq_true] at e1
    obtain ⟨x, hx, e⟩ := e1
    have e := of_decide_eq_true e
    subst e
    have hno := q.1 hx
    have : (m.any fun y => decide (y ≠ x) && hoC y x) = false := by
      rw [List.any_eq_false]
      intro y hy e
      rw [Bool.and_eq_true, decide_eq_true_eq] at e
      exact hno ⟨y, hy, e⟩
    rw [this]
    rfl
  | false =>
    rw [List.any_eq_false] at e1
    have hn : r ∉ m := fun hr => e1 r hr (decide_eq_true rfl)
    have hex : ∃ s ∈ m, s ≠ r ∧ hoC s r = true := Classical.byContradiction fun hne => hn (q.2 hne)
    obtain ⟨s, hs, hne, hh⟩ := hex
    have : (m.any fun y => decide (y ≠ r) && hoC y r) = true := List.any_eq_true.2 ⟨s, hs, by rw [decide_eq_true hne, hh]; rfl⟩
    rw [this]
    rfl
set_option maxRecDepth 100000 in
set_option maxHeartbeats 1000000 in
theorem more_long (A : Option Addr) (c : Nat) (l : List Rc) (r : Rc) (w : World) (h : 60 < l.length) :
    Calls Try.prog 9 #[.slice A l.length c, .agg #[.int .i64 r.n, .int .i64 r.lo, .int .i64 r.hi]] w fun e w' => e = .returned (.bool true) ∧ Below w.heap.size w w' := by
  have t0 : decide ((60 : Int) < (l.length : Int)) = true := decide_eq_true (by omega)
  go_enter Try.func9, Try.ntmps9
  go_wp2_with fail
  refine (awake_any _).mono ?_
  rintro e w1 ⟨rfl, hb1⟩
  go_wp2
  go_ret
  exact ⟨rfl, below_step (Below.refl _ _) (Nat.le_refl _) hb1⟩
set_option maxRecDepth 100000 in
set_option maxHeartbeats 4000000 in
theorem more_short (A : Option Addr) (c : Nat) (l : List Rc) (r : Rc) (w : World) (hA : Sr w w.heap.size A l) (hnil : A = none → c = 0) (h : l.length ≤ 60) :
    Calls Try.prog 9 #[.slice A l.length c, .agg #[.int .i64 r.n, .int .i64 r.lo, .int .i64 r.hi]] w fun e w' => e = .returned (.bool true) ∧ Below w.heap.size w w' := by
  obtain ⟨i0, hi, hz0, hz1, hz2⟩ := info_parts infoR
  have t0 : decide ((60 : Int) < (l.length : Int)) = false := decide_eq_false (by omega)
  have HA := Lib.hid hA
  clear hA
  go_enter Try.func9, Try.ntmps9
  go_wp2_with fail
  refine (awake_any _).mono ?_
  rintro e w1 ⟨rfl, hb1⟩
  have x1 : Bx w1 w.heap.size r := (Bx.new w r _).below hb1 (by simp)
  have z1 : w.heap.size < w1.heap.size := size_step hb1
  have b1 : Below w.heap.size w w1 := below_step (Below.refl _ _) (Nat.le_refl _) hb1
  clear hb1
  have hA1 : Sr (w1.alloc (.cells #[] 23)) w1.heap.size A l := (HA.out.over b1).below ((Below.refl _ _).alloc (Nat.le_refl _) _)
  go_wp2_with (first
    | (at_builtin; refine app_rects rfl _ _ _ rfl w1.heap.size 23 i0 Try.underlying36 hi hz0 hz1 hz2 _ [] rfl (own_emptyR w1 w1.heap.size _ (Nat.le_refl _)) w1.heap.size A c l rfl hA1 hnil (by simp; omega) (by simp) ?_; intro v2 w2 hown2 hgrow2; have hb2 : Below w1.heap.size w1 w2 := ((Below.refl _ _).alloc (Nat.le_refl _) _).grown hgrow2 (by simp) (fun q hq => ((own_emptyR w1 w1.heap.size 23 (Nat.le_refl _)).lt q hq).1); have x2 := x1.below hb2 z1; rw [List.nil_append] at hown2; obtain ⟨c', _, hc', A', hv, hst⟩ := Sr.of_own hown2; subst hv; obtain ⟨y0, y1, y2⟩ := id x2)
    | (at_builtin; refine wpList_append_lies _ rfl _ _ _ rfl w1.heap.size 23 i0 (.agg #[.int .i64 0, .int .i64 0, .int .i64 0]) 3 24 Try.underlying36 hi hz0 hz1 hz2 rfl (by omega) _ _ _ rfl (hown2.alloc _) ⟨w2.heap.size, 0, none⟩ 1 1 (rq r) rfl rfl (World.news_of_block (heap_alloc_new w2 _)) (by intro u hu; exact rvs_one [r] u (by simpa [rvs] using hu)) (by omega) (by unfold maxLen; omega) (by omega) (by have := hb2.size; simp; omega) _ rfl ?_; intro g cap w3 hown3 hgrow3 hat hgl; have hb3 : Below w1.heap.size w1 w3 := (hb2.alloc hb2.size _).grown hgrow3 (by have := hb2.size; simp; omega) (fun q hq => (hown2.lt q hq).1)))
  have hown4 := own_rc hown3 rfl
  have x3 := x1.below hb3 z1
  have b3 := b1.trans (hb3.mono b1.size)
  have z3 : w.heap.size < w3.heap.size := Nat.lt_of_lt_of_le z1 hb3.size
  obtain ⟨c4, _, hc4, A4, hv, hst4⟩ := Sr.of_own hown4
  have hlen : (l ++ [r]).length = l.length + 1 := by simp
  rw [hlen] at hv hc4
  rw [hv]
  have hcan := Canon_any A4 c4 (l ++ [r]) w3 hst4 (by simp; omega)
  rw [hlen] at hcan
  have HCA := Lib.hid hcan
  have HAL : Hid (Sr w3 w3.heap.size A l) := Lib.hid ((HA.out.over b1).over hb3)
  clear hcan hv hst4 hst hown4 hown3 hown2 hgrow2 hgrow3 hat hgl y0 y1 y2 x2 hb2 x1 z1 b1 hb3 hA1 HA hlen
  go_wp2_with fail
  refine HCA.out.mono ?_
  rintro e w4 ⟨m, hcn, hml, A5, c5, rfl, hc5, hsr, hb4⟩
  have b4 := b3.trans (hb4.mono b3.size)
  have HX : Hid (Bx w4 w.heap.size r) := Lib.hid (x3.below hb4 z3)
  have hCz : w.heap.size < w4.heap.size := Nat.lt_of_lt_of_le z3 hb4.size
  have HL : Hid (Sr w4 w4.heap.size A l) := Lib.hid (HAL.out.over hb4)
  have HM := Lib.hid hsr
  have HCN := Lib.hid hcn
  obtain ⟨k2, hk2⟩ : ∃ k2, k2 = m.length := ⟨_, rfl⟩
  have HK2 := Lib.hid hk2
  rw [← hk2] at hml hc5 ⊢
  have hml' : k2 ≤ 61 := by simp at hml; omega
  obtain ⟨C, hC⟩ : ∃ C, C = w.heap.size := ⟨_, rfl⟩
  rw [← hC] at HX hCz ⊢
  have HCC := Lib.hid hC
  clear hC hk2 hml hsr hcn x3 z3 b3 hb4 HAL HCA
  obtain ⟨fe, hfe⟩ : ∃ fe : Rc → Bool, fe = fun x => decide (x = r) := ⟨_, rfl⟩
  obtain ⟨fh, hfh⟩ : ∃ fh : Rc → Bool, fh = fun x => decide (x ≠ r) && hoC x r := ⟨_, rfl⟩
  have HFE := Lib.hid hfe
  have HFH := Lib.hid hfh
  clear hfe hfh
  go_wp2
  go_loopw [8, 9, 10] (fun a b i wr => ∃ k : Nat, k ≤ k2 ∧ a = .bool ((m.take k).any fe) ∧ b = .bool ((m.take k).any fh) ∧ i = .int .i64 (k : Int) ∧ Below w4.heap.size w4 wr) (fun _ _ i _ => k2 - (intOf i).toNat)
  case atStart => exact ⟨0, Nat.zero_le _, rfl, rfl, rfl, Below.refl _ _⟩
  case round =>
    obtain ⟨k, hk, rfl, rfl, rfl, hbel⟩ := hrel
    by_cases hlt : k < k2
    · have t1 : decide (k < k2) = true := decide_eq_true hlt
      obtain ⟨x, hx⟩ : ∃ x, m[k]? = some x := ⟨_, List.getElem?_eq_getElem (by have := HK2.out; omega)⟩
      have hs1 : (m.take (k + 1)).any fe = ((m.take k).any fe || fe x) := by rw [List.take_add_one, hx, List.any_append]; simp
      have hs2 : (m.take (k + 1)).any fh = ((m.take k).any fh || fh x) := by rw [List.take_add_one, hx, List.any_append]; simp
      obtain ⟨b, o, rfl, hbb, hR3⟩ := (HM.out.below hbel).at hx
      have hbz : b < wr.heap.size := Nat.lt_of_lt_of_le hbb hbel.size
      have hCr : C < wr.heap.size := Nat.lt_of_lt_of_le hCz hbel.size
      have hX := HX.out.below hbel hCz
      obtain ⟨y0, y1, y2⟩ := id hR3
      obtain ⟨y3, y4, y5⟩ := id hX
      by_cases hxr : x = r
      · subst hxr
        have e1 : fe x = true := by rw [HFE.out]; exact decide_eq_true rfl
        have e2 : fh x = false := by rw [HFH.out]; simp
        rw [e1] at hs1
        rw [e2, Bool.or_false] at hs2
        rw [Bool.or_true] at hs1
        have HS1 := Lib.hid hs1
        have HS2 := Lib.hid hs2
        have he := run_eq_rc x x
        have hn := run_ne_rc x x
        rw [decide_eq_true rfl] at he hn
        rw [Bool.not_true] at hn
        clear hs1 hs2 e1 e2 hx hR3 hX
        generalize (m.take k).any fe = q1 at *
        generalize (m.take k).any fh = q2 at *
        cases q1
        all_goals cases q2
        all_goals
          go_wp2_with fail
          go_quiet (fail)
          go_wp2_with fail
          go_quiet (fail)
          go_wp2
          refine ⟨⟨k + 1, by omega, by rw [HS1.out], by rw [HS2.out], by go_num, below_drewN hbel _⟩, by simp [intOf]; omega⟩
      · have e1 : fe x = false := by rw [HFE.out]; exact decide_eq_false hxr
        have e2 : fh x = hoC x r := by rw [HFH.out]; simp [hxr]
        rw [e1, Bool.or_false] at hs1
        rw [e2] at hs2
        have HS1 := Lib.hid hs1
        have HS2 := Lib.hid hs2
        have he := run_eq_rc x r
        have hn := run_ne_rc x r
        rw [decide_eq_false hxr] at he hn
        rw [Bool.not_false] at hn
        have k3 := Holds_any x r
        clear hs1 hs2 e1 e2 hx hxr
        generalize (m.take k).any fe = q1 at *
        generalize hoC x r = qh at *
        cases hq2 : (m.take k).any fh with
        | true =>
          rw [hq2] at HS2
          clear hq2 hR3 hX k3
          cases q1
          all_goals
            go_wp2_with fail
            go_quiet (fail)
            go_wp2_with fail
            go_quiet (fail)
            go_wp2
            refine ⟨⟨k + 1, by omega, by rw [HS1.out], by rw [HS2.out]; rfl, by go_num, below_drewN hbel _⟩, by simp [intOf]; omega⟩
        | false =>
          rw [hq2] at HS2
          have K3 := Lib.hid k3
          have hSS : ∀ w', Below wr.heap.size wr w' → w'.cell? ⟨b, o + k * 3, none⟩ = some (.int .i64 x.n) ∧ w'.cell? ⟨b, o + k * 3 + 1, none⟩ = some (.int .i64 x.lo) ∧ w'.cell? ⟨b, o + k * 3 + 2, none⟩ = some (.int .i64 x.hi) ∧ w'.cell? ⟨C, 0, none⟩ = some (.int .i64 r.n) ∧ w'.cell? ⟨C, 1, none⟩ = some (.int .i64 r.lo) ∧ w'.cell? ⟨C, 2, none⟩ = some (.int .i64 r.hi) := fun w' hw => by
            have g1 := hR3.keep (w' := w') fun t => hw.cell (p := ⟨b, t, none⟩) hbz
            have g2 := hX.below hw hCr
            exact ⟨g1.c0, g1.c1, g1.c2, g2.c0, g2.c1, g2.c2⟩
          have HH := Lib.hid hSS
          clear hSS hR3 hX k3 hq2
          cases q1
          all_goals
            go_wp2_with fail
            go_quiet (fail)
            go_wp2_with fail
            have z0 : Below wr.heap.size wr ((wr.drewN nq).drew) := (below_drewN (Below.refl _ _) _).drew
            clear y0 y1 y2 y3 y4 y5
            go_region_held (fun w' => w'.cell? ⟨b, o + k * 3, none⟩ = some (.int .i64 x.n) ∧ w'.cell? ⟨b, o + k * 3 + 1, none⟩ = some (.int .i64 x.lo) ∧ w'.cell? ⟨b, o + k * 3 + 2, none⟩ = some (.int .i64 x.hi) ∧ w'.cell? ⟨C, 0, none⟩ = some (.int .i64 r.n) ∧ w'.cell? ⟨C, 1, none⟩ = some (.int .i64 r.lo) ∧ w'.cell? ⟨C, 2, none⟩ = some (.int .i64 r.hi))
              (first | with_reducible exact HH.out _ z8 | with_reducible exact HH.out _ z0)
              ((go_at_call 21; with_reducible refine (K3.out _).mono ?_; rintro e u2 ⟨rfl, y8⟩; have z8 := z0.trans (y8.mono z0.size)))
            all_goals
              go_wp2
              refine ⟨⟨k + 1, by omega, by rw [HS1.out], by rw [HS2.out]; rfl, by go_num, hbel.trans (z8.mono hbel.size)⟩, by simp [intOf]; omega⟩
    · have t1 : decide (k < k2) = false := decide_eq_false hlt
      rw [List.take_of_length_le (by have := HK2.out; omega)]
      have ks := rcSane_any r
      obtain ⟨y0, y1, y2⟩ := HX.out.below hbel hCz
      have hCr : C < wr.heap.size := Nat.lt_of_lt_of_le hCz hbel.size
      cases hsr : saneR r with
      | true =>
        have hma := more_any HCN.out hsr
        rw [← HFE.out, ← HFH.out] at hma
        rw [hma]
        rw [hsr] at ks
        have KS := Lib.hid ks
        clear ks hma hsr
        generalize m.any fh = qq at *
        cases qq
        all_goals
          go_wp2_with fail
          refine (KS.out _).mono ?_
          rintro e w5 ⟨rfl, hb5⟩
          have x5 := (HX.out.below hbel hCz).below hb5 hCr
          have b5 := hbel.trans (hb5.mono hbel.size)
          have z5 := Nat.lt_of_lt_of_le hCr hb5.size
          clear y0 y1 y2 hb5
          obtain ⟨y0, y1, y2⟩ := id x5
          go_wp2_with fail
          refine (KS.out _).mono ?_
          rintro e w6 ⟨rfl, hb6⟩
          have x6 := x5.below hb6 z5
          have b6 := b5.trans (hb6.mono b5.size)
          clear y0 y1 y2 hb6 x5
          obtain ⟨y0, y1, y2⟩ := id x6
          go_wp2_with fail
          refine (KS.out _).mono ?_
          rintro e w7 ⟨rfl, hb7⟩
          have b7 := b6.trans (hb7.mono b6.size)
          clear y0 y1 y2
          go_wp2
          go_ret
          exact ⟨rfl, b4.trans (b7.mono b4.size)⟩
      | false =>
        obtain ⟨hcl, hrn⟩ := HCN.out.skip hol hsr
        have hma : m.any fe = false := by
          rw [HFE.out, List.any_eq_false]
          intro y hy e
          have e := of_decide_eq_true e
          subst e
          exact hrn hy
        rw [hma]
        rw [hsr] at ks
        have KS := Lib.hid ks
        have HCL := Lib.hid hcl
        clear ks hma hsr hcl hrn
        generalize m.any fh = qq at *
        go_wp2_with fail
        refine (KS.out _).mono ?_
        rintro e w5 ⟨rfl, hb5⟩
        have x5 := (HX.out.below hbel hCz).below hb5 hCr
        have b5 := hbel.trans (hb5.mono hbel.size)
        have z5 := Nat.lt_of_lt_of_le hCr hb5.size
        clear y0 y1 y2 hb5
        obtain ⟨y0, y1, y2⟩ := id x5
        go_wp2_with fail
        refine (KS.out _).mono ?_
        rintro e w6 ⟨rfl, hb6⟩
        have x6 := x5.below hb6 z5
        have b6 := b5.trans (hb6.mono b5.size)
        clear y0 y1 y2 hb6 x5
        obtain ⟨y0, y1, y2⟩ := id x6
        go_wp2_with fail
        refine (KS.out _).mono ?_
        rintro e w7 ⟨rfl, hb7⟩
        have b7 := b6.trans (hb7.mono b6.size)
        have HC2 := Lib.hid (Canon_any A c l w7 (HL.out.over b7) (by omega))
        clear y0 y1 y2 hb7
        go_wp2_with fail
        refine HC2.out.mono ?_
        rintro e w8 ⟨m2, hcn2, _, A6, c6, rfl, _, hsr2, hb8⟩
        have em : m2 = m := hcn2.unique hol HCL.out
        subst em
        have hsm := rSame_yes (c1 := c5) (c2 := c6) ((HM.out.over b7).over hb8) hsr2 (by have := HK2.out; omega)
        rw [← HK2.out] at hsm ⊢
        have HSM := Lib.hid hsm
        have b8 := b7.trans (hb8.mono b7.size)
        clear hsm hsr2 hcn2 hb8
        go_wp2_with fail
        refine HSM.out.mono ?_
        rintro e w9 ⟨rfl, hb9⟩
        have b9 := b8.trans (hb9.mono b8.size)
        go_wp2
        go_ret
        exact ⟨rfl, b4.trans (b9.mono b4.size)⟩
theorem more_walk (A : Option Addr) (c : Nat) (l : List Rc) (r : Rc) (w : World) (hA : Sr w w.heap.size A l) (hnil : A = none → c = 0) :
    Calls Try.prog 9 #[.slice A l.length c, .agg #[.int .i64 r.n, .int .i64 r.lo, .int .i64 r.hi]] w fun e w' => e = .returned (.bool true) ∧ Below w.heap.size w w' := by
  rcases Nat.lt_or_ge 60 l.length with h | h
  · exact more_long A c l r w h
  · exact more_short A c l r w hA hnil h
end Go.Proofs.Ytnojapffmcnbaaa
