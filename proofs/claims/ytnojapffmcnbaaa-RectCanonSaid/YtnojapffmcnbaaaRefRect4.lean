/-
  The document's own less and insert.
-/
import Derived.Test.YtnojapffmcnbaaaRefRect3
import Derived.Deep.DrawnRows
import Derived.Deep.AppendLies
namespace Go.Proofs.Ytnojapffmcnbaaa
open Go.RowKit
attribute [local go_sem ↓] Go.wp_at_zero Go.wp_at_succ

set_option maxHeartbeats 1000000 in
theorem rless_any (a b : Rc) (w : World) :
    Calls Try.prog 49 #[.agg #[.int .i64 a.n, .int .i64 a.lo, .int .i64 a.hi], .agg #[.int .i64 b.n, .int .i64 b.lo, .int .i64 b.hi]] w fun e w' => e = .returned (.bool (ltC a b)) ∧ Below w.heap.size w w' := by
  by_cases h1 : a.n = b.n
  · have t1 : (a.n != b.n) = false := by simp [h1]
    by_cases h2 : a.lo = b.lo
    · have t2 : (a.lo != b.lo) = false := by simp [h2]
      have e : ltC a b = decide (a.hi < b.hi) := by unfold ltC; exact decide_eq_decide.2 (by omega)
      have HE := Lib.hid e
      clear e h1 h2
      go_enter Try.func49, Try.ntmps49
      go_wp2
      go_ret
      refine ⟨?_, ((Below.refl _ _).alloc (Nat.le_refl _) _).alloc (by simp) _⟩
      rw [HE.out]
      rfl
    · have t2 : (a.lo != b.lo) = true := by simpa using h2
      have e : ltC a b = decide (a.lo < b.lo) := by unfold ltC; exact decide_eq_decide.2 (by omega)
      have HE := Lib.hid e
      clear e h1 h2
      go_enter Try.func49, Try.ntmps49
      go_wp2
      go_ret
      refine ⟨?_, ((Below.refl _ _).alloc (Nat.le_refl _) _).alloc (by simp) _⟩
      rw [HE.out]
      rfl
  · have t1 : (a.n != b.n) = true := by simpa using h1
    have e : ltC a b = decide (a.n < b.n) := by unfold ltC; exact decide_eq_decide.2 (by omega)
    have HE := Lib.hid e
    clear e h1
    go_enter Try.func49, Try.ntmps49
    go_wp2
    go_ret
    refine ⟨?_, ((Below.refl _ _).alloc (Nat.le_refl _) _).alloc (by simp) _⟩
    rw [HE.out]
    rfl
set_option maxRecDepth 100000 in
set_option maxHeartbeats 2000000 in
theorem rinsert_any (A : Option Addr) (c : Nat) (l : List Rc) (r : Rc) (w : World) (hA : Sr w w.heap.size A l) (hl : l.length ≤ 1000) :
    Calls Try.prog 41 #[.slice A l.length c, .agg #[.int .i64 r.n, .int .i64 r.lo, .int .i64 r.hi]] w (RetR w (insL ltC r l)) := by
  obtain ⟨i0, hi, hz0, hz1, hz2⟩ := info_parts infoR
  have HA := Lib.hid hA
  clear hA
  obtain ⟨n, hn⟩ : ∃ n, n = l.length := ⟨_, rfl⟩
  have HN := Lib.hid hn
  rw [← hn] at hl ⊢
  clear hn
  go_enter Try.func41, Try.ntmps41
  go_wp2
  have x0 : Bx (w.alloc (.cells #[.int .i64 r.n, .int .i64 r.lo, .int .i64 r.hi] 23)) w.heap.size r := Bx.new w r _
  have b0 : Below w.heap.size w (w.alloc (.cells #[.int .i64 r.n, .int .i64 r.lo, .int .i64 r.hi] 23)) := (Below.refl _ _).alloc (Nat.le_refl _) _
  have z0' : w.heap.size < (w.alloc (.cells #[.int .i64 r.n, .int .i64 r.lo, .int .i64 r.hi] 23)).heap.size := by simp
  generalize w.alloc (.cells #[.int .i64 r.n, .int .i64 r.lo, .int .i64 r.hi] 23) = w1 at *
  have HX0 := Lib.hid x0
  have HA1 : Hid (Sr w1 w1.heap.size A l) := Lib.hid (HA.out.over b0)
  clear x0 HA
  go_loopw [5, 6, 7] (fun v dn i wr => ∃ (k : Nat) (out : List Rc) (d : Bool), k ≤ n ∧ out.length ≤ k + 1 ∧ (d = false → out.length ≤ k) ∧ dn = .bool d ∧ i = .int .i64 (k : Int) ∧ Hid (out ++ (if d = true then l.drop k else insL ltC r (l.drop k)) = insL ltC r l) ∧ wr.ownsRow w1.heap.size 23 3 v out.length (rvs out) ∧ Below w1.heap.size w1 wr) (fun _ _ i _ => n - (intOf i).toNat)
  case atStart => exact ⟨0, [], false, Nat.zero_le _, by simp, fun _ => Nat.le_refl _, rfl, rfl, Lib.hid (by simp), World.ownsRow_nil _ _ _ _, Below.refl _ _⟩
  case round =>
    obtain ⟨k, out, d, hk, hout, hoF, rfl, rfl, HE, hown, hbel⟩ := hrel
    have HOF := Lib.hid hoF
    clear hoF
    have hsz := hbel.size
    by_cases hlt : k < n
    · have t0 : decide (k < n) = true := decide_eq_true hlt
      obtain ⟨x, hx⟩ : ∃ x, l[k]? = some x := ⟨_, List.getElem?_eq_getElem (by have := HN.out; omega)⟩
      have hdr := drop_cons hx
      have HDR := Lib.hid hdr
      obtain ⟨b, o, rfl, hbb, hR3⟩ := (HA1.out.below hbel).at hx
      have hbz : b < wr.heap.size := Nat.lt_of_lt_of_le hbb hsz
      have hX := HX0.out.below hbel z0'
      have HR1 : Hid (R3 w1 b (o + k * 3) x) := Lib.hid (hR3.keep fun i => (hbel.cell (p := ⟨b, i, none⟩) hbb).symm)
      have hXz : w.heap.size < wr.heap.size := Nat.lt_of_lt_of_le z0' hsz
      obtain ⟨c', _, hc', A', hv, hst⟩ := Sr.of_own hown
      subst hv
      clear hst hx hdr
      cases d with
      | true =>
        have HE2 : Hid (out ++ [x] ++ l.drop (k + 1) = insL ltC r l) := Lib.hid (by have := HE.out; rw [if_pos rfl, HDR.out] at this; rw [← this]; simp)
        obtain ⟨y0, y1, y2⟩ := id hR3
        go_wp2_with fail
        go_quiet (fail)
        have hownD : (wr.drewN nq).ownsRow w1.heap.size 23 3 (.slice A' out.length c') out.length (rvs out) := hown
        have hbelD : Below w1.heap.size w1 (wr.drewN nq) := below_drewN hbel _
        have hszD := hbelD.size
        obtain ⟨y3, y4, y5⟩ : R3 (wr.drewN nq) b (o + k * 3) x := ⟨y0, y1, y2⟩
        clear y0 y1 y2 hown hbel hsz
        generalize wr.drewN nq = wD at *
        go_wp2_with (at_builtin; refine wpList_append_lies _ rfl _ _ _ rfl w1.heap.size 23 i0 (.agg #[.int .i64 0, .int .i64 0, .int .i64 0]) 3 24 Try.underlying36 hi hz0 hz1 hz2 rfl (by omega) _ _ _ rfl (hownD.alloc _) ⟨wD.heap.size, 0, none⟩ 1 1 (rq x) rfl rfl (World.news_of_block (heap_alloc_new wD _)) (by intro u hu; exact rvs_one [x] u (by simpa [rvs] using hu)) (by omega) (by unfold maxLen; omega) (by omega) (by simp; omega) _ rfl ?_; intro g cap w3 hown3 hgrow hat hgl)
        refine ⟨⟨k + 1, out ++ [x], true, by omega, by simp; omega, (fun h => by cases h), rfl, by go_num, Lib.hid (by rw [if_pos rfl]; exact HE2.out), own_rc hown3 rfl, ?_⟩, by simp [intOf]; omega⟩
        exact (hbelD.alloc hszD _).grown hgrow (by simp; omega) (fun q hq => (hownD.lt q hq).1)
      | false =>
        have hE := HE.out
        rw [if_neg (by decide), HDR.out, insL] at hE
        have hSS : ∀ w', Below wr.heap.size wr w' → w'.cell? ⟨b, o + k * 3, none⟩ = some (.int .i64 x.n) ∧ w'.cell? ⟨b, o + k * 3 + 1, none⟩ = some (.int .i64 x.lo) ∧ w'.cell? ⟨b, o + k * 3 + 2, none⟩ = some (.int .i64 x.hi) ∧ w'.cell? ⟨w.heap.size, 0, none⟩ = some (.int .i64 r.n) ∧ w'.cell? ⟨w.heap.size, 1, none⟩ = some (.int .i64 r.lo) ∧ w'.cell? ⟨w.heap.size, 2, none⟩ = some (.int .i64 r.hi) := fun w' hw => by
          have g1 := hR3.keep (w' := w') fun t => hw.cell (p := ⟨b, t, none⟩) hbz
          have g2 := hX.below hw hXz
          exact ⟨g1.c0, g1.c1, g1.c2, g2.c0, g2.c1, g2.c2⟩
        have HH := Lib.hid hSS
        have k1 := rless_any r x
        have z0 : Below wr.heap.size wr wr.drew := (Below.refl _ _).drew
        clear hSS hR3 hX
        cases hq : ltC r x with
        | false =>
          rw [hq, if_neg (by decide)] at hE
          rw [hq] at k1
          have K1 := Lib.hid k1
          have HE2 : Hid (out ++ [x] ++ insL ltC r (l.drop (k + 1)) = insL ltC r l) := Lib.hid (by rw [← hE]; simp)
          clear hq k1 hE
          go_wp2_with fail
          go_region_held (fun w' => w'.cell? ⟨b, o + k * 3, none⟩ = some (.int .i64 x.n) ∧ w'.cell? ⟨b, o + k * 3 + 1, none⟩ = some (.int .i64 x.lo) ∧ w'.cell? ⟨b, o + k * 3 + 2, none⟩ = some (.int .i64 x.hi) ∧ w'.cell? ⟨w.heap.size, 0, none⟩ = some (.int .i64 r.n) ∧ w'.cell? ⟨w.heap.size, 1, none⟩ = some (.int .i64 r.lo) ∧ w'.cell? ⟨w.heap.size, 2, none⟩ = some (.int .i64 r.hi))
            (first | with_reducible exact HH.out _ z8 | with_reducible exact HH.out _ z0)
            ((go_at_call 49; with_reducible refine (K1.out _).mono ?_; rintro e u2 ⟨rfl, y8⟩; have z8 := z0.trans (y8.mono z0.size)))
          all_goals
            have hownD := own_belowN hown z8 (Nat.le_refl _)
            have hbelD := hbel.trans (z8.mono hsz)
            have hszD := hbelD.size
            obtain ⟨y3, y4, y5, _, _, _⟩ := HH.out _ z8
            clear hown hbel
            go_wp2_with (at_builtin; refine wpList_append_lies _ rfl _ _ _ rfl w1.heap.size 23 i0 (.agg #[.int .i64 0, .int .i64 0, .int .i64 0]) 3 24 Try.underlying36 hi hz0 hz1 hz2 rfl (by omega) _ _ _ rfl (hownD.alloc _) ⟨u2.heap.size, 0, none⟩ 1 1 (rq x) rfl rfl (World.news_of_block (heap_alloc_new u2 _)) (by intro u hu; exact rvs_one [x] u (by simpa [rvs] using hu)) (by omega) (by unfold maxLen; omega) (by omega) (by simp; omega) _ rfl ?_; intro g cap w3 hown3 hgrow hat hgl)
            refine ⟨⟨k + 1, out ++ [x], false, by omega, by simp; omega, (fun _ => by have := HOF.out (by trivial); simp; omega), rfl, by go_num, Lib.hid (by rw [if_neg (by decide)]; exact HE2.out), own_rc hown3 rfl, ?_⟩, by simp [intOf]; omega⟩
            exact (hbelD.alloc hszD _).grown hgrow (by simp; omega) (fun q hq => (hownD.lt q hq).1)
        | true =>
          rw [hq, if_pos rfl] at hE
          rw [hq] at k1
          have K1 := Lib.hid k1
          have HE2 : Hid (out ++ [r] ++ [x] ++ l.drop (k + 1) = insL ltC r l) := Lib.hid (by rw [← hE]; simp)
          clear hq k1 hE
          go_wp2_with fail
          go_region_held (fun w' => w'.cell? ⟨b, o + k * 3, none⟩ = some (.int .i64 x.n) ∧ w'.cell? ⟨b, o + k * 3 + 1, none⟩ = some (.int .i64 x.lo) ∧ w'.cell? ⟨b, o + k * 3 + 2, none⟩ = some (.int .i64 x.hi) ∧ w'.cell? ⟨w.heap.size, 0, none⟩ = some (.int .i64 r.n) ∧ w'.cell? ⟨w.heap.size, 1, none⟩ = some (.int .i64 r.lo) ∧ w'.cell? ⟨w.heap.size, 2, none⟩ = some (.int .i64 r.hi))
            (first | with_reducible exact HH.out _ z8 | with_reducible exact HH.out _ z0)
            ((go_at_call 49; with_reducible refine (K1.out _).mono ?_; rintro e u2 ⟨rfl, y8⟩; have z8 := z0.trans (y8.mono z0.size)))
          all_goals
            have hownD := own_belowN hown z8 (Nat.le_refl _)
            have hbelD := hbel.trans (z8.mono hsz)
            have hszD := hbelD.size
            obtain ⟨_, _, _, y3, y4, y5⟩ := HH.out _ z8
            clear hown hbel
            go_wp2_with (first
              | (at_builtin; refine wpList_append_lies _ rfl _ _ _ rfl w1.heap.size 23 i0 (.agg #[.int .i64 0, .int .i64 0, .int .i64 0]) 3 24 Try.underlying36 hi hz0 hz1 hz2 rfl (by omega) _ _ _ rfl (hownD.alloc _) ⟨u2.heap.size, 0, none⟩ 1 1 (rq r) rfl rfl (World.news_of_block (heap_alloc_new u2 _)) (by intro u hu; exact rvs_one [r] u (by simpa [rvs] using hu)) (by omega) (by unfold maxLen; omega) (by omega) (by simp; omega) _ rfl ?_; intro g cap w3 hown3 hgrow hat hgl; have hbel3 : Below w1.heap.size w1 w3 := (hbelD.alloc hszD _).grown hgrow (by simp; omega) (fun q hq => (hownD.lt q hq).1); have hown3' := own_rc hown3 rfl; have hsz3 := hbel3.size; have hl3 : (out ++ [r]).length = out.length + 1 := (by simp); rw [hl3] at hown3'; obtain ⟨y6, y7, y9⟩ := HR1.out.keep (w' := w3) fun i => hbel3.cell (p := ⟨b, i, none⟩) hbb; clear y3 y4 y5 hown3 hgrow hat hgl)
              | (at_builtin; refine wpList_append_lies _ rfl _ _ _ rfl w1.heap.size 23 i0 (.agg #[.int .i64 0, .int .i64 0, .int .i64 0]) 3 24 Try.underlying36 hi hz0 hz1 hz2 rfl (by omega) _ _ _ rfl (hown3'.alloc _) ⟨w3.heap.size, 0, none⟩ 1 1 (rq x) rfl rfl (World.news_of_block (heap_alloc_new w3 _)) (by intro u hu; exact rvs_one [x] u (by simpa [rvs] using hu)) (by omega) (by unfold maxLen; omega) (by omega) (by simp; omega) _ rfl ?_; intro g4 cap4 w4 hown4 hgrow4 hat4 hgl4))
            refine ⟨⟨k + 1, out ++ [r] ++ [x], true, by omega, (by have := HOF.out (by trivial); simp; omega), (fun h => by cases h), rfl, by go_num, Lib.hid (by rw [if_pos rfl]; exact HE2.out), own_rc hown4 (by simp), ?_⟩, by simp [intOf]; omega⟩
            exact (hbel3.alloc hsz3 _).grown hgrow4 (by simp; omega) (fun q hq => (hown3'.lt q hq).1)
    · have t0 : decide (k < n) = false := decide_eq_false hlt
      have hdr : l.drop k = [] := List.drop_eq_nil_of_le (by have := HN.out; omega)
      have hE := HE.out
      rw [hdr] at hE
      obtain ⟨c', _, hc', A', hv, hst⟩ := Sr.of_own hown
      subst hv
      cases d with
      | true =>
        rw [if_pos rfl, List.append_nil] at hE
        have HE2 := Lib.hid hE
        clear hE hown
        go_wp2
        go_ret
        rw [← HE2.out]
        exact ⟨A', c', rfl, hc', hst, b0.trans (hbel.mono b0.size)⟩
      | false =>
        rw [if_neg (by decide), insL] at hE
        have HE2 := Lib.hid hE
        obtain ⟨y3, y4, y5⟩ := HX0.out.below hbel z0'
        clear hE hst
        go_wp2_with (at_builtin; refine wpList_append_lies _ rfl _ _ _ rfl w1.heap.size 23 i0 (.agg #[.int .i64 0, .int .i64 0, .int .i64 0]) 3 24 Try.underlying36 hi hz0 hz1 hz2 rfl (by omega) _ _ _ rfl (hown.alloc _) ⟨wr.heap.size, 0, none⟩ 1 1 (rq r) rfl rfl (World.news_of_block (heap_alloc_new wr _)) (by intro u hu; exact rvs_one [r] u (by simpa [rvs] using hu)) (by omega) (by unfold maxLen; omega) (by omega) (by simp; omega) _ rfl ?_; intro g cap w3 hown3 hgrow hat hgl)
        have hown5 := own_rc hown3 rfl
        have hbel3 : Below w1.heap.size w1 w3 := (hbel.alloc hsz _).grown hgrow (by simp; omega) (fun q hq => (hown.lt q hq).1)
        rw [← HE2.out]
        obtain ⟨c5, _, hc5, A5, hv5, hst5⟩ := Sr.of_own hown5
        go_wp2
        go_ret
        refine ⟨A5, c5, ?_, hc5, hst5, b0.trans (hbel3.mono b0.size)⟩
        rw [List.length_append]
        rfl
end Go.Proofs.Ytnojapffmcnbaaa
