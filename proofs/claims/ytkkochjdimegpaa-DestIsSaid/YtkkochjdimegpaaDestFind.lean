/-
  The program's own Canon; slices.BinarySearchFunc at entries.
-/
import Derived.Test.YtkkochjdimegpaaDestRun
import Derived.Handy
namespace Go.Proofs.Ytkkochjdimegpaa
open Go.RowKit
attribute [local go_sem ↓] Go.wp_at_zero Go.wp_at_succ

noncomputable instance ctDec (l : List Bp) : Decidable (Ct l) := Classical.propDecidable _
theorem RunB.all {l : List Bp} {k : Nat} (h : RunB l k) : ((k : Int) == (l.length : Int)) = decide (Ct l) := by
  obtain ⟨h1, h2, h3⟩ := h
  by_cases hk : k = l.length
  · subst hk
    rw [decide_eq_true h2.cn]
    simp
  · have : ¬ Ct l := fun hc => h3 (by omega) (hc.okk (k + 1) k (by omega))
    rw [decide_eq_false this]
    simp
    omega
set_option maxHeartbeats 1000000 in
theorem dCanon_any (A : Option Addr) (c : Nat) (l : List Me) (w : World) (hA : Sd w A l) (hl : l.length ≤ 1048576) :
    Calls Try.prog 22 #[.slice A l.length c] w fun e w' => e = .returned (.bool (decide (Ct (pl l)))) ∧ Below w.heap.size w w' := by
  have K1 := Lib.hid (dRun_any A c l w hA hl)
  obtain ⟨d, hd⟩ : ∃ d, d = decide (Ct (pl l)) := ⟨_, rfl⟩
  rw [← hd]
  have HD := Lib.hid hd
  clear hA hl hd
  go_enter Try.func22, Try.ntmps22
  go_wp2_with fail
  refine K1.out.mono ?_
  rintro e w1 ⟨⟨k, hk, rfl⟩, hb⟩
  have hk2 := hk.all
  rw [pl_length] at hk2
  rw [← HD.out] at hk2
  have HK := Lib.hid hk2
  clear hk hk2 K1
  go_wp2
  go_ret
  exact ⟨by first | exact rfl | (rw [HK.out]; exact rfl), hb⟩
/-- What BinarySearchFunc tells. -/
def SrchB (l : List Bp) (y : Bp) (i : Nat) (ok : Bool) : Prop := i ≤ l.length ∧ (ok = true → ∃ s, l[i]? = some s ∧ ¬ ahB s y ∧ ¬ ahB y s) ∧ (ok = false → ∀ s ∈ l, ahB s y ∨ ahB y s)
theorem cmpB_neg {a b : Bp} : cmpB a b < 0 ↔ ahB a b := by
  unfold cmpB
  split
  · simp [*]
  · split <;> simp [*]
theorem cmpB_zero {a b : Bp} : cmpB a b = 0 ↔ ¬ ahB a b ∧ ¬ ahB b a := by
  unfold cmpB
  split
  · simp [*]
  · split <;> simp [*]
set_option maxRecDepth 100000 in
set_option maxHeartbeats 4000000 in
theorem dBsearch_any (A : Option Addr) (c : Nat) (d : List Me) (yn ylo yhi : Int) (w : World) (hA : Sd w A d) (hl : d.length ≤ 1048576) (hc : Ct (pl d)) :
    Calls Try.prog 32 #[.slice A d.length c, fv ⟨⟨yn, ylo, yhi, []⟩, none, 0⟩, .func (.func 33) #[] #[]] w fun e w' => (∃ (i : Nat) (ok : Bool), SrchB (pl d) ⟨yn, ylo, yhi, []⟩ i ok ∧ e = .returned (.tuple #[.int .i64 (i : Int), .bool ok])) ∧ Below w.heap.size w w' := by
  have HA := Lib.hid hA
  have M1 : Hid (∀ (t h : Nat) (a b : Bp), (pl d)[t]? = some a → (pl d)[h]? = some b → t ≤ h → ahB b ⟨yn, ylo, yhi, []⟩ → ahB a ⟨yn, ylo, yhi, []⟩) := Lib.hid fun t h a b ha hb hth hy => by
    rcases Nat.lt_or_ge t h with k | k
    · have hp := List.pairwise_iff_getElem.1 hc.2 t h (List.getElem?_eq_some_iff.1 ha).1 (List.getElem?_eq_some_iff.1 hb).1 k
      rw [(List.getElem?_eq_some_iff.1 ha).2, (List.getElem?_eq_some_iff.1 hb).2] at hp
      exact hp.1.trans hy (hc.lo (List.mem_of_getElem? hb))
    · obtain rfl : t = h := by omega
      rw [ha] at hb
      cases hb
      exact hy
  have M2 : Hid (∀ (t h : Nat) (a b : Bp), (pl d)[t]? = some a → (pl d)[h]? = some b → t ≤ h → ahB ⟨yn, ylo, yhi, []⟩ a → ahB ⟨yn, ylo, yhi, []⟩ b) := Lib.hid fun t h a b ha hb hth hy => by
    rcases Nat.lt_or_ge t h with k | k
    · have hp := List.pairwise_iff_getElem.1 hc.2 t h (List.getElem?_eq_some_iff.1 ha).1 (List.getElem?_eq_some_iff.1 hb).1 k
      rw [(List.getElem?_eq_some_iff.1 ha).2, (List.getElem?_eq_some_iff.1 hb).2] at hp
      exact hy.trans hp.1 (hc.lo (List.mem_of_getElem? ha))
    · obtain rfl : t = h := by omega
      rw [ha] at hb
      cases hb
      exact hy
  obtain ⟨n, hn⟩ : ∃ n, n = d.length := ⟨_, rfl⟩
  have HN := Lib.hid hn
  rw [← hn] at hl ⊢
  clear hn hA hc
  unfold fv
  go_enter Try.func32, Try.ntmps32
  go_wp2
  have hb0 : Below w.heap.size w (w.alloc (.cells #[.int .i64 yn, .int .i64 ylo, .int .i64 yhi, .slice none 0 0] 25)) := (Below.refl _ _).alloc (Nat.le_refl _) _
  have hy0 := Fb.new w ⟨⟨yn, ylo, yhi, []⟩, none, 0⟩ 25
  go_loopw [9, 10] (fun i j wr => ∃ lo hi : Nat, lo ≤ hi ∧ hi ≤ n ∧ i = .int .i64 (lo : Int) ∧ j = .int .i64 (hi : Int) ∧ Hid ((∀ (t : Nat) (a : Bp), t < lo → (pl d)[t]? = some a → ahB a ⟨yn, ylo, yhi, []⟩) ∧ (∀ (t : Nat) (a : Bp), hi ≤ t → (pl d)[t]? = some a → ¬ ahB a ⟨yn, ylo, yhi, []⟩)) ∧ Fb wr w.heap.size ⟨⟨yn, ylo, yhi, []⟩, none, 0⟩ ∧ Below w.heap.size w wr ∧ w.heap.size < wr.heap.size) (fun i j _ => (intOf j - intOf i).toNat)
  case atStart => exact ⟨0, n, Nat.zero_le _, Nat.le_refl _, rfl, rfl, Lib.hid ⟨fun t a h => by omega, fun t a h ha => by have := (List.getElem?_eq_some_iff.1 ha).1; have := HN.out; rw [pl_length] at *; omega⟩, hy0, hb0, by simp⟩
  case round =>
    clear hy0 hb0
    obtain ⟨lo, hi, h1, h2, rfl, rfl, HI, hy, hbel, hz⟩ := hrel
    by_cases hlt : lo < hi
    · have t0 : decide (lo < hi) = true := decide_eq_true hlt
      have em : ((lo : Int) + (hi : Int)) / 2 = (((lo + hi) / 2 : Nat) : Int) := by omega
      obtain ⟨h, hh⟩ : ∃ h, h = (lo + hi) / 2 := ⟨_, rfl⟩
      rw [← hh] at em
      have hx := List.getElem?_eq_getElem (l := d) (i := h) (by have := HN.out; omega)
      generalize d[h]'(by have := HN.out; omega) = x at *
      have hhn : h < n := by omega
      obtain ⟨b, o, rfl, hb, ⟨y0, y1, y2, y3⟩⟩ := (HA.out.over hbel).rd.at hx
      have hyk := hy
      obtain ⟨g0, g1, g2, g3⟩ := hy
      dsimp only [List.length_nil] at g3
      simp only [Nat.zero_add] at g1 g2 g3
      have K1 := Lib.hid (fun W => dCompare_any x ⟨⟨yn, ylo, yhi, []⟩, none, 0⟩ W)
      unfold fv at K1
      dsimp only [List.length_nil] at K1
      have HX := Lib.hid hx
      have HHH := Lib.hid hh
      clear hx hh
      have hSS : ∀ w', Below wr.heap.size wr w' → (w'.cell? ⟨b, o + h * 4, none⟩ = some (.int .i64 x.b.n) ∧ w'.cell? ⟨b, o + h * 4 + 1, none⟩ = some (.int .i64 x.b.lo) ∧ w'.cell? ⟨b, o + h * 4 + 2, none⟩ = some (.int .i64 x.b.hi) ∧ w'.cell? ⟨b, o + h * 4 + 3, none⟩ = some (.slice x.a x.b.u.length x.c)) ∧ w'.cell? ⟨w.heap.size, 0, none⟩ = some (.int .i64 yn) ∧ w'.cell? ⟨w.heap.size, 1, none⟩ = some (.int .i64 ylo) ∧ w'.cell? ⟨w.heap.size, 2, none⟩ = some (.int .i64 yhi) ∧ w'.cell? ⟨w.heap.size, 3, none⟩ = some (.slice none 0 0) := fun w' hw => by
        have hbz := hb
        have q := F4.keep (w' := w') ⟨y0, y1, y2, y3⟩ fun i => hw.cell (p := ⟨b, i, none⟩) hbz
        have p : Fb w' w.heap.size ⟨⟨yn, ylo, yhi, []⟩, none, 0⟩ := Fb.below hyk hw hz
        exact ⟨⟨q.c0, q.c1, q.c2, q.c3⟩, p.c0, p.c1, p.c2, p.c3⟩
      have HH := Lib.hid hSS
      have z0 : Below wr.heap.size wr wr.drew := (Below.refl _ _).drew
      have HY : Hid (∀ w', Below wr.heap.size wr w' → Fb w' w.heap.size ⟨⟨yn, ylo, yhi, []⟩, none, 0⟩ ∧ Below w.heap.size w w' ∧ w.heap.size < w'.heap.size) := Lib.hid fun w' hw => ⟨Fb.below hyk hw hz, hbel.trans (hw.mono hbel.size), Nat.lt_of_lt_of_le hz hw.size⟩
      have hm1 : lo ≤ h := by have := HHH.out; omega
      have hm2 : h < hi := by have := HHH.out; omega
      clear y0 y1 y2 y3 g0 g1 g2 g3 hSS hbel hyk
      cases hcm : decide (cmpB x.b ⟨yn, ylo, yhi, []⟩ < 0) with
      | true =>
        have HCM := Lib.hid (cmpB_neg.1 (of_decide_eq_true hcm))
        generalize cmpB x.b ⟨yn, ylo, yhi, []⟩ = cm at *
        go_wp2_with fail
        go_region_held (fun w' => (w'.cell? ⟨b, o + h * 4, none⟩ = some (.int .i64 x.b.n) ∧ w'.cell? ⟨b, o + h * 4 + 1, none⟩ = some (.int .i64 x.b.lo) ∧ w'.cell? ⟨b, o + h * 4 + 2, none⟩ = some (.int .i64 x.b.hi) ∧ w'.cell? ⟨b, o + h * 4 + 3, none⟩ = some (.slice x.a x.b.u.length x.c)) ∧ w'.cell? ⟨w.heap.size, 0, none⟩ = some (.int .i64 yn) ∧ w'.cell? ⟨w.heap.size, 1, none⟩ = some (.int .i64 ylo) ∧ w'.cell? ⟨w.heap.size, 2, none⟩ = some (.int .i64 yhi) ∧ w'.cell? ⟨w.heap.size, 3, none⟩ = some (.slice none 0 0))
          (first | with_reducible exact HH.out _ z8 | with_reducible exact HH.out _ z0)
          ((go_at_call 33; with_reducible refine (K1.out _).mono ?_; rintro e x1 ⟨rfl, y8⟩; have z8 := z0.trans (y8.mono z0.size)))
        all_goals
          go_wp2
          refine ⟨⟨h + 1, hi, by omega, h2, by first | rfl | (congr 1; omega), rfl, Lib.hid ⟨fun t a ht ha => ?_, HI.out.2⟩, HY.out _ z8⟩, by simp [intOf]; omega⟩
          exact M1.out t h a x.b ha (pl_get HX.out) (by omega) HCM.out
      | false =>
        have HCM := Lib.hid (mt cmpB_neg.2 (of_decide_eq_false hcm))
        generalize cmpB x.b ⟨yn, ylo, yhi, []⟩ = cm at *
        go_wp2_with fail
        go_region_held (fun w' => (w'.cell? ⟨b, o + h * 4, none⟩ = some (.int .i64 x.b.n) ∧ w'.cell? ⟨b, o + h * 4 + 1, none⟩ = some (.int .i64 x.b.lo) ∧ w'.cell? ⟨b, o + h * 4 + 2, none⟩ = some (.int .i64 x.b.hi) ∧ w'.cell? ⟨b, o + h * 4 + 3, none⟩ = some (.slice x.a x.b.u.length x.c)) ∧ w'.cell? ⟨w.heap.size, 0, none⟩ = some (.int .i64 yn) ∧ w'.cell? ⟨w.heap.size, 1, none⟩ = some (.int .i64 ylo) ∧ w'.cell? ⟨w.heap.size, 2, none⟩ = some (.int .i64 yhi) ∧ w'.cell? ⟨w.heap.size, 3, none⟩ = some (.slice none 0 0))
          (first | with_reducible exact HH.out _ z8 | with_reducible exact HH.out _ z0)
          ((go_at_call 33; with_reducible refine (K1.out _).mono ?_; rintro e x1 ⟨rfl, y8⟩; have z8 := z0.trans (y8.mono z0.size)))
        all_goals
          go_wp2
          refine ⟨⟨lo, h, by omega, by omega, rfl, by first | rfl | (congr 1; omega), Lib.hid ⟨HI.out.1, fun t a ht ha hay => ?_⟩, HY.out _ z8⟩, by simp [intOf]; omega⟩
          exact HCM.out (M1.out h t x.b a (pl_get HX.out) ha ht hay)
    · have t0 : decide (lo < hi) = false := decide_eq_false hlt
      obtain rfl : lo = hi := by omega
      by_cases hln : lo < n
      · have t1 : decide (lo < n) = true := decide_eq_true hln
        obtain ⟨h, hh⟩ : ∃ h, h = lo := ⟨_, rfl⟩
        have hx := List.getElem?_eq_getElem (l := d) (i := lo) (by have := HN.out; omega)
        generalize d[lo]'(by have := HN.out; omega) = x at *
        obtain ⟨b, o, rfl, hb, ⟨y0, y1, y2, y3⟩⟩ := (HA.out.over hbel).rd.at hx
        have hyk := hy
        obtain ⟨g0, g1, g2, g3⟩ := hy
        dsimp only [List.length_nil] at g3
        simp only [Nat.zero_add] at g1 g2 g3
        have K1 := Lib.hid (fun W => dCompare_any x ⟨⟨yn, ylo, yhi, []⟩, none, 0⟩ W)
        unfold fv at K1
        dsimp only [List.length_nil] at K1
        have HX := Lib.hid hx
        clear hx
        have hSS : ∀ w', Below wr.heap.size wr w' → (w'.cell? ⟨b, o + lo * 4, none⟩ = some (.int .i64 x.b.n) ∧ w'.cell? ⟨b, o + lo * 4 + 1, none⟩ = some (.int .i64 x.b.lo) ∧ w'.cell? ⟨b, o + lo * 4 + 2, none⟩ = some (.int .i64 x.b.hi) ∧ w'.cell? ⟨b, o + lo * 4 + 3, none⟩ = some (.slice x.a x.b.u.length x.c)) ∧ w'.cell? ⟨w.heap.size, 0, none⟩ = some (.int .i64 yn) ∧ w'.cell? ⟨w.heap.size, 1, none⟩ = some (.int .i64 ylo) ∧ w'.cell? ⟨w.heap.size, 2, none⟩ = some (.int .i64 yhi) ∧ w'.cell? ⟨w.heap.size, 3, none⟩ = some (.slice none 0 0) := fun w' hw => by
          have hbz := hb
          have q := F4.keep (w' := w') ⟨y0, y1, y2, y3⟩ fun i => hw.cell (p := ⟨b, i, none⟩) hbz
          have p : Fb w' w.heap.size ⟨⟨yn, ylo, yhi, []⟩, none, 0⟩ := Fb.below hyk hw hz
          exact ⟨⟨q.c0, q.c1, q.c2, q.c3⟩, p.c0, p.c1, p.c2, p.c3⟩
        have HH := Lib.hid hSS
        have z0 : Below wr.heap.size wr wr.drew := (Below.refl _ _).drew
        have HY : Hid (∀ w', Below wr.heap.size wr w' → Fb w' w.heap.size ⟨⟨yn, ylo, yhi, []⟩, none, 0⟩ ∧ Below w.heap.size w w' ∧ w.heap.size < w'.heap.size) := Lib.hid fun w' hw => ⟨Fb.below hyk hw hz, hbel.trans (hw.mono hbel.size), Nat.lt_of_lt_of_le hz hw.size⟩
        clear y0 y1 y2 y3 g0 g1 g2 g3 hSS hbel hyk
        cases hcm : (cmpB x.b ⟨yn, ylo, yhi, []⟩ == 0)
        all_goals
          have HCM := Lib.hid hcm
          generalize hcx : cmpB x.b ⟨yn, ylo, yhi, []⟩ = cm at *
          have HCX := Lib.hid hcx
          clear hcx
          go_wp2_with fail
          go_region_held (fun w' => (w'.cell? ⟨b, o + lo * 4, none⟩ = some (.int .i64 x.b.n) ∧ w'.cell? ⟨b, o + lo * 4 + 1, none⟩ = some (.int .i64 x.b.lo) ∧ w'.cell? ⟨b, o + lo * 4 + 2, none⟩ = some (.int .i64 x.b.hi) ∧ w'.cell? ⟨b, o + lo * 4 + 3, none⟩ = some (.slice x.a x.b.u.length x.c)) ∧ w'.cell? ⟨w.heap.size, 0, none⟩ = some (.int .i64 yn) ∧ w'.cell? ⟨w.heap.size, 1, none⟩ = some (.int .i64 ylo) ∧ w'.cell? ⟨w.heap.size, 2, none⟩ = some (.int .i64 yhi) ∧ w'.cell? ⟨w.heap.size, 3, none⟩ = some (.slice none 0 0))
            (first | with_reducible exact HH.out _ z8 | with_reducible exact HH.out _ z0)
            ((go_at_call 33; with_reducible refine (K1.out _).mono ?_; rintro e x1 ⟨rfl, y8⟩; have z8 := z0.trans (y8.mono z0.size)))
        · all_goals
            go_wp2
            go_returns
            refine ⟨⟨lo, false, ⟨by rw [pl_length, ← HN.out]; exact h2, fun e => (by cases e), fun _ s hs => ?_⟩, rfl⟩, (HY.out _ z8).2.1⟩
            have hne : ¬ cmpB x.b ⟨yn, ylo, yhi, []⟩ = 0 := by rw [HCX.out]; simpa using HCM.out
            have hyx : ahB ⟨yn, ylo, yhi, []⟩ x.b := Classical.byContradiction fun hn => hne (cmpB_zero.2 ⟨HI.out.2 lo x.b (Nat.le_refl _) (pl_get HX.out), hn⟩)
            obtain ⟨t, ht, es⟩ := List.getElem_of_mem hs
            have hts : (pl d)[t]? = some s := by rw [List.getElem?_eq_getElem ht, es]
            rcases Nat.lt_or_ge t lo with k | k
            · exact .inl (HI.out.1 t s k hts)
            · exact .inr (M2.out lo t x.b s (pl_get HX.out) hts k hyx)
        · all_goals
            go_wp2
            go_returns
            refine ⟨⟨lo, true, ⟨by rw [pl_length, ← HN.out]; exact h2, fun _ => ⟨x.b, pl_get HX.out, ?_⟩, fun e => (by cases e)⟩, rfl⟩, (HY.out _ z8).2.1⟩
            have h0 : cmpB x.b ⟨yn, ylo, yhi, []⟩ = 0 := by rw [HCX.out]; simpa using HCM.out
            exact cmpB_zero.1 h0
      · have t1 : decide (lo < n) = false := decide_eq_false hln
        go_wp2
        go_quiet (fail)
        go_wp2
        go_returns
        refine ⟨⟨lo, false, ⟨by rw [pl_length, ← HN.out]; exact h2, fun e => (by cases e), fun _ s hs => ?_⟩, rfl⟩, below_drewN hbel _⟩
        obtain ⟨t, ht, es⟩ := List.getElem_of_mem hs
        exact .inl (HI.out.1 t s (by have := HN.out; rw [pl_length] at ht; omega) (by rw [List.getElem?_eq_getElem ht, es]))
end Go.Proofs.Ytkkochjdimegpaa
