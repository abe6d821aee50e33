/-
  hornbookref04.Few; may an entry of a section be (sound)?
-/
import Derived.Test.YthcnjiigkmljnaaDoorSynSoundP
import Derived.Laws.Small
namespace Go.Proofs.YthcnjiigkmljnaaDoor
open Go.RowKit

set_option maxRecDepth 100000 in
set_option maxHeartbeats 1000000 in
theorem Few_any (L : List Tk) (A : Option Addr) (c : Nat) (w : World) (hlen : L.length ≤ maxLen) (hst : St w w.heap.size A L) :
    Calls Tryd.prog 7 #[.slice A L.length c] w fun r w' => ∃ b, r = .returned (.bool b) ∧ w' = w ∧ (b = true → L.length ≤ 300 ∧ fewS L ≤ 3000) := by
  unfold maxLen at hlen
  have hf0 : Hid (((0 : Nat) : Int) = (fewS (L.take 0) : Int)) := Lib.hid rfl
  go_enter Tryd.func7, Tryd.ntmps7
  go_wp2
  go_loopw [3, 4] (fun n i wr => ∃ (k s : Nat), k ≤ L.length ∧ k ≤ 300 ∧ s ≤ 3000 * k ∧ i = .int .i64 (k : Int) ∧ n = .int .i64 (s : Int) ∧ Hid ((s : Int) = (fewS (L.take k) : Int)) ∧ wr = w) (fun _ i _ => 300 - (intOf i).toNat)
  case atStart => exact ⟨0, 0, Nat.zero_le _, by omega, by omega, rfl, rfl, hf0, rfl⟩
  case round =>
    obtain ⟨k, s, hk, hk3, hs3, rfl, rfl, HS, rfl⟩ := hrel
    by_cases hkl : k < L.length
    · have t0 : decide (k < L.length) = true := by simp; omega
      by_cases h3 : k < 300
      · have t1 : decide ((k : Int) < 300) = true := by simp; omega
        obtain ⟨b, o, hA, hbl, hcl⟩ := hst (by omega)
        subst hA
        obtain ⟨_, _, _, g3⟩ := hcl k hkl
        have hn3 : fewN (tg L k) ≤ 3000 := Nat.min_le_right _ _
        have hne : fewN (tg L k) = min (tg L k).s.length 3000 := rfl
        have hst2 : Hid (((s + fewN (tg L k) : Nat) : Int) = (fewS (L.take (k + 1)) : Int)) := Lib.hid (by rw [fewS_take hkl]; have := HS.out; omega)
        generalize (tg L k).s = q at *
        generalize fewN (tg L k) = m at *
        have hmn : ∀ ts t wx, (Builtin.min_ ts t #[.int .i64 (q.length : Int), .int .i64 3000]).run Tryd.prog wx = .ok (.int .i64 (m : Int)) wx := fun ts t wx => by
          rw [run_min_int2]
          congr 2
          rw [hne]
          split <;> omega
        clear hcl hne HS hf0
        go_wp2
        refine ⟨⟨k + 1, s + m, by omega, by omega, by omega, by go_num, by go_num, hst2, by trivial⟩, by simp [intOf]; omega⟩
      · have t1 : decide ((k : Int) < 300) = false := by simp; omega
        have t2 : decide ((L.length : Int) ≤ 300) = false := by simp; omega
        clear HS hf0 hst
        go_wp2
        go_ret
        exact ⟨false, rfl, rfl, fun h => by cases h⟩
    · have t0 : decide (k < L.length) = false := by simp; omega
      have t2 : decide ((L.length : Int) ≤ 300) = true := by simp; omega
      have hkL : L.take k = L := List.take_of_length_le (by omega)
      have hE := HS.out
      rw [hkL] at hE
      have hfin : Hid (decide ((s : Int) ≤ 3000) = true → L.length ≤ 300 ∧ fewS L ≤ 3000) := Lib.hid (fun h => ⟨by omega, by simp at h; omega⟩)
      clear HS hf0 hst hE hkL
      go_wp2
      go_ret
      exact ⟨_, rfl, rfl, hfin.out⟩

/-- Where the seven cells of an entry are. -/
structure C7 (w : World) (P : Nat) (a b c d e : Int) (vu vl : Value) : Prop where
  c0 : w.cell? ⟨P, 0, none⟩ = some (.int .i64 a)
  c1 : w.cell? ⟨P, 1, none⟩ = some (.int .i64 b)
  c2 : w.cell? ⟨P, 2, none⟩ = some (.int .i64 c)
  c3 : w.cell? ⟨P, 3, none⟩ = some (.int .i64 d)
  c4 : w.cell? ⟨P, 4, none⟩ = some (.int .i64 e)
  c5 : w.cell? ⟨P, 5, none⟩ = some vu
  c6 : w.cell? ⟨P, 6, none⟩ = some vl
theorem C7.below {w w' : World} {P : Nat} {a b c d e : Int} {vu vl : Value} (h : C7 w P a b c d e vu vl) (hP : P < w.heap.size) (hb : Below w.heap.size w w') : C7 w' P a b c d e vu vl :=
  ⟨(hb.cell (p := ⟨P, 0, none⟩) hP).trans h.c0, (hb.cell (p := ⟨P, 1, none⟩) hP).trans h.c1, (hb.cell (p := ⟨P, 2, none⟩) hP).trans h.c2, (hb.cell (p := ⟨P, 3, none⟩) hP).trans h.c3, (hb.cell (p := ⟨P, 4, none⟩) hP).trans h.c4, (hb.cell (p := ⟨P, 5, none⟩) hP).trans h.c5, (hb.cell (p := ⟨P, 6, none⟩) hP).trans h.c6⟩

set_option maxRecDepth 100000 in
set_option maxHeartbeats 2000000 in
theorem sound_any (kind : Int) (x : En) (vu vl : Value) (w : World) {X : Nat → Prop} (hx : SnE kind x) (hu : Ux w X vu x.u) (hl : Lx w X vl x.ll) :
    Calls Tryd.prog 9 #[.int .i64 kind, .agg #[.int .i64 x.lo.n, .int .i64 x.lo.v, .int .i64 x.hi.n, .int .i64 x.hi.v, .int .i64 x.to, vu, vl]] w fun r w' => r = .returned (.bool true) ∧ Below w.heap.size w w' := by
  obtain ⟨⟨ln, lv⟩, ⟨hn, hv⟩, to, u, ll⟩ := x
  obtain ⟨x1, x2, x3, x4, x5, x6, x7, x8⟩ := hx
  simp only at x1 x2 x3 x4 x5 x6 x7 hu hl ⊢
  unfold SnT at x8
  simp only at x8
  subst x3
  obtain ⟨l0, l1⟩ := sane_v x1
  obtain ⟨h0, h1⟩ := sane_v x2
  have hS1 : ∀ w', Calls Tryd.prog 16 #[.agg #[.int .i64 ln, .int .i64 lv]] w' fun r w'' => r = .returned (.bool true) ∧ Below w'.heap.size w' w'' := fun w' => by have := Sane_any ln lv w'; rw [x1] at this; exact this
  have hS2 : ∀ w', Calls Tryd.prog 16 #[.agg #[.int .i64 ln, .int .i64 hv]] w' fun r w'' => r = .returned (.bool true) ∧ Below w'.heap.size w' w'' := fun w' => by have := Sane_any ln hv w'; rw [x2] at this; exact this
  have HS1 := Lib.hid hS1
  have HS2 := Lib.hid hS2
  clear hS1 hS2 x1 x2
  have d1 : decide (hv - lv < 0) = false := by simp; omega
  have d2 : decide (to < 0) = false := by simp; omega
  have d3 : decide ((65535 : Int) < to) = false := by simp; omega
  have hk3 : (kind == 3) = false ∨ ((kind == 3) = true ∧ decide ((65535 : Int) < to + (hv - lv)) = false) := by
    by_cases h : kind = 3
    · right; exact ⟨by simpa using h, by have := x7 h; simp; omega⟩
    · left; simpa using h
  clear x7
  obtain ⟨Au, cu, rfl, hcu, hsi⟩ := hu.si
  obtain ⟨dl, hdl, ⟨Al, cl, rfl, _, _⟩, _⟩ := hl
  have hll : ll.length = dl.length := by rw [hdl]; simp
  clear hdl hu
  have HC : Hid (C7 (w.alloc (.cells #[.int .i64 ln, .int .i64 lv, .int .i64 ln, .int .i64 hv, .int .i64 to, .slice Au u.length cu, .slice Al dl.length cl] 40)) w.heap.size ln lv ln hv to (.slice Au u.length cu) (.slice Al dl.length cl)) := Lib.hid ⟨by simp, by simp, by simp, by simp, by simp, by simp, by simp⟩
  have HB0 : Hid (Below w.heap.size w (w.alloc (.cells #[.int .i64 ln, .int .i64 lv, .int .i64 ln, .int .i64 hv, .int .i64 to, .slice Au u.length cu, .slice Al dl.length cl] 40))) := Lib.hid ((Below.refl _ _).alloc (Nat.le_refl _) _)
  go_enter Tryd.func9, Tryd.ntmps9
  go_wp2_with fail
  refine (HS1.out _).mono ?_
  rintro r w1 ⟨rfl, hb1⟩
  have hC1 := HC.out.below (by simp) hb1
  have hB1 := HB0.out.trans (hb1.mono (by simp))
  have hP1 : w.heap.size < w1.heap.size := by have := hb1.size; simp at this; omega
  clear hb1 HC HB0
  obtain ⟨c0, c1, c2, c3, c4, c5, c6⟩ := id hC1
  have HC1 := Lib.hid hC1
  clear hC1
  go_wp2_with fail
  refine (HS2.out _).mono ?_
  rintro r w2 ⟨rfl, hb2⟩
  have hC2 := HC1.out.below hP1 hb2
  have hB2 := hB1.trans (hb2.mono hB1.size)
  have hP2 : w.heap.size < w2.heap.size := by have := hb2.size; omega
  clear hb2 HC1 hB1 c0 c1 c2 c3 c4 c5 c6
  obtain ⟨c0, c1, c2, c3, c4, c5, c6⟩ := id hC2
  have hsi2 := hsi.below hB2
  clear hC2 hsi
  have HB2 := Lib.hid hB2
  clear hB2
  rcases x8 with ⟨k7, hue, hle⟩ | ⟨k7, hlp, hln, hue⟩ | ⟨k7, hle, u1, u2, u3, u4⟩
  · have d7 : decide (kind < 7) = true := by simp; omega
    have eu : u.length = 0 := by rw [hue]; rfl
    have el : dl.length = 0 := by rw [← hll, hle]; rfl
    clear hsi2 hll hue hle
    generalize u.length = nu at *
    generalize dl.length = nd at *
    subst eu
    subst el
    rcases hk3 with k3 | ⟨k3, k4⟩
    all_goals
      go_wp2
      go_ret
      exact ⟨rfl, HB2.out⟩
  · have d7 : decide (kind < 7) = false := by simp; omega
    have eu : u.length = 0 := by rw [hue]; rfl
    have dl0 : decide (0 < dl.length) = true := by simp; omega
    have dl1 : ((dl.length : Int) == hv - lv + 1) = true := by rw [beq_iff_eq]; omega
    clear hsi2 hll hue
    generalize u.length = nu at *
    generalize dl.length = nd at *
    subst eu
    have k3 : (kind == 3) = false := by rw [beq_eq_false_iff_ne]; omega
    clear hk3
    go_wp2
    go_ret
    exact ⟨rfl, HB2.out⟩
  · have d7 : decide (kind < 7) = false := by simp; omega
    have el : dl.length = 0 := by rw [← hll, hle]; rfl
    have k3 : (kind == 3) = false := by rw [beq_eq_false_iff_ne]; omega
    clear hll hle
    generalize dl.length = nd at *
    subst el
    obtain ⟨m, hm⟩ : ∃ m, u.length = m + 1 := ⟨u.length - 1, by omega⟩
    obtain ⟨g, o, hBe, hgl, hcl⟩ := hsi2 (by omega)
    have kl := hcl m (by omega)
    rw [lastU_at hm] at kl
    subst hBe
    clear hcl hsi2 hk3
    have em : ((u.length : Int)) = (m : Int) + 1 := by omega
    generalize lastU u = z at *
    generalize u.length = nl at *
    subst hm
    clear em
    have b2 : decide ((1 : Int) ≤ (m : Int) + 1) = true := by simp; omega
    have b3 : decide ((m : Int) + 1 ≤ 64) = true := by simp; omega
    have b4 : decide (z + (hv - lv) ≤ 65535) = true := by simp; omega
    have hm64 : m < 64 := by omega
    go_wp2
    go_ret
    exact ⟨rfl, HB2.out⟩
end Go.Proofs.YthcnjiigkmljnaaDoor
