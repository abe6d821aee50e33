/-
  The program's parser: units.
-/
import Derived.Test.YthcnjiigkmljnaaGreatDoorSynDev5
import Derived.Test.YthcnjiigkmljnaaGreatDoorPart3
namespace Go.Proofs.YthcnjiigkmljnaaGreatDoor
open Go.RowKit

/-- The last of some units. -/
def lastU (u : List Int) : Int := u.getLast?.getD 0
theorem lastU_at {u : List Int} {n : Nat} (h : u.length = n + 1) : u[n]?.getD 0 = lastU u := by
  unfold lastU
  rw [List.getLast?_eq_getElem?, h]
  rfl
/-- The next token's units, with so many codes more behind the first. -/
def unitmT (L : List Tk) (en more : Int) (i : Nat) : Rs (List Int) := (unitT L en i).then fun u k => if 65535 - more < lastU u.1 then .no u.2 7 else .ok u.1 k
section
variable {w : World} {P : Nat} {A : Option Addr} {c : Nat} {L : List Tk} {i : Nat} {en a e : Int} {vc vi : Value}
set_option maxRecDepth 100000 in
set_option maxHeartbeats 4000000 in
theorem qunits_any (h : Qs w P A c L i en vc vi a e) (hi : i ≤ L.length) (hL : Sm L) (more : Int) (hm0 : -8589934592 ≤ more) (hm1 : more ≤ 8589934592) :
    Calls Tryz.prog 117 #[.pointer (some ⟨P, 0, none⟩), .int .i64 more] w fun r w' => ∃ (v : Value) (u : List Int) (i' : Nat) (a' e' : Int), r = .returned v ∧ Ux w' (fun b => b < w.heap.size) v u ∧ Qs w' P A c L i' en vc vi a' e' ∧ i' ≤ L.length ∧ Fr w w' P ∧ Oc (unitmT L en more i) (fun _ => True) i a e u i' a' e' := by
  have hlt := h.lt
  have hT := qtake_any h hi hL 4
  have HT := Lib.hid hT
  clear hT h
  go_enter Tryz.func117, Tryz.ntmps117
  go_wp2_with fail
  refine HT.out.mono ?_
  rintro r w1 ⟨t, i1, a1, e1, rfl, hp1, hi1, hts, hf1, hoc⟩
  clear HT
  have hlt1 := hp1.lt
  obtain ⟨kind, at_, n, s⟩ := t
  simp only at hts
  unfold tv
  simp only
  obtain ⟨cap, w2, hcv, hcell, _, hb2, hsz2, hcap⟩ := run_bytes (P := Tryz.prog) (w1.alloc (.cells #[.int .i64 kind, .int .i64 at_, .int .i64 n, .string (str s)] 42)) 9 93 5 s Tryz.underlying9 Tryz.underlying93 Tryz.underlying5
  have hS1 : (w1.alloc (.cells #[.int .i64 kind, .int .i64 at_, .int .i64 n, .string (str s)] 42)).heap.size = w1.heap.size + 1 := by simp
  have hsl : Sl w2 w2.heap.size (some ⟨w1.heap.size + 1, 0, none⟩) s := fun _ => ⟨_, 0, rfl, by rw [hS1] at hsz2; exact hsz2, fun j hj => by rw [Nat.zero_add, ← hS1]; exact hcell j hj⟩
  rw [hS1] at hcv
  have hU := Units_new (some ⟨w1.heap.size + 1, 0, none⟩) cap s w2 hsl hts
  have HU := Lib.hid hU
  have hp2 := (hp1.alloc (.cells #[.int .i64 kind, .int .i64 at_, .int .i64 n, .string (str s)] 42)).over hb2
  have hf2 := (hf1.alloc (.cells #[.int .i64 kind, .int .i64 at_, .int .i64 n, .string (str s)] 42)).over hb2
  have k1 : w2.cell? ⟨w1.heap.size, 1, none⟩ = some (.int .i64 at_) := (hb2.cell (p := ⟨w1.heap.size, 1, none⟩) (by simp)).trans (by simp)
  have hT3 : w1.heap.size < w2.heap.size := by have h1 := hb2.size; simp at h1; omega
  have hf1s := hf1.size
  clear hU hcell hsl
  have hcs := units_cs kind at_ n s
  have hbad : unitsT ⟨kind, at_, n, s⟩ = none → Oc (unitmT L en more i) (fun _ => True) i a e ([] : List Int) i1 (if e1 = 0 then at_ else a1) (if e1 = 0 then 3 else e1) := fun hn => by
    rcases hoc with ⟨h1, h2, h3, h4, _⟩ | ⟨h1, h2, h3, _⟩ | ⟨h1, h2, h3, h4⟩
    · rw [if_neg (by rw [h4]; exact h1), if_neg (by rw [h4]; exact h1)]
      exact .inl ⟨h1, h2, h3, h4, trivial⟩
    · rw [if_neg h3, if_neg h3]
      exact .inr (.inl ⟨h1, by unfold unitmT unitT; rw [h2, then_no, then_no], h3, trivial⟩)
    · rw [if_pos h4, if_pos h4]
      exact .inr (.inl ⟨h1, by unfold unitmT unitT; rw [h2, then_ok, hn]; rfl, by decide, trivial⟩)
  have hgood : unitsT ⟨kind, at_, n, s⟩ ≠ none → 0 < (units s).length → Oc (unitmT L en more i) (fun _ => True) i a e (units s) i1 (if 65535 - more < lastU (units s) then at_ else a1) (if 65535 - more < lastU (units s) then 7 else e1) ∧ e1 = 0 := fun hn hl => by
    have hu : unitsT ⟨kind, at_, n, s⟩ = some (units s) := by
      unfold unitsT at hn ⊢
      by_cases hc : oddB s = false ∧ 1 ≤ (units s).length ∧ (units s).length ≤ 64
      · exact if_pos hc
      · exact absurd (if_neg hc) hn
    have hne : ∀ q, (⟨kind, at_, n, s⟩ : Tk) = noT → q := fun q hq => by
      injection hq with _ _ _ h
      rw [h] at hl
      simp [units] at hl
    rcases hoc with ⟨_, _, _, _, h⟩ | ⟨_, _, _, h⟩ | ⟨h1, h2, h3, h4⟩
    · exact hne _ h
    · exact hne _ h
    · refine ⟨?_, h4⟩
      have hm : unitmT L en more i = if 65535 - more < lastU (units s) then .no at_ 7 else .ok (units s) i1 := by unfold unitmT unitT; rw [h2, then_ok, hu]; rfl
      by_cases hq : 65535 - more < lastU (units s)
      · rw [if_pos hq, if_pos hq]
        exact .inr (.inl ⟨h1, by rw [hm, if_pos hq], by decide, trivial⟩)
      · rw [if_neg hq, if_neg hq]
        exact .inr (.inr ⟨h1, by rw [hm, if_neg hq], h3, h4⟩)
  clear hoc
  generalize oddB s = od' at *
  generalize units s = us at *
  go_wp2_with fail
  refine HU.out.mono ?_
  rintro r w3 ⟨B, d, rfl, hd, hsi, hnew, hb3⟩
  have hux : Ux w3 (fun b => b < w.heap.size) (.slice B us.length d) us := Ux.of_si hsi ⟨hd.1, fun e => hd.2 (by rw [e])⟩ (fun b o e _ => by have := hnew b o e; omega)
  have hp3 := hp2.over hb3
  have hf3 := hf2.over hb3
  have k3 := (hb3.cell (p := ⟨w1.heap.size, 1, none⟩) hT3).trans k1
  clear hnew HU
  rcases hcs with ⟨hn, hbd⟩ | ⟨hn, b1, b2, b3⟩
  · have hO := hbad hn
    have hF := qfail_any hp3 at_ 3
    have HF := Lib.hid hF
    clear hF hn hbad hgood hux hsi
    rcases hbd with rfl | ⟨rfl, b2 | ⟨b2, b3⟩⟩
    all_goals
      go_wp2_with (go_at_call 17; refine HF.out.mono ?_; rintro r w4 ⟨rfl, hp4, hf4⟩)
      refine bodyPost_ret (v := _) (by simp [results, Tryz.results117, go_sem]; try rfl) rfl ⟨_, [], i1, _, _, rfl, Ux.nil, hp4, hi1, hf3.trans hf4, hO⟩
  · obtain ⟨hO, he1⟩ := hgood hn (by simp at b2; omega)
    clear hbad hgood hn
    subst he1
    subst b1
    have hpos : 0 < us.length := by simp at b2; omega
    obtain ⟨m, hm⟩ : ∃ m, us.length = m + 1 := ⟨us.length - 1, by omega⟩
    obtain ⟨g, o, hBe, hgl, hcl⟩ := hsi hpos
    have kl := hcl m (by omega)
    rw [lastU_at hm] at kl
    subst hBe
    have HX := Lib.hid hux
    clear hcl hsi hux
    have em : ((us.length : Int)) = (m : Int) + 1 := by omega
    generalize us.length = nl at *
    subst hm
    clear em
    have b2' : decide ((m : Int) + 1 < 1) = false := by simp; omega
    have b3' : decide ((64 : Int) < (m : Int) + 1) = false := by simp at b3 ⊢; omega
    have hm64 : m < 64 := by simp at b3; omega
    clear b2 b3
    by_cases hq : 65535 - more < lastU us
    · rw [if_pos hq, if_pos hq] at hO
      have hF := qfail_ok hp3 at_ 7
      have HF := Lib.hid hF
      have HO := Lib.hid hO
      clear hF hO
      generalize lastU us = lu at *
      have tq : decide (65535 - more < lu) = true := by simp; omega
      go_wp2_with (go_at_call 17; refine HF.out.mono ?_; rintro r w4 ⟨rfl, hp4, hf4⟩)
      refine bodyPost_ret (v := _) (by simp [results, Tryz.results117, go_sem]; try rfl) rfl ⟨_, us, i1, _, _, rfl, HX.out.to (Kp.of_fr hf4 (fun _ => hlt)) (fun _ _ h => h), hp4, hi1, hf3.trans hf4, HO.out⟩
    · rw [if_neg hq, if_neg hq] at hO
      have HO := Lib.hid hO
      clear hO
      generalize lastU us = lu at *
      have tq : decide (65535 - more < lu) = false := by simp; omega
      go_wp2
      refine bodyPost_ret (v := _) (by simp [results, Tryz.results117, go_sem]; try rfl) rfl ⟨_, us, i1, _, _, rfl, HX.out, hp3, hi1, hf3, HO.out⟩
end
end Go.Proofs.YthcnjiigkmljnaaGreatDoor
