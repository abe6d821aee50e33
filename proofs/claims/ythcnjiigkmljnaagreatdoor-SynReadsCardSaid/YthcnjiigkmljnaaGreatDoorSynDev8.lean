/-
  The program's parser: the walk of list.
-/
import Derived.Test.YthcnjiigkmljnaaGreatDoorSynDev7
namespace Go.Proofs.YthcnjiigkmljnaaGreatDoor
open Go.RowKit

theorem Lx.of_loop {wr wf : World} {B P n : Nat} {e : TypeId} {v : Value} {out : List (List Int × Value)} (hown : wr.ownsRow B e 1 v n (out.flatMap lq)) (hn : ∀ p ∈ out, Ux wr (Xv B v) p.2 p.1) (hf : Fr wr wf P) (hP : P < B) : Lx wf (fun b => b < B) v (out.map (·.1)) :=
  ⟨out, rfl, (Rw.of_own lq_len (by decide) (own_fr hown hf hP) (fun b hb _ => by have := (hown.lt b hb).1; omega)).2, fun p hp => (hn p hp).to (Kp.of_fr hf (fun _ => .inl hP)) (fun _ _ h => .inl h)⟩
section
variable {w : World} {P : Nat} {A : Option Addr} {c : Nat} {L : List Tk} {i : Nat} {en a e : Int} {vc vi : Value}
set_option maxRecDepth 100000 in
set_option maxHeartbeats 8000000 in
theorem qlist_any (h : Qs w P A c L i en vc vi a e) (hi : i ≤ L.length) (hL : Sm L) (n : Int) :
    Calls Tryz.prog 116 #[.pointer (some ⟨P, 0, none⟩), .int .i64 n] w fun r w' => ∃ (v : Value) (ll : List (List Int)) (i' : Nat) (a' e' : Int), r = .returned v ∧ Lx w' (fun b => b < w.heap.size) v ll ∧ Qs w' P A c L i' en vc vi a' e' ∧ i' ≤ L.length ∧ Fr w w' P ∧ Oc (listOT L en n i) (fun _ => True) i a e ll i' a' e' := by
  obtain ⟨i0, hi0, hz0, hz1, hz2⟩ := info_parts infoL
  have hlt := h.lt
  have hT := qtake_any h hi hL 6
  have HT := Lib.hid hT
  have hL1 := hL.1
  clear hT h
  go_enter Tryz.func116, Tryz.ntmps116
  go_wp2_with fail
  refine HT.out.mono ?_
  rintro r w1 ⟨t, i1, a1, e1, rfl, hp1, hi1, hts, hf1, hoc⟩
  clear HT
  have HR := Lib.hid (Lr.start (n := n) hoc)
  clear hoc
  go_wp2
  go_loopw [5] (fun v wr => ∃ (out : List (List Int × Value)) (ir : Nat) (ar er : Int), ir ≤ L.length ∧ (out.length ≤ L.length + 1 ∧ (er = 0 → out.length ≤ ir)) ∧ Hid (Qs wr P A c L ir en vc vi ar er) ∧ Hid (Fr w wr P) ∧ Hid (wr.ownsRow w.heap.size 48 1 v out.length (out.flatMap lq)) ∧ Hid (∀ p ∈ out, Ux wr (Xv w.heap.size v) p.2 p.1) ∧ Hid (Lr L en n i a e (out.map (·.1)) ir ar er)) (fun _ wr => mQ wr P L.length)
  case atStart => exact ⟨[], i1, a1, e1, hi1, ⟨Nat.zero_le _, fun _ => Nat.zero_le _⟩, Lib.hid hp1, Lib.hid hf1, Lib.hid (World.ownsRow_nil _ _ _ _), Lib.hid (fun _ h => by cases h), HR⟩
  case round =>
    obtain ⟨out, ir, ar, er, hir, hol, HQ, HF, HO, HN, HR⟩ := hrel
    obtain ⟨hol, hol0⟩ := hol
    have c6 := HQ.out.c6
    by_cases hgo : er = 0 ∧ atB L ir 7 = false
    · obtain ⟨he, hat⟩ := hgo
      subst he
      have hA := qat_any HQ.out 7
      rw [hat] at hA
      have HA := Lib.hid hA
      clear hA
      go_wp2_with fail
      refine HA.out.mono ?_
      rintro r w2 ⟨rfl, hb2⟩
      clear HA
      have hU := qunits_any (HQ.out.over hb2) hir hL 0 (by decide) (by decide)
      have HU := Lib.hid hU
      clear hU c6
      go_wp2_with fail
      refine HU.out.mono ?_
      rintro r w3 ⟨vu, u, i2, a2, e2, rfl, hux, hq3, hi3, hf3, hoc⟩
      clear HU
      obtain ⟨Au, cu, hvu, _⟩ := id hux
      subst hvu
      have HR2 := Lib.hid (HR.out.step hat hoc)
      have hfr : Fr wr w3 P := ((Fr.refl wr P).over hb2).trans hf3
      have hown3 := own_fr HO.out hfr hlt
      have HU3 := Lib.hid hux
      have HQ3 := Lib.hid hq3
      have hsz := HF.out.size
      have hsz2 := hb2.size
      have hsz3 := hfr.size
      have hi2 : e2 = 0 → i2 = ir + 1 := by
        intro he
        rcases hoc with ⟨h1, _⟩ | ⟨_, _, h3, _⟩ | ⟨_, h2, _, _⟩
        · exact absurd rfl h1
        · exact absurd he h3
        · exact (unitm_ok h2).1
      have hol1 : out.length ≤ ir := hol0 (by first | exact rfl | trivial)
      clear hoc hux hq3
      go_wp2_with (at_builtin; refine wpList_append_lies _ rfl _ _ _ rfl w.heap.size 48 i0 (.slice none 0 0) 1 24 Tryz.underlying49 hi0 hz0 hz1 hz2 rfl (by omega) _ _ _ rfl (hown3.alloc _) ⟨w3.heap.size, 0, none⟩ 1 1 (lq (u, .slice Au u.length cu)) rfl rfl (World.news_of_block (heap_alloc_new w3 _)) (by intro x hx; simp [lq] at hx; subst hx; rfl) (by omega) (by unfold maxLen; omega) (by omega) (by simp; omega) _ rfl ?_; intro g cap w4 hown4 hgrow hat4 hgl)
      have hv : ∀ b, u5.ownBlock = some b → w.heap.size ≤ b ∧ b < wr.heap.size := HO.out.lt
      have hbel : Below w.heap.size (w3.alloc (.cells #[.slice Au u.length cu] 48)) w4 := (Below.refl _ _).grown hgrow (by simp; omega) (fun k hk => (hv k hk).1)
      have hbA : Below w3.heap.size w3 (w3.alloc (.cells #[.slice Au u.length cu] 48)) := (Below.refl _ _).alloc (Nat.le_refl _) _
      have hQ4 : Qs w4 P A c L i2 en vc vi a2 e2 := (HQ3.out.alloc _).bel hlt hbel
      have hat5 : u5.ownBlock = some g ∨ g = (w3.alloc (.cells #[.slice Au u.length cu] 48)).heap.size := hat4
      refine ⟨⟨out ++ [(u, .slice Au u.length cu)], i2, a2, e2, hi3, ⟨by simp; omega, fun he => by have := hi2 he; simp; omega⟩, Lib.hid hQ4, Lib.hid (((HF.out.trans hfr).alloc _).bel (Nat.le_refl _) hbel), Lib.hid (by rw [flat_snoc, List.length_append]; exact hown4), Lib.hid ?_, Lib.hid (by rw [List.map_append]; exact HR2.out)⟩, ?_⟩
      · intro p hp
        rcases List.mem_append.1 hp with hp | hp
        · exact (HN.out p hp).to (push_old hfr hlt hbA hgrow) (push_oldX (by simp; omega) hat5)
        · obtain rfl : p = (u, .slice Au u.length cu) := by simpa using hp
          exact HU3.out.to (push_new (M := w2.heap.size) (fun b hb => by have := (hv b hb).2; omega) hbA hgrow) (push_newX (by omega) (fun b hb => by have := (hv b hb).2; omega) (by simp) hat5)
      · rw [hQ4.mq, HQ.out.mq, if_pos rfl]
        by_cases he : e2 = 0
        · rw [if_pos he, hi2 he]; omega
        · rw [if_neg he]; omega
    · have hex : er ≠ 0 ∨ atB L ir 7 = true := by
        by_cases he : er = 0
        · right
          cases hb : atB L ir 7 with
          | true => rfl
          | false => exact absurd ⟨he, hb⟩ hgo
        · exact .inl he
      have HX := Lib.hid hex
      clear hgo
      have hAt : ∀ w', Below wr.heap.size wr w' → Calls Tryz.prog 73 #[.pointer (some ⟨P, 0, none⟩), .int .i64 7] w' fun r w'' => ∃ (t : Tk) (i' : Nat) (a' e' : Int), r = .returned (tv t) ∧ Qs w'' P A c L i' en vc vi a' e' ∧ i' ≤ L.length ∧ t.s.length ≤ 1048576 ∧ Fr w' w'' P ∧ Oc (takeT L en 7 ir) (fun x => x = noT) ir ar er t i' a' e' := fun w' hb => qtake_any (HQ.out.over hb) hir hL 7
      have HAt := Lib.hid hAt
      clear hAt
      obtain ⟨c', _, hc', A', hv, _⟩ : ∃ c', out.length = out.length ∧ out.length ≤ c' ∧ ∃ A', u5 = .slice A' out.length c' ∧ True := by
        rcases HO.out.2 with ⟨rfl, h0⟩ | ⟨g, cap, cur, rfl, hb, hg, hc, hm, hs, ht⟩
        · exact ⟨0, rfl, by omega, none, by rw [h0], trivial⟩
        · exact ⟨cap, rfl, hc, _, rfl, trivial⟩
      subst hv
      cases hq : ((out.length : Int) != n) with
      | true =>
        by_cases he : er = 0
        · subst he
          have hA := qat_any HQ.out 7
          have hat : atB L ir 7 = true := by rcases HX.out with h | h; exact absurd rfl h; exact h
          rw [hat] at hA
          have HA := Lib.hid hA
          clear hA hat
          go_wp2_with fail
          refine HA.out.mono ?_
          rintro r w2 ⟨rfl, hb2⟩
          clear HA
          go_wp2_with fail
          refine (HAt.out _ hb2).mono ?_
          rintro r w3 ⟨t, i2, a2, e2, rfl, hq3, hi3, _, hf3, hoc⟩
          have HD := Lib.hid (HR.out.done HX.out hoc)
          obtain ⟨kind, at_, n_, s⟩ := t
          unfold tv
          simp only
          clear HAt hoc
          have hfr : Fr wr w3 P := ((Fr.refl wr P).over hb2).trans hf3
          have hq3' := hq3.alloc (.cells #[.int .i64 kind, .int .i64 at_, .int .i64 n_, .string (str s)] 42)
          have hFl := qfail_any hq3' at_ 6
          have HFl := Lib.hid hFl
          clear hFl
          go_wp2_with (go_at_call 17; refine HFl.out.mono ?_; rintro r w4 ⟨rfl, hq4, hf4⟩)
          have hD := HD.out
          simp only [List.length_map] at hD
          rw [hq] at hD
          simp only [fA_t] at hq4
          have hfz := (hfr.alloc _).trans hf4
          refine bodyPost_ret (v := _) (by simp [results, Tryz.results116, go_sem]; try rfl) rfl ⟨_, out.map (·.1), i2, _, _, rfl, Lx.of_loop HO.out HN.out hfz hlt, hq4, hi3, HF.out.trans hfz, hD⟩
        · have te : (er == 0) = false := by rw [beq_eq_false_iff_ne]; exact he
          clear he
          go_wp2_with fail
          refine (HAt.out _ (Below.refl _ _)).mono ?_
          rintro r w3 ⟨t, i2, a2, e2, rfl, hq3, hi3, _, hf3, hoc⟩
          have HD := Lib.hid (HR.out.done HX.out hoc)
          obtain ⟨kind, at_, n_, s⟩ := t
          unfold tv
          simp only
          clear HAt hoc
          have hfr : Fr wr w3 P := hf3
          have hq3' := hq3.alloc (.cells #[.int .i64 kind, .int .i64 at_, .int .i64 n_, .string (str s)] 42)
          have hFl := qfail_any hq3' at_ 6
          have HFl := Lib.hid hFl
          clear hFl
          go_wp2_with (go_at_call 17; refine HFl.out.mono ?_; rintro r w4 ⟨rfl, hq4, hf4⟩)
          have hD := HD.out
          simp only [List.length_map] at hD
          rw [hq] at hD
          simp only [fA_t] at hq4
          have hfz := (hfr.alloc _).trans hf4
          refine bodyPost_ret (v := _) (by simp [results, Tryz.results116, go_sem]; try rfl) rfl ⟨_, out.map (·.1), i2, _, _, rfl, Lx.of_loop HO.out HN.out hfz hlt, hq4, hi3, HF.out.trans hfz, hD⟩
      | false =>
        by_cases he : er = 0
        · subst he
          have hA := qat_any HQ.out 7
          have hat : atB L ir 7 = true := by rcases HX.out with h | h; exact absurd rfl h; exact h
          rw [hat] at hA
          have HA := Lib.hid hA
          clear hA hat
          go_wp2_with fail
          refine HA.out.mono ?_
          rintro r w2 ⟨rfl, hb2⟩
          clear HA
          go_wp2_with fail
          refine (HAt.out _ hb2).mono ?_
          rintro r w3 ⟨t, i2, a2, e2, rfl, hq3, hi3, _, hf3, hoc⟩
          have HD := Lib.hid (HR.out.done HX.out hoc)
          obtain ⟨kind, at_, n_, s⟩ := t
          unfold tv
          simp only
          clear HAt hoc
          have hfr : Fr wr w3 P := ((Fr.refl wr P).over hb2).trans hf3
          have hq3' := hq3.alloc (.cells #[.int .i64 kind, .int .i64 at_, .int .i64 n_, .string (str s)] 42)
          go_wp2
          have hD := HD.out
          simp only [List.length_map] at hD
          rw [hq, fA_no, fE_no] at hD
          have hfz := hfr.alloc (.cells #[.int .i64 kind, .int .i64 at_, .int .i64 n_, .string (str s)] 42)
          refine bodyPost_ret (v := _) (by simp [results, Tryz.results116, go_sem]; try rfl) rfl ⟨_, rfl, out.map (·.1), Lx.of_loop HO.out HN.out hfz hlt, i2, _, _, hq3', hi3, HF.out.trans hfz, hD⟩
        · have te : (er == 0) = false := by rw [beq_eq_false_iff_ne]; exact he
          clear he
          go_wp2_with fail
          refine (HAt.out _ (Below.refl _ _)).mono ?_
          rintro r w3 ⟨t, i2, a2, e2, rfl, hq3, hi3, _, hf3, hoc⟩
          have HD := Lib.hid (HR.out.done HX.out hoc)
          obtain ⟨kind, at_, n_, s⟩ := t
          unfold tv
          simp only
          clear HAt hoc
          have hfr : Fr wr w3 P := hf3
          have hq3' := hq3.alloc (.cells #[.int .i64 kind, .int .i64 at_, .int .i64 n_, .string (str s)] 42)
          go_wp2
          have hD := HD.out
          simp only [List.length_map] at hD
          rw [hq, fA_no, fE_no] at hD
          have hfz := hfr.alloc (.cells #[.int .i64 kind, .int .i64 at_, .int .i64 n_, .string (str s)] 42)
          refine bodyPost_ret (v := _) (by simp [results, Tryz.results116, go_sem]; try rfl) rfl ⟨_, rfl, out.map (·.1), Lx.of_loop HO.out HN.out hfz hlt, i2, _, _, hq3', hi3, HF.out.trans hfz, hD⟩
end
end Go.Proofs.YthcnjiigkmljnaaGreatDoor
