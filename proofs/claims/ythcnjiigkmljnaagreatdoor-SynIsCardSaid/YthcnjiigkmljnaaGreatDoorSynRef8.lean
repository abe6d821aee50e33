/-
  The document's own parser: ahead of any tokens; units, in new memory; list.
-/
import Derived.Test.YthcnjiigkmljnaaGreatDoorPart7
import Derived.Test.YthcnjiigkmljnaaGreatDoorPart6
import Derived.Test.YthcnjiigkmljnaaGreatDoorSynDev8
namespace Go.Proofs.YthcnjiigkmljnaaGreatDoor
open Go.RowKit

section
variable {w w' : World} {P : Nat} {A : Option Addr} {c : Nat} {L : List Tk} {i : Nat} {en a e : Int}
theorem Ps.bel (h : Ps w P A c L i en a e) {S : Nat} (hS : P < S) (hb : Below S w w') : Ps w' P A c L i en a e :=
  ⟨(hb.cell (p := ⟨P, 0, none⟩) hS).trans h.c0, (hb.cell (p := ⟨P, 1, none⟩) hS).trans h.c1, (hb.cell (p := ⟨P, 2, none⟩) hS).trans h.c2, (hb.cell (p := ⟨P, 3, none⟩) hS).trans h.c3, (hb.cell (p := ⟨P, 4, none⟩) hS).trans h.c4,
    (hb.frozen (p := ⟨P, 1, none⟩) hS).trans h.z1, (hb.frozen (p := ⟨P, 3, none⟩) hS).trans h.z3, (hb.frozen (p := ⟨P, 4, none⟩) hS).trans h.z4, Nat.lt_of_lt_of_le h.lt hb.size, h.tl.below (hb.mono (Nat.le_of_lt hS))⟩
/-- How far the document's own parser still has to go: nothing with an error. -/
def mP (w : World) (P n : Nat) : Nat := match w.cell? ⟨P, 4, none⟩, w.cell? ⟨P, 1, none⟩ with
  | some (.int _ e), some (.int _ i) => if e = 0 then n + 1 - i.toNat else 0
  | _, _ => 0
theorem Ps.mp (h : Ps w P A c L i en a e) (n : Nat) : mP w P n = if e = 0 then n + 1 - i else 0 := by
  unfold mP
  rw [h.c4, h.c1]
  simp
end

set_option maxRecDepth 100000 in
set_option maxHeartbeats 4000000 in
theorem punits_new {w : World} {P : Nat} {A : Option Addr} {c : Nat} {L : List Tk} {i : Nat} {en a e : Int} (h : Ps w P A c L i en a e) (t : Tk) (ht : t.s.length ≤ 1048576) :
    Calls Tryz.prog 78 #[.pointer (some ⟨P, 0, none⟩), tv t] w fun r w' => ∃ v, r = .returned v ∧ Ux w' (fun b => b < w.heap.size) v (units t.s) ∧ Ps w' P A c L i en (if unitsT t = none ∧ e = 0 then t.at_ else a) (if unitsT t = none ∧ e = 0 then 3 else e) ∧ Fr w w' P := by
  obtain ⟨kind, at_, n, s⟩ := t
  simp only at ht
  unfold tv
  simp only
  have hlt := h.lt
  obtain ⟨cap, w2, hcv, hcell, _, hb2, hsz2, hcap⟩ := run_bytes (P := Tryz.prog) (w.alloc (.cells #[.int .i64 kind, .int .i64 at_, .int .i64 n, .string (str s)] 42)) 9 93 5 s Tryz.underlying9 Tryz.underlying93 Tryz.underlying5
  have hS1 : (w.alloc (.cells #[.int .i64 kind, .int .i64 at_, .int .i64 n, .string (str s)] 42)).heap.size = w.heap.size + 1 := by simp
  have hsl : Sl w2 w2.heap.size (some ⟨w.heap.size + 1, 0, none⟩) s := fun _ => ⟨_, 0, rfl, by rw [hS1] at hsz2; exact hsz2, fun j hj => by rw [Nat.zero_add, ← hS1]; exact hcell j hj⟩
  rw [hS1] at hcv
  have hU := rUnits_new (some ⟨w.heap.size + 1, 0, none⟩) cap s w2 hsl ht
  have HU := Lib.hid hU
  have hp2 := (h.alloc (.cells #[.int .i64 kind, .int .i64 at_, .int .i64 n, .string (str s)] 42)).over hb2
  have hf2 := ((Fr.refl w P).alloc (.cells #[.int .i64 kind, .int .i64 at_, .int .i64 n, .string (str s)] 42)).over hb2
  have k1 : w2.cell? ⟨w.heap.size, 1, none⟩ = some (.int .i64 at_) := (hb2.cell (p := ⟨w.heap.size, 1, none⟩) (by simp)).trans (by simp)
  clear hU hcell hsl h
  have hcs := units_cs kind at_ n s
  have hfin : ∃ aa ee, aa = (if unitsT ⟨kind, at_, n, s⟩ = none ∧ e = 0 then at_ else a) ∧ ee = (if unitsT ⟨kind, at_, n, s⟩ = none ∧ e = 0 then (3 : Int) else e) := ⟨_, _, rfl, rfl⟩
  obtain ⟨aa, ee, haa, hee⟩ := hfin
  rw [← haa, ← hee]
  generalize oddB s = od' at *
  generalize units s = us at *
  go_enter Tryz.func78, Tryz.ntmps78
  go_wp2_with fail
  refine HU.out.mono ?_
  rintro r w3 ⟨B, d, rfl, hd, hsi, hnew, hb3⟩
  have hP2 : P < w2.heap.size := hp2.lt
  have hT3 : w.heap.size < w2.heap.size := by have h1 := hb2.size; simp at h1; omega
  have hux : Ux w3 (fun b => b < w.heap.size) (.slice B us.length d) us := Ux.of_si hsi ⟨hd.1, fun e => hd.2 (by rw [e])⟩ (fun b o e _ => by have := hnew b o e; omega)
  have hp3 := hp2.over hb3
  have hf3 := hf2.over hb3
  have k3 := (hb3.cell (p := ⟨w.heap.size, 1, none⟩) hT3).trans k1
  clear hnew hsi HU
  rcases hcs with ⟨hn, hbad⟩ | ⟨hn, b1, b2, b3⟩
  · have hF := pfail_any hp3 at_ 3
    have e1 : (if unitsT ⟨kind, at_, n, s⟩ = none ∧ e = 0 then at_ else a) = (if e = 0 then at_ else a) := by simp [hn]
    have e2 : (if unitsT ⟨kind, at_, n, s⟩ = none ∧ e = 0 then (3 : Int) else e) = (if e = 0 then 3 else e) := by simp [hn]
    rw [← e1, ← e2, ← haa, ← hee] at hF
    have HF := Lib.hid hF
    clear hF e1 e2 hn haa hee
    rcases hbad with rfl | ⟨rfl, b2 | ⟨b2, b3⟩⟩
    all_goals
      go_wp2_with (go_at_call 19; refine HF.out.mono ?_; rintro r w4 ⟨rfl, hp4, hf4⟩)
      refine bodyPost_ret (v := _) (by simp [results, Tryz.results78, go_sem]; try rfl) rfl ⟨_, rfl, hux.to (Kp.of_fr hf4 (fun _ => hlt)) (fun _ _ h => h), hp4, hf3.trans hf4⟩
  · have e1 : (if unitsT ⟨kind, at_, n, s⟩ = none ∧ e = 0 then at_ else a) = a := if_neg (fun h => hn h.1)
    have e2 : (if unitsT ⟨kind, at_, n, s⟩ = none ∧ e = 0 then (3 : Int) else e) = e := if_neg (fun h => hn h.1)
    have hp3' := hp3
    rw [← haa.trans e1, ← hee.trans e2] at hp3'
    clear e1 e2 hn haa hee
    subst b1
    go_wp2
    refine bodyPost_ret (v := _) (by simp [results, Tryz.results78, go_sem]; try rfl) rfl ⟨_, rfl, hux, hp3', hf3⟩
/-- The next token's units, as the document's own parser takes them. -/
theorem unit_oc {L : List Tk} {en : Int} {i i1 : Nat} {a e a1 e1 : Int} {t : Tk} (h : Oc (takeT L en 4 i) (fun x => x = noT) i a e t i1 a1 e1) :
    Oc (unitmT L en 0 i) (fun _ => True) i a e (units t.s) i1 (if unitsT t = none ∧ e1 = 0 then t.at_ else a1) (if unitsT t = none ∧ e1 = 0 then 3 else e1) := by
  rw [unitm0]
  rcases h with ⟨h1, h2, h3, h4, _⟩ | ⟨h1, h2, h3, _⟩ | ⟨h1, h2, h3, h4⟩
  · rw [if_neg (by rintro ⟨_, h⟩; exact h1 (h4 ▸ h)), if_neg (by rintro ⟨_, h⟩; exact h1 (h4 ▸ h))]
    exact .inl ⟨h1, h2, h3, h4, trivial⟩
  · rw [if_neg (by rintro ⟨_, h⟩; exact h3 h), if_neg (by rintro ⟨_, h⟩; exact h3 h)]
    exact .inr (.inl ⟨h1, by unfold unitT; rw [h2, then_no, then_no], h3, trivial⟩)
  · cases hu : unitsT t with
    | none =>
      rw [if_pos ⟨rfl, h4⟩, if_pos ⟨rfl, h4⟩]
      exact .inr (.inl ⟨h1, by unfold unitT; rw [h2, then_ok, hu]; rfl, by decide, trivial⟩)
    | some u =>
      rw [if_neg (by rintro ⟨h, _⟩; cases h), if_neg (by rintro ⟨h, _⟩; cases h)]
      have e2 : u = units t.s := by
        unfold unitsT at hu
        by_cases hc : oddB t.s = false ∧ 1 ≤ (units t.s).length ∧ (units t.s).length ≤ 64
        · rw [if_pos hc] at hu; exact (Option.some.inj hu).symm
        · rw [if_neg hc] at hu; cases hu
      subst e2
      exact .inr (.inr ⟨h1, by unfold unitT; rw [h2, then_ok, hu]; rfl, h3, h4⟩)
theorem Lx.of_kp {wr wf : World} {B n : Nat} {e : TypeId} {v : Value} {out : List (List Int × Value)} (hown : wr.ownsRow B e 1 v n (out.flatMap lq)) (hn : ∀ p ∈ out, Ux wr (Xv B v) p.2 p.1) (hf : Kp wr wf (fun b => b < B)) : Lx wf (fun b => b < B) v (out.map (·.1)) :=
  ⟨out, rfl, (Rw.of_own lq_len (by decide) (own_kp hown hf (fun b hb h => by have := (hown.lt b hb).1; omega)) (fun b hb _ => by have := (hown.lt b hb).1; omega)).2, fun p hp => (hn p hp).to (hf.mono (fun _ _ h => .inl h)) (fun _ _ h => .inl h)⟩
/-- What list leaves. -/
def Pl (w : World) (P : Nat) (A : Option Addr) (c : Nat) (L : List Tk) (en n : Int) (i : Nat) (a e : Int) (r : Ending) (w' : World) : Prop :=
  ∃ (v : Value) (ll : List (List Int)) (i' : Nat) (a' e' : Int), r = .returned v ∧ Lx w' (fun b => b < w.heap.size) v ll ∧ Ps w' P A c L i' en a' e' ∧ i' ≤ L.length ∧ Fr w w' P ∧ Oc (listOT L en n i) (fun _ => True) i a e ll i' a' e'
section
variable {w : World} {P : Nat} {A : Option Addr} {c : Nat} {L : List Tk} {i : Nat} {en a e : Int}
set_option maxRecDepth 100000 in
set_option maxHeartbeats 8000000 in
theorem plist_any (h : Ps w P A c L i en a e) (hi : i ≤ L.length) (hL : Sm L) (n : Int) :
    Calls Tryz.prog 102 #[.pointer (some ⟨P, 0, none⟩), .int .i64 n] w (Pl w P A c L en n i a e) := by
  obtain ⟨i0, hi0, hz0, hz1, hz2⟩ := info_parts infoL
  have hlt := h.lt
  have hT := ptake_any h hi hL 6
  have HT := Lib.hid hT
  have hL1 := hL.1
  clear hT h
  go_enter Tryz.func102, Tryz.ntmps102
  go_wp2_with fail
  refine HT.out.mono ?_
  rintro r w1 ⟨t, i1, a1, e1, rfl, hp1, hi1, hts, hf1, hoc⟩
  clear HT
  have HR := Lib.hid (Lr.start (n := n) hoc)
  clear hoc
  go_wp2
  go_loopw [5] (fun v wr => ∃ (out : List (List Int × Value)) (ir : Nat) (ar er : Int), ir ≤ L.length ∧ (out.length ≤ L.length + 1 ∧ (er = 0 → out.length ≤ ir)) ∧ Hid (Ps wr P A c L ir en ar er) ∧ Hid (Fr w wr P) ∧ Hid (wr.ownsRow w.heap.size 48 1 v out.length (out.flatMap lq)) ∧ Hid (∀ p ∈ out, Ux wr (Xv w.heap.size v) p.2 p.1) ∧ Hid (Lr L en n i a e (out.map (·.1)) ir ar er)) (fun _ wr => mP wr P L.length)
  case atStart => exact ⟨[], i1, a1, e1, hi1, ⟨Nat.zero_le _, fun _ => Nat.zero_le _⟩, Lib.hid hp1, Lib.hid hf1, Lib.hid (World.ownsRow_nil _ _ _ _), Lib.hid (fun _ h => by cases h), HR⟩
  case round =>
    obtain ⟨out, ir, ar, er, hir, hol, HQ, HF, HO, HN, HR⟩ := hrel
    obtain ⟨hol, hol0⟩ := hol
    have c4 := HQ.out.c4
    have c0 := HQ.out.c0
    have c1 := HQ.out.c1
    have z1 := HQ.out.z1
    obtain ⟨A', c', hv, _⟩ := row_shape HO.out
    by_cases he : er = 0
    · subst he
      have hol1 : out.length ≤ ir := hol0 rfl
      clear hol0
      cases hat : atB L ir 7 with
      | true =>
        have hat2 := hat
        simp [atB] at hat2
        obtain ⟨b, o, hAe, hbP, hcl⟩ := HQ.out.tl (by omega)
        obtain ⟨g0, g1, _, _⟩ := hcl ir hat2.1
        subst hAe
        rw [hat2.2] at g0
        clear hcl
        have ti : decide (ir < L.length) = true := by simp; omega
        have htk : takeT L en 7 ir = .ok (tg L ir) (ir + 1) := by unfold takeT; rw [if_pos hat2.1, if_pos hat2.2]
        have hD := HR.out.done (.inr hat) (.inr (.inr ⟨rfl, htk, rfl, rfl⟩) : Oc (takeT L en 7 ir) (fun x => x = noT) ir ar 0 (tg L ir) (ir + 1) ar 0)
        simp only [List.length_map] at hD
        have hbw : b < wr.heap.size := by have := HQ.out.lt; omega
        generalize (tg L ir).at_ = q2 at *
        subst hv
        clear htk hat
        cases hq : ((out.length : Int) != n) with
        | true =>
          rw [hq, fA_yes, fE_yes] at hD
          have hF : ∀ w', Ps w' P (some ⟨b, o, none⟩) c L ir en ar 0 → Calls Tryz.prog 19 #[.pointer (some ⟨P, 0, none⟩), .int .i64 q2, .int .i64 6] w' fun r w'' => r = .returned (.tuple #[]) ∧ Ps w'' P (some ⟨b, o, none⟩) c L ir en q2 6 ∧ Fr w' w'' P := fun w' hq => by
            have := pfail_any hq q2 6
            rwa [if_pos rfl, if_pos rfl] at this
          have HFl := Lib.hid hF
          have HD := Lib.hid hD
          have HC : Hid (wr.cell? ⟨P, 0, none⟩ = some (.slice (some ⟨b, o, none⟩) L.length c) ∧ wr.cell? ⟨P, 1, none⟩ = some (.int .i64 (ir : Int)) ∧ wr.cell? ⟨b, o + ir * 4 + 1, none⟩ = some (.int .i64 q2)) := Lib.hid ⟨c0, c1, g1⟩
          clear hF hD
          go_wp2
          go_quiet (fail)
          go_wp2
          go_region_held (fun w' => w'.cell? ⟨P, 0, none⟩ = some (.slice (some ⟨b, o, none⟩) L.length c) ∧ w'.cell? ⟨P, 1, none⟩ = some (.int .i64 (ir : Int)) ∧ w'.cell? ⟨b, o + ir * 4 + 1, none⟩ = some (.int .i64 q2))
            (first | exact HC.out | exact hcells)
            ((go_at_call 19; refine (HFl.out _ (HQ.out.drewN _).drew).mono ?_; rintro r w2 ⟨rfl, hps, hfr⟩; have hcells : w2.cell? ⟨P, 0, none⟩ = some (.slice (some ⟨b, o, none⟩) L.length c) ∧ w2.cell? ⟨P, 1, none⟩ = some (.int .i64 (ir : Int)) ∧ w2.cell? ⟨b, o + ir * 4 + 1, none⟩ = some (.int .i64 q2) := ⟨hps.c0, hps.c1, (hfr.cell ⟨b, o + ir * 4 + 1, none⟩ hbw (by show b ≠ P; omega)).trans HC.out.2.2⟩))
          have c1' := hps.c1
          have z1' := hps.z1
          have hfr' : Fr wr w2 P := ((Fr.refl wr P).drewN _).drew.trans hfr
          have hpn := hps.next (ir + 1)
          have hfn := hfr'.set 1 (.int .i64 ((ir + 1 : Nat) : Int))
          have eir : (((ir + 1 : Nat) : Int)) = (ir : Int) + 1 := by omega
          rw [eir] at hpn hfn
          have HFin : Hid (Pl w P (some ⟨b, o, none⟩) c L en n i a e (.returned (.slice A' out.length c')) (w2.setCell ⟨P, 1, none⟩ (.int .i64 ((ir : Int) + 1)))) := Lib.hid ⟨_, out.map (·.1), ir + 1, q2, 6, rfl, Lx.of_loop HO.out HN.out hfn hlt, hpn, by omega, HF.out.trans hfn, HD.out⟩
          clear hps hfr hpn hfn hcells hfr'
          go_wp2
          refine bodyPost_ret (v := _) (by simp [results, Tryz.results102, go_sem]; try rfl) rfl HFin.out
        | false =>
          rw [hq, fA_no, fE_no] at hD
          have HD := Lib.hid hD
          clear hD
          have hfr' : ∀ m, Fr wr (wr.drewN m) P := fun m => (Fr.refl wr P).drewN m
          have hfin : ∀ m, Pl w P (some ⟨b, o, none⟩) c L en n i a e (.returned (.slice A' out.length c')) ((wr.drewN m).setCell ⟨P, 1, none⟩ (.int .i64 ((ir : Int) + 1))) := fun m => by
            have hpn := (HQ.out.drewN m).next (ir + 1)
            have hfn := (hfr' m).set 1 (.int .i64 ((ir + 1 : Nat) : Int))
            have eir : (((ir + 1 : Nat) : Int)) = (ir : Int) + 1 := by omega
            rw [eir] at hpn hfn
            exact ⟨_, out.map (·.1), ir + 1, ar, 0, rfl, Lx.of_loop HO.out HN.out hfn hlt, hpn, by omega, HF.out.trans hfn, HD.out⟩
          have HFin := Lib.hid hfin
          clear hfin hfr'
          go_wp2
          go_quiet (fail)
          go_wp2
          refine bodyPost_ret (v := _) (by simp [results, Tryz.results102, go_sem]; try rfl) rfl (HFin.out _)
      | false =>
        have hgo : decide (ir < L.length) = false ∨ (decide (ir < L.length) = true ∧ ∃ b o q1, A = some ⟨b, o, none⟩ ∧ b < P ∧ wr.cell? ⟨b, o + ir * 4, none⟩ = some (.int .i64 q1) ∧ (q1 == 7) = false) := by
          by_cases hi2 : ir < L.length
          · right
            refine ⟨by simpa using hi2, ?_⟩
            obtain ⟨b, o, hAe, hbP, hcl⟩ := HQ.out.tl (by omega)
            obtain ⟨g0, _, _, _⟩ := hcl ir hi2
            refine ⟨b, o, _, hAe, hbP, g0, ?_⟩
            have : ¬ (tg L ir).kind = 7 := by simpa [atB, hi2] using hat
            rw [beq_eq_false_iff_ne]; exact this
          · left; simpa using hi2
        have hTk : ∀ w', Below wr.heap.size wr w' → Calls Tryz.prog 79 #[.pointer (some ⟨P, 0, none⟩), .int .i64 4] w' fun r w'' => ∃ (t : Tk) (i' : Nat) (a' e' : Int), r = .returned (tv t) ∧ Ps w'' P A c L i' en a' e' ∧ i' ≤ L.length ∧ t.s.length ≤ 1048576 ∧ Fr w' w'' P ∧ Oc (takeT L en 4 ir) (fun x => x = noT) ir ar 0 t i' a' e' := fun w' hb => ptake_any (HQ.out.over hb) hir hL 4
        have HTk := Lib.hid hTk
        have HAt := Lib.hid hat
        clear hTk hat hv
        have hsz := HF.out.size
        rcases hgo with ti | ⟨ti, b, o, q1, hAe, hbP, g0, t7⟩
        · go_wp2
          go_quiet (fail)
          go_wp2_with fail
          refine (HTk.out _ (below_drewN (Below.refl _ _) _)).mono ?_
          rintro r w2 ⟨t, i2, a2, e2, rfl, hp2, hi2, hts, hf2, hoc⟩
          have hfr2 : Fr wr w2 P := ((Fr.refl wr P).drewN _).trans hf2
          clear HTk hf2
          have hU := punits_new hp2 t hts
          have HU := Lib.hid hU
          have hoc3 := unit_oc hoc
          clear hU hp2 hoc
          go_wp2_with fail
          refine HU.out.mono ?_
          rintro r w3 ⟨vu, rfl, hux, hq3, hf3⟩
          clear HU
          obtain ⟨a3, ha3⟩ : ∃ a3, a3 = (if unitsT t = none ∧ e2 = 0 then t.at_ else a2) := ⟨_, rfl⟩
          obtain ⟨e3, he3⟩ : ∃ e3, e3 = (if unitsT t = none ∧ e2 = 0 then (3 : Int) else e2) := ⟨_, rfl⟩
          rw [← ha3, ← he3] at hq3 hoc3
          clear ha3 he3
          generalize units t.s = u at *
          obtain ⟨Au, cu, hvu, _⟩ := id hux
          subst hvu
          have HR2 := Lib.hid (HR.out.step HAt.out hoc3)
          have hfr : Fr wr w3 P := hfr2.trans hf3
          have hown3 := own_fr HO.out hfr hlt
          have HU3 := Lib.hid hux
          have HQ3 := Lib.hid hq3
          have hsz2 := hfr2.size
          have hsz3 := hf3.size
          have hi3 : e3 = 0 → i2 = ir + 1 := by
            intro he
            rcases hoc3 with ⟨h1, _⟩ | ⟨_, _, h3, _⟩ | ⟨_, h2, _, _⟩
            · exact absurd rfl h1
            · exact absurd he h3
            · exact (unitm_ok h2).1
          clear hoc3 hux hq3
          go_wp2_with (at_builtin; refine wpList_append_lies _ rfl _ _ _ rfl w.heap.size 48 i0 (.slice none 0 0) 1 24 Tryz.underlying49 hi0 hz0 hz1 hz2 rfl (by omega) _ _ _ rfl (hown3.alloc _) ⟨w3.heap.size, 0, none⟩ 1 1 (lq (u, .slice Au u.length cu)) rfl rfl (World.news_of_block (heap_alloc_new w3 _)) (by intro x hx; simp [lq] at hx; subst hx; rfl) (by omega) (by unfold maxLen; omega) (by omega) (by simp; omega) _ rfl ?_; intro g cap w4 hown4 hgrow hat4 hgl)
          have hv : ∀ b, u5.ownBlock = some b → w.heap.size ≤ b ∧ b < wr.heap.size := HO.out.lt
          have hbel : Below w.heap.size (w3.alloc (.cells #[.slice Au u.length cu] 48)) w4 := (Below.refl _ _).grown hgrow (by simp; omega) (fun k hk => (hv k hk).1)
          have hbA : Below w3.heap.size w3 (w3.alloc (.cells #[.slice Au u.length cu] 48)) := (Below.refl _ _).alloc (Nat.le_refl _) _
          have hQ4 := (HQ3.out.alloc (.cells #[.slice Au u.length cu] 48)).bel hlt hbel
          have hat5 : u5.ownBlock = some g ∨ g = (w3.alloc (.cells #[.slice Au u.length cu] 48)).heap.size := hat4
          refine ⟨⟨out ++ [(u, .slice Au u.length cu)], i2, a3, e3, hi2, ⟨by simp; omega, fun he => by have := hi3 he; simp; omega⟩, Lib.hid hQ4, Lib.hid (((HF.out.trans hfr).alloc _).bel (Nat.le_refl _) hbel), Lib.hid (by rw [flat_snoc, List.length_append]; exact hown4), Lib.hid ?_, Lib.hid (by rw [List.map_append]; exact HR2.out)⟩, ?_⟩
          · intro p hp
            rcases List.mem_append.1 hp with hp | hp
            · exact (HN.out p hp).to (push_old hfr hlt hbA hgrow) (push_oldX (by simp; omega) hat5)
            · obtain rfl : p = (u, .slice Au u.length cu) := by simpa using hp
              exact HU3.out.to (push_new (M := w2.heap.size) (fun b hb => by have := (hv b hb).2; omega) hbA hgrow) (push_newX (by omega) (fun b hb => by have := (hv b hb).2; omega) (by simp) hat5)
          · rw [hQ4.mp, HQ.out.mp, if_pos rfl]
            by_cases he : e3 = 0
            · rw [if_pos he, hi3 he]; omega
            · rw [if_neg he]; omega
        · subst hAe
          have hbw : b < wr.heap.size := by have := HQ.out.lt; omega
          have hil : ir < L.length := by simpa using ti
          go_wp2
          go_quiet (fail)
          go_wp2_with fail
          refine (HTk.out _ (below_drewN (Below.refl _ _) _)).mono ?_
          rintro r w2 ⟨t, i2, a2, e2, rfl, hp2, hi2, hts, hf2, hoc⟩
          have hfr2 : Fr wr w2 P := ((Fr.refl wr P).drewN _).trans hf2
          clear HTk hf2 g0
          have hU := punits_new hp2 t hts
          have HU := Lib.hid hU
          have hoc3 := unit_oc hoc
          clear hU hp2 hoc
          go_wp2_with fail
          refine HU.out.mono ?_
          rintro r w3 ⟨vu, rfl, hux, hq3, hf3⟩
          clear HU
          obtain ⟨a3, ha3⟩ : ∃ a3, a3 = (if unitsT t = none ∧ e2 = 0 then t.at_ else a2) := ⟨_, rfl⟩
          obtain ⟨e3, he3⟩ : ∃ e3, e3 = (if unitsT t = none ∧ e2 = 0 then (3 : Int) else e2) := ⟨_, rfl⟩
          rw [← ha3, ← he3] at hq3 hoc3
          clear ha3 he3
          generalize units t.s = u at *
          obtain ⟨Au, cu, hvu, _⟩ := id hux
          subst hvu
          have HR2 := Lib.hid (HR.out.step HAt.out hoc3)
          have hfr : Fr wr w3 P := hfr2.trans hf3
          have hown3 := own_fr HO.out hfr hlt
          have HU3 := Lib.hid hux
          have HQ3 := Lib.hid hq3
          have hsz2 := hfr2.size
          have hsz3 := hf3.size
          have hi3 : e3 = 0 → i2 = ir + 1 := by
            intro he
            rcases hoc3 with ⟨h1, _⟩ | ⟨_, _, h3, _⟩ | ⟨_, h2, _, _⟩
            · exact absurd rfl h1
            · exact absurd he h3
            · exact (unitm_ok h2).1
          clear hoc3 hux hq3
          go_wp2_with (at_builtin; refine wpList_append_lies _ rfl _ _ _ rfl w.heap.size 48 i0 (.slice none 0 0) 1 24 Tryz.underlying49 hi0 hz0 hz1 hz2 rfl (by omega) _ _ _ rfl (hown3.alloc _) ⟨w3.heap.size, 0, none⟩ 1 1 (lq (u, .slice Au u.length cu)) rfl rfl (World.news_of_block (heap_alloc_new w3 _)) (by intro x hx; simp [lq] at hx; subst hx; rfl) (by omega) (by unfold maxLen; omega) (by omega) (by simp; omega) _ rfl ?_; intro g cap w4 hown4 hgrow hat4 hgl)
          have hv : ∀ b, u5.ownBlock = some b → w.heap.size ≤ b ∧ b < wr.heap.size := HO.out.lt
          have hbel : Below w.heap.size (w3.alloc (.cells #[.slice Au u.length cu] 48)) w4 := (Below.refl _ _).grown hgrow (by simp; omega) (fun k hk => (hv k hk).1)
          have hbA : Below w3.heap.size w3 (w3.alloc (.cells #[.slice Au u.length cu] 48)) := (Below.refl _ _).alloc (Nat.le_refl _) _
          have hQ4 := (HQ3.out.alloc (.cells #[.slice Au u.length cu] 48)).bel hlt hbel
          have hat5 : u5.ownBlock = some g ∨ g = (w3.alloc (.cells #[.slice Au u.length cu] 48)).heap.size := hat4
          refine ⟨⟨out ++ [(u, .slice Au u.length cu)], i2, a3, e3, hi2, ⟨by simp; omega, fun he => by have := hi3 he; simp; omega⟩, Lib.hid hQ4, Lib.hid (((HF.out.trans hfr).alloc _).bel (Nat.le_refl _) hbel), Lib.hid (by rw [flat_snoc, List.length_append]; exact hown4), Lib.hid ?_, Lib.hid (by rw [List.map_append]; exact HR2.out)⟩, ?_⟩
          · intro p hp
            rcases List.mem_append.1 hp with hp | hp
            · exact (HN.out p hp).to (push_old hfr hlt hbA hgrow) (push_oldX (by simp; omega) hat5)
            · obtain rfl : p = (u, .slice Au u.length cu) := by simpa using hp
              exact HU3.out.to (push_new (M := w2.heap.size) (fun b hb => by have := (hv b hb).2; omega) hbA hgrow) (push_newX (by omega) (fun b hb => by have := (hv b hb).2; omega) (by simp) hat5)
          · rw [hQ4.mp, HQ.out.mp, if_pos rfl]
            by_cases he : e3 = 0
            · rw [if_pos he, hi3 he]; omega
            · rw [if_neg he]; omega
    · have te : (er == 0) = false := by rw [beq_eq_false_iff_ne]; exact he
      have hD := HR.out.1 he (out.map (·.1))
      have HD := Lib.hid hD
      subst hv
      clear he hol0 hD
      go_wp2
      refine bodyPost_ret (v := _) (by simp [results, Tryz.results102, go_sem]; try rfl) rfl ⟨_, out.map (·.1), ir, ar, er, rfl, Lx.of_loop HO.out HN.out (Fr.refl _ P) hlt, HQ.out, hir, HF.out, HD.out⟩
end
end Go.Proofs.YthcnjiigkmljnaaGreatDoor
