/-
  The program's parser: section, where a number that may be stands ahead.
-/
import Derived.Test.YthcnjiigkmljnaaGreatDoorSynSec1
namespace Go.Proofs.YthcnjiigkmljnaaGreatDoor
open Go.RowKit

section
variable {w : World} {P : Nat} {A : Option Addr} {c : Nat} {L : List Tk} {i : Nat} {en a e : Int} {vc vi : Value} {acc : List Im}
set_option maxRecDepth 100000 in
set_option maxHeartbeats 8000000 in
theorem qsection_good (h : Qs w P A c L (i + 1) en vc vi a 0) (hj : Js w P vc vi [] acc) (hs : Sec w) (hgP : 0 < P) (hi : i < L.length) (hL : Sm L) (hal : acc.length ≤ 1048576) (t : Tk) (k : Nat) (hk2 : 2 ≤ k) (hk8 : k ≤ 8) (F : Nat)
    (hEnt : ∀ (w' : World) (i' : Nat) (a' e' : Int), Qs w' P A c L i' en vc vi a' e' → i' ≤ L.length → Calls Tryz.prog F #[.pointer (some ⟨P, 0, none⟩)] w' (Ep w' P A c L en vc vi (k : Int) i' a' e'))
    (hOf : ∀ w' : World, Calls Tryz.prog 71 #[.pointer (some ⟨P, 0, none⟩), .int .i64 (k : Int)] w' fun r w'' => r = .returned (.func (.func F) #[.pointer (some ⟨P, 0, none⟩)] #[]) ∧ w'' = w')
    (hCF : ∀ (args : Array Value) (w' : World), (callFunc F args).run Tryz.prog w' = .ok (.enter F args) w') (hg1 : (backT L i 1).kind = 1) (hg2 : ¬ ((backT L i 1).n < 0 ∨ 100 < (backT L i 1).n)) :
    Calls Tryz.prog 51 #[.pointer (some ⟨P, 0, none⟩), .int .i64 (k : Int), tv t] w (Wp w P A c L en vc a acc (secW L en t (backT L i 1) (k : Int) i)) := by
  obtain ⟨i0, hi0, hz0, hz1, hz2⟩ := info_parts infoI
  obtain ⟨e0, he0, hy0, hy1, hy2⟩ := info_parts infoE
  obtain ⟨d, hacc, hod, hnd⟩ := hj.oi
  obtain ⟨Ai, ci, hvie, _⟩ := row_shape hod
  subst hvie
  have hdl : d.length ≤ 1048576 := by rw [hacc, List.length_map] at hal; exact hal
  have hlt := h.lt
  have hL1 := hL.1
  have h1 : ∀ w', Qs w' P A c L (i + 1) en vc (.slice Ai d.length ci) a 0 → Calls Tryz.prog 70 #[.pointer (some ⟨P, 0, none⟩), .int .i64 1] w' fun r w'' => r = .returned (tv (backT L i 1)) ∧ Below w'.heap.size w' w'' := fun w' hq => qahead_any hq hi hL1 1 (by decide) (by decide)
  generalize backT L i 1 = ta at *
  obtain ⟨tk, tt, tn, ts⟩ := t
  obtain ⟨ak, at_, an, as_⟩ := ta
  unfold tv at *
  simp only at *
  have H1 := Lib.hid h1
  have HP := Lib.hid h
  have HJ := Lib.hid hj
  have HS := Lib.hid hs
  have HE := Lib.hid hEnt
  have HOf := Lib.hid hOf
  clear h1 h hj hs hEnt hOf
  go_enter Tryz.func51, Tryz.ntmps51
  go_wp2_with fail
  refine (H1.out _ (HP.out.alloc _)).mono ?_
  rintro r w1 ⟨rfl, hb1⟩
  have z1 := hb1.size
  simp at z1
  have hlw : w.heap.size < w1.heap.size := by omega
  have k5 : w1.cell? ⟨w.heap.size, 1, none⟩ = some (.int .i64 tt) := (hb1.cell (p := ⟨w.heap.size, 1, none⟩) (by simp)).trans (by simp)
  have hf1 : Fr w w1 P := ((Fr.refl w P).alloc (.cells #[.int .i64 tk, .int .i64 tt, .int .i64 tn, .string (str ts)] 42)).over hb1
  have hq1 := (HP.out.alloc (.cells #[.int .i64 tk, .int .i64 tt, .int .i64 tn, .string (str ts)] 42)).over hb1
  have nT : w.heap.size ≠ w1.heap.size := by omega
  have HQ := Lib.hid (hq1.alloc (.cells #[.int .i64 ak, .int .i64 at_, .int .i64 an, .string (str as_)] 42))
  have HF := Lib.hid (hf1.alloc (.cells #[.int .i64 ak, .int .i64 at_, .int .i64 an, .string (str as_)] 42))
  have hlt1 := hq1.lt
  clear hq1 hf1 hb1 H1
  have hd : secW L en ⟨tk, tt, tn, ts⟩ ⟨ak, at_, an, as_⟩ (k : Int) i = (secT L en (k : Int) an [] (i + 1)).then fun x j => .ok [⟨(k : Int), tt, [], noT, x⟩] j := by unfold secW; rw [if_pos hg1]; exact if_neg hg2
  have HD := Lib.hid hd
  have d1 : (ak != 1) = false := by simp [hg1]
  have d2 : decide (an < 0) = false := by simp; omega
  have d3 : decide ((100 : Int) < an) = false := by simp; omega
  have hvi : ∀ b, (Value.slice Ai d.length ci).ownBlock = some b → P < b ∧ b < w.heap.size := fun b hb => ⟨(hod.lt b hb).1, (hod.lt b hb).2⟩
  have HVi := Lib.hid hvi
  have HOD := Lib.hid hod
  have HND := Lib.hid hnd
  have HAcc := Lib.hid hacc
  have zc : (w1.alloc (.cells #[.int .i64 ak, .int .i64 at_, .int .i64 an, .string (str as_)] 42)).heap.size = w1.heap.size + 1 := by simp
  have k6 : (w1.alloc (.cells #[.int .i64 ak, .int .i64 at_, .int .i64 an, .string (str as_)] 42)).cell? ⟨w1.heap.size, 2, none⟩ = some (.int .i64 an) := by simp
  have k5c : (w1.alloc (.cells #[.int .i64 ak, .int .i64 at_, .int .i64 an, .string (str as_)] 42)).cell? ⟨w.heap.size, 1, none⟩ = some (.int .i64 tt) := (World.cell?_alloc_lt _ _ _ hlw).trans k5
  have hsC : Sec (w1.alloc (.cells #[.int .i64 ak, .int .i64 at_, .int .i64 an, .string (str as_)] 42)) := (HS.out.fr HF.out hgP)
  have HSC := Lib.hid hsC
  have hwl := wordL_le (k : Int)
  have hap : ByteArray.mk #[101, 110, 100] ++ str (wordL (k : Int)) = str (endL (k : Int)) := str_append [101, 110, 100] (wordL (k : Int))
  clear hd hg1 hg2 hvi hod hnd k5 hsC hacc
  go_wp2_with fail
  refine (HOf.out _).mono ?_
  rintro r wo ⟨rfl, rfl⟩
  generalize hgen : (w1.alloc (.cells #[.int .i64 ak, .int .i64 at_, .int .i64 an, .string (str as_)] 42)) = wc at *
  clear hgen
  go_wp2
  go_loopw [8] (fun v wr => ∃ (out : List (En × Value × Value)) (ir : Nat) (ar er : Int), ir ≤ L.length ∧ (out.length ≤ L.length + 1 ∧ (er = 0 → out.length ≤ ir)) ∧ Hid (Qs wr P A c L ir en vc (.slice Ai d.length ci) ar er) ∧ Hid (Fr wc wr P) ∧ Hid (wr.ownsRow wc.heap.size 51 7 v out.length (out.flatMap dq)) ∧ Hid (∀ p ∈ out, Eo wr (Xv wc.heap.size v) p) ∧ Hid (SecR L en (k : Int) an (i + 1) a (out.map (·.1)) ir ar er)) (fun _ wr => mQ wr P L.length)
  case atStart => exact ⟨[], i + 1, a, 0, hi, ⟨Nat.zero_le _, fun _ => Nat.zero_le _⟩, HQ, Lib.hid (Fr.refl _ _), Lib.hid (World.ownsRow_nil _ _ _ _), Lib.hid (fun _ h => by cases h), Lib.hid ⟨fun h => absurd rfl h, fun _ => ⟨rfl, rfl⟩⟩⟩
  case round =>
    obtain ⟨out, ir, ar, er, hir, hol, HQr, HFr, HO, HN, HR⟩ := hrel
    obtain ⟨hol, hol0⟩ := hol
    have hltc : P < wc.heap.size := by omega
    have c6 := HQr.out.c6
    have hsec := (HSC.out.fr HFr.out hgP) k (by omega)
    by_cases hgo : er = 0 ∧ atW L ir (endL (k : Int)) = false
    · obtain ⟨he, hat⟩ := hgo
      subst he
      have hA := qatWord_any HQr.out (endL (k : Int))
      rw [hat] at hA
      have HA := Lib.hid hA
      clear hA
      generalize wordL (k : Int) = wd at *
      go_wp2_with fail
      refine HA.out.mono ?_
      rintro r w2 ⟨rfl, hb2⟩
      clear HA
      have hE := HE.out w2 ir ar 0 (HQr.out.over hb2) hir
      have HEr := Lib.hid hE
      clear hE c6 hsec
      go_wp2_with fail
      refine HEr.out.mono ?_
      rintro r w3 ⟨p, i2, a2, e2, rfl, heo, hq3, hi3, hf3, hoc⟩
      clear HEr
      obtain ⟨x, vu, vl⟩ := p
      obtain ⟨Au, cu, hvu, _⟩ := id heo.1
      obtain ⟨Al, nl, cl, hvl⟩ := Lx.shape heo.2
      simp only at hvu hvl
      subst hvu
      subst hvl
      unfold entV
      simp only
      have HR2 := Lib.hid (HR.out.step hat hoc)
      have hfr : Fr wr w3 P := ((Fr.refl wr P).over hb2).trans hf3
      have hown3 := own_fr HO.out hfr hltc
      have HU3 := Lib.hid heo
      have HQ3 := Lib.hid hq3
      have hsz := HFr.out.size
      have hsz2 := hb2.size
      have hsz3 := hfr.size
      have hi2 : e2 = 0 → ir + 1 ≤ i2 := by
        intro he
        rcases hoc with ⟨h1, _⟩ | ⟨_, _, h3, _⟩ | ⟨_, h2, _, _⟩
        · exact absurd rfl h1
        · exact absurd he h3
        · exact (ent_ok h2).1
      have hol1 : out.length ≤ ir := hol0 (by first | exact rfl | trivial)
      clear hoc heo hq3
      go_wp2_with (at_builtin; refine wpList_append_lies _ rfl _ _ _ rfl wc.heap.size 51 e0 (.agg #[.int .i64 0, .int .i64 0, .int .i64 0, .int .i64 0, .int .i64 0, .slice none 0 0, .slice none 0 0]) 7 88 Tryz.underlying43 he0 hy0 hy1 hy2 rfl (by omega) _ _ _ rfl (hown3.alloc _) ⟨w3.heap.size, 0, none⟩ 1 1 (dq (x, .slice Au x.u.length cu, .slice Al nl cl)) rfl rfl (World.news_of_block (heap_alloc_new w3 _)) (dq_one _ rfl rfl) (by omega) (by unfold maxLen; omega) (by omega) (by simp; omega) _ rfl ?_; intro g cap w4 hown4 hgrow hat4 hgl)
      have hv : ∀ b, u8.ownBlock = some b → wc.heap.size ≤ b ∧ b < wr.heap.size := HO.out.lt
      have hbel : Below wc.heap.size (w3.alloc (.cells #[.int .i64 x.lo.n, .int .i64 x.lo.v, .int .i64 x.hi.n, .int .i64 x.hi.v, .int .i64 x.to, .slice Au x.u.length cu, .slice Al nl cl] 51)) w4 := (Below.refl _ _).grown hgrow (by simp; omega) (fun k hk => (hv k hk).1)
      have hbA : Below w3.heap.size w3 (w3.alloc (.cells #[.int .i64 x.lo.n, .int .i64 x.lo.v, .int .i64 x.hi.n, .int .i64 x.hi.v, .int .i64 x.to, .slice Au x.u.length cu, .slice Al nl cl] 51)) := (Below.refl _ _).alloc (Nat.le_refl _) _
      have hQ4 : Qs w4 P A c L i2 en vc (.slice Ai d.length ci) a2 e2 := (HQ3.out.alloc _).bel hltc hbel
      have hat5 : u8.ownBlock = some g ∨ g = (w3.alloc (.cells #[.int .i64 x.lo.n, .int .i64 x.lo.v, .int .i64 x.hi.n, .int .i64 x.hi.v, .int .i64 x.to, .slice Au x.u.length cu, .slice Al nl cl] 51)).heap.size := hat4
      refine ⟨⟨out ++ [(x, .slice Au x.u.length cu, .slice Al nl cl)], i2, a2, e2, hi3, ⟨by simp; omega, fun he => by have := hi2 he; simp; omega⟩, Lib.hid hQ4, Lib.hid (((HFr.out.trans hfr).alloc _).bel (Nat.le_refl _) hbel), Lib.hid (by rw [flat_snoc, List.length_append]; exact hown4), Lib.hid ?_, Lib.hid (by rw [List.map_append]; exact HR2.out)⟩, ?_⟩
      · intro p hp
        rcases List.mem_append.1 hp with hp | hp
        · exact (HN.out p hp).to (push_old hfr hltc hbA hgrow) (push_oldX (by simp; omega) hat5)
        · obtain rfl : p = (x, .slice Au x.u.length cu, .slice Al nl cl) := by simpa using hp
          exact HU3.out.to (push_new (M := w2.heap.size) (fun b hb => by have := (hv b hb).2; omega) hbA hgrow) (push_newX (by omega) (fun b hb => by have := (hv b hb).2; omega) (by simp) hat5)
      · rw [hQ4.mq, HQr.out.mq, if_pos rfl]
        by_cases he : e2 = 0
        · rw [if_pos he]; have := hi2 he; omega
        · rw [if_neg he]; omega
    · have hex : er ≠ 0 ∨ atW L ir (endL (k : Int)) = true := by
        by_cases he : er = 0
        · right
          cases hb : atW L ir (endL (k : Int)) with
          | true => rfl
          | false => exact absurd ⟨he, hb⟩ hgo
        · exact .inl he
      have HX := Lib.hid hex
      clear hgo hex
      have hAt : ∀ w', Below wr.heap.size wr w' → Calls Tryz.prog 73 #[.pointer (some ⟨P, 0, none⟩), .int .i64 3] w' fun r w'' => ∃ (t : Tk) (i' : Nat) (a' e' : Int), r = .returned (tv t) ∧ Qs w'' P A c L i' en vc (.slice Ai d.length ci) a' e' ∧ i' ≤ L.length ∧ t.s.length ≤ 1048576 ∧ Fr w' w'' P ∧ Oc (takeT L en 3 ir) (fun x => x = noT) ir ar er t i' a' e' := fun w' hb => qtake_any (HQr.out.over hb) hir hL 3
      have HAt := Lib.hid hAt
      clear hAt
      obtain ⟨A', c', hv8, _⟩ := row_shape HO.out
      subst hv8
      -- what is left, from a world in which the end has been found
      have hEnd : ∀ (wz : World) (iz : Nat) (az ez : Int), Qs wz P A c L iz en vc (.slice Ai d.length ci) az ez → iz ≤ L.length → Fr wr wz P → SecD L en (k : Int) an (i + 1) a (out.map (·.1)) iz az ez → ∀ (g n cap : Nat) (w3 : World), ((wz.alloc (.cells #[.int .i64 (k : Int), .int .i64 tt, .string ⟨#[]⟩, .int .i64 0, .int .i64 0, .int .i64 0, .string ⟨#[]⟩, .slice A' out.length c'] 45)).drew).grownBy w3 (Value.slice Ai d.length ci).ownBlock → ((Value.slice Ai d.length ci).ownBlock = some g ∨ g = ((wz.alloc (.cells #[.int .i64 (k : Int), .int .i64 tt, .string ⟨#[]⟩, .int .i64 0, .int .i64 0, .int .i64 0, .string ⟨#[]⟩, .slice A' out.length c'] 45)).drew).heap.size) → w3.ownsRow (P + 1) 45 8 (.slice (some ⟨g, 0, none⟩) n cap) (d.length + 1) (d.flatMap iq ++ iq ((⟨(k : Int), tt, [], noT, out.map (·.1)⟩ : Im), .slice A' out.length c')) → Wp w P A c L en vc a acc (secW L en ⟨tk, tt, tn, ts⟩ ⟨ak, at_, an, as_⟩ (k : Int) i) (.returned (.tuple #[])) (w3.setCell ⟨P, 4, none⟩ (.slice (some ⟨g, 0, none⟩) n cap)) := fun wz iz az ez hqz hiz hfz hD g n cap w3 hgrow hat hown3 => by
        have hq3 := ((hqz.alloc (.cells #[.int .i64 (k : Int), .int .i64 tt, .string ⟨#[]⟩, .int .i64 0, .int .i64 0, .int .i64 0, .string ⟨#[]⟩, .slice A' out.length c'] 45)).drew).grown hgrow (fun b hb => (HVi.out b hb).1)
        have hfw : Fr w ((wz.alloc (.cells #[.int .i64 (k : Int), .int .i64 tt, .string ⟨#[]⟩, .int .i64 0, .int .i64 0, .int .i64 0, .string ⟨#[]⟩, .slice A' out.length c'] 45)).drew) P := ((((HF.out.trans HFr.out)).trans hfz).alloc _).drew
        have hb3 : Below P w ((wz.alloc (.cells #[.int .i64 (k : Int), .int .i64 tt, .string ⟨#[]⟩, .int .i64 0, .int .i64 0, .int .i64 0, .string ⟨#[]⟩, .slice A' out.length c'] 45)).drew) := hfw.below (Nat.le_of_lt hlt) (Nat.le_refl _)
        refine ⟨rfl, (hb3.grown hgrow (by have := hfw.size; omega) (fun b hb => Nat.le_of_lt (HVi.out b hb).1)).setCell (p := ⟨P, 4, none⟩) (Nat.le_refl _) _, ?_⟩
        rcases hD with ⟨h1, h2⟩ | ⟨h1, h2, h3⟩
        · exact .inl ⟨az, ez, iz, _, by rw [HD.out, h2, then_no], h1, hq3.setI _⟩
        · subst h1 h2
          have hex : Ex ((wz.alloc (.cells #[.int .i64 (k : Int), .int .i64 tt, .string ⟨#[]⟩, .int .i64 0, .int .i64 0, .int .i64 0, .string ⟨#[]⟩, .slice A' out.length c'] 45)).drew) (fun b => b < w.heap.size) (.slice A' out.length c') (out.map (·.1)) := (Ex.of_loop HO.out HN.out (hfz.alloc _).drew hltc).to (Kp.refl _ _) (fun b _ hb => by show b < wc.heap.size; omega)
          exact .inr ⟨[(⟨(k : Int), tt, [], noT, out.map (·.1)⟩ : Im)], iz, _, by rw [HD.out, h3, then_ok], hiz, hq3.setI _, HJ.out.item hlt hfw hex hgrow hat d HAcc.out HOD.out HND.out hown3⟩
      have hCl : ∀ (wz : World) (iz : Nat) (az ez : Int), Qs wz P A c L iz en vc (.slice Ai d.length ci) az ez → ∀ w3 : World, ((wz.alloc (.cells #[.int .i64 (k : Int), .int .i64 tt, .string ⟨#[]⟩, .int .i64 0, .int .i64 0, .int .i64 0, .string ⟨#[]⟩, .slice A' out.length c'] 45)).drew).grownBy w3 (Value.slice Ai d.length ci).ownBlock → w3.cell? ⟨P, 4, none⟩ = some (.slice Ai d.length ci) ∧ w3.frozen? ⟨P, 4, none⟩ = false := fun wz iz az ez hqz w3 hgrow => by
        have hq3 := ((hqz.alloc (.cells #[.int .i64 (k : Int), .int .i64 tt, .string ⟨#[]⟩, .int .i64 0, .int .i64 0, .int .i64 0, .string ⟨#[]⟩, .slice A' out.length c'] 45)).drew).grown hgrow (fun b hb => (HVi.out b hb).1)
        exact ⟨hq3.c4, hq3.z4⟩
      have HEnd := Lib.hid hEnd
      have HCl := Lib.hid hCl
      clear hEnd hCl
      cases hq : ((out.length : Int) != an) with
      | true =>
        by_cases he : er = 0
        · subst he
          have hA := qatWord_any HQr.out (endL (k : Int))
          have hat : atW L ir (endL (k : Int)) = true := by rcases HX.out with h | h; exact absurd rfl h; exact h
          rw [hat] at hA
          have HA := Lib.hid hA
          clear hA hat
          generalize wordL (k : Int) = wd at *
          go_wp2_with fail
          refine HA.out.mono ?_
          rintro r w2 ⟨rfl, hb2⟩
          clear HA
          go_wp2_with fail
          refine (HAt.out _ hb2).mono ?_
          rintro r w3 ⟨t, i2, a2, e2, rfl, hq3, hi3, _, hf3, hoc⟩
          have HDn := Lib.hid (HR.out.done HX.out hoc)
          obtain ⟨lk, lt_, ln_, ls⟩ := t
          unfold tv
          simp only
          clear HAt hoc
          have hfr : Fr wr w3 P := ((Fr.refl wr P).over hb2).trans hf3
          have hq3' := hq3.alloc (.cells #[.int .i64 lk, .int .i64 lt_, .int .i64 ln_, .string (str ls)] 42)
          have hsz := HFr.out.size
          have hsz3 := hfr.size
          have m6 : w3.cell? ⟨w1.heap.size, 2, none⟩ = some (.int .i64 an) := ((HFr.out.trans hfr).cell ⟨w1.heap.size, 2, none⟩ (by show w1.heap.size < _; omega) (by show w1.heap.size ≠ P; omega)).trans k6
          have m5 : w3.cell? ⟨w.heap.size, 1, none⟩ = some (.int .i64 tt) := ((HFr.out.trans hfr).cell ⟨w.heap.size, 1, none⟩ (by show w.heap.size < _; omega) (by show w.heap.size ≠ P; omega)).trans k5c
          have l6 : w1.heap.size < w3.heap.size := by omega
          have l5 : w.heap.size < w3.heap.size := by omega
          have hlt3 := hq3.lt
          have HQ3 := Lib.hid hq3'
          clear hq3 hq3'
          have hFl := qfail_any HQ3.out lt_ 6
          have HFl := Lib.hid hFl
          clear hFl
          go_wp2_with fail
          refine HFl.out.mono ?_
          rintro r wz ⟨rfl, hqz, hfz⟩
          have hD := HDn.out
          simp only [List.length_map] at hD
          rw [hq] at hD
          simp only [fA_t] at hqz
          have hfz' := (hfr.alloc _).trans hfz
          have z5 : wz.cell? ⟨w.heap.size, 1, none⟩ = some (.int .i64 tt) := (hfz.cell ⟨w.heap.size, 1, none⟩ (by simp; omega) (by show w.heap.size ≠ P; omega)).trans ((World.cell?_alloc_lt _ _ _ l5).trans m5)
          have c4 := hqz.c4
          have hltz := hqz.lt
          have l5z : w.heap.size < wz.heap.size := by have := hfz.size; simp at this; omega
          have hownz := own_fr HOD.out ((HF.out.trans HFr.out).trans hfz') (Nat.lt_succ_self P)
          have HEz := Lib.hid (HEnd.out wz i2 _ _ hqz hi3 hfz' hD)
          have HCz := Lib.hid (HCl.out wz i2 _ _ hqz)
          have nPz : P ≠ wz.heap.size := by omega
          have HOwn := Lib.hid hownz
          clear hD hqz hfz hfz' HFl hownz
          go_wp2_with fail
          go_region_law ((refine step_append_lies _ (by rfl) _ _ _ (by rfl) (P + 1) 45 i0 (.agg #[.int .i64 0, .int .i64 0, .string ⟨#[]⟩, .int .i64 0, .int .i64 0, .int .i64 0, .string ⟨#[]⟩, .slice none 0 0]) 8 96 Tryz.underlying25 hi0 hz0 hz1 hz2 rfl (by omega) (.slice Ai d.length ci) d.length (d.flatMap iq) (by rfl) (HOwn.out.alloc _).drew ⟨wz.heap.size, 0, none⟩ 1 1 (iq ((⟨(k : Int), tt, [], noT, out.map (·.1)⟩ : Im), .slice A' out.length c')) (by rfl) (by rfl) (World.news_of_block (heap_alloc_1 wz _)) (iq_one' _ rfl) (by omega) (by unfold maxLen; omega) (by omega) (by simp; omega) _ rfl ?_; intro g cap w5 hown5 hgrow5 hat5 hgl5; obtain ⟨e4, ez4⟩ := HCz.out w5 hgrow5))
          all_goals
            have HZ := Lib.hid (HEz.out g (d.length + 1) cap w5 hgrow5 hat5 hown5)
            go_wp2_with (with_reducible exact end0 Tryz.results51 rfl HZ.out)
        · have te : (er == 0) = false := by rw [beq_eq_false_iff_ne]; exact he
          clear he
          generalize wordL (k : Int) = wd at *
          go_wp2_with fail
          refine (HAt.out _ (Below.refl _ _)).mono ?_
          rintro r w3 ⟨t, i2, a2, e2, rfl, hq3, hi3, _, hf3, hoc⟩
          have HDn := Lib.hid (HR.out.done HX.out hoc)
          obtain ⟨lk, lt_, ln_, ls⟩ := t
          unfold tv
          simp only
          clear HAt hoc
          have hfr : Fr wr w3 P := hf3
          have hq3' := hq3.alloc (.cells #[.int .i64 lk, .int .i64 lt_, .int .i64 ln_, .string (str ls)] 42)
          have hsz := HFr.out.size
          have hsz3 := hfr.size
          have m6 : w3.cell? ⟨w1.heap.size, 2, none⟩ = some (.int .i64 an) := ((HFr.out.trans hfr).cell ⟨w1.heap.size, 2, none⟩ (by show w1.heap.size < _; omega) (by show w1.heap.size ≠ P; omega)).trans k6
          have m5 : w3.cell? ⟨w.heap.size, 1, none⟩ = some (.int .i64 tt) := ((HFr.out.trans hfr).cell ⟨w.heap.size, 1, none⟩ (by show w.heap.size < _; omega) (by show w.heap.size ≠ P; omega)).trans k5c
          have l6 : w1.heap.size < w3.heap.size := by omega
          have l5 : w.heap.size < w3.heap.size := by omega
          have hlt3 := hq3.lt
          have HQ3 := Lib.hid hq3'
          clear hq3 hq3'
          have hFl := qfail_any HQ3.out lt_ 6
          have HFl := Lib.hid hFl
          clear hFl
          go_wp2_with fail
          refine HFl.out.mono ?_
          rintro r wz ⟨rfl, hqz, hfz⟩
          have hD := HDn.out
          simp only [List.length_map] at hD
          rw [hq] at hD
          simp only [fA_t] at hqz
          have hfz' := (hfr.alloc _).trans hfz
          have z5 : wz.cell? ⟨w.heap.size, 1, none⟩ = some (.int .i64 tt) := (hfz.cell ⟨w.heap.size, 1, none⟩ (by simp; omega) (by show w.heap.size ≠ P; omega)).trans ((World.cell?_alloc_lt _ _ _ l5).trans m5)
          have c4 := hqz.c4
          have hltz := hqz.lt
          have l5z : w.heap.size < wz.heap.size := by have := hfz.size; simp at this; omega
          have hownz := own_fr HOD.out ((HF.out.trans HFr.out).trans hfz') (Nat.lt_succ_self P)
          have HEz := Lib.hid (HEnd.out wz i2 _ _ hqz hi3 hfz' hD)
          have HCz := Lib.hid (HCl.out wz i2 _ _ hqz)
          have nPz : P ≠ wz.heap.size := by omega
          have HOwn := Lib.hid hownz
          clear hD hqz hfz hfz' HFl hownz
          go_wp2_with fail
          go_region_law ((refine step_append_lies _ (by rfl) _ _ _ (by rfl) (P + 1) 45 i0 (.agg #[.int .i64 0, .int .i64 0, .string ⟨#[]⟩, .int .i64 0, .int .i64 0, .int .i64 0, .string ⟨#[]⟩, .slice none 0 0]) 8 96 Tryz.underlying25 hi0 hz0 hz1 hz2 rfl (by omega) (.slice Ai d.length ci) d.length (d.flatMap iq) (by rfl) (HOwn.out.alloc _).drew ⟨wz.heap.size, 0, none⟩ 1 1 (iq ((⟨(k : Int), tt, [], noT, out.map (·.1)⟩ : Im), .slice A' out.length c')) (by rfl) (by rfl) (World.news_of_block (heap_alloc_1 wz _)) (iq_one' _ rfl) (by omega) (by unfold maxLen; omega) (by omega) (by simp; omega) _ rfl ?_; intro g cap w5 hown5 hgrow5 hat5 hgl5; obtain ⟨e4, ez4⟩ := HCz.out w5 hgrow5))
          all_goals
            have HZ := Lib.hid (HEz.out g (d.length + 1) cap w5 hgrow5 hat5 hown5)
            go_wp2_with (with_reducible exact end0 Tryz.results51 rfl HZ.out)
      | false =>
        by_cases he : er = 0
        · subst he
          have hA := qatWord_any HQr.out (endL (k : Int))
          have hat : atW L ir (endL (k : Int)) = true := by rcases HX.out with h | h; exact absurd rfl h; exact h
          rw [hat] at hA
          have HA := Lib.hid hA
          clear hA hat
          generalize wordL (k : Int) = wd at *
          go_wp2_with fail
          refine HA.out.mono ?_
          rintro r w2 ⟨rfl, hb2⟩
          clear HA
          go_wp2_with fail
          refine (HAt.out _ hb2).mono ?_
          rintro r w3 ⟨t, i2, a2, e2, rfl, hq3, hi3, _, hf3, hoc⟩
          have HDn := Lib.hid (HR.out.done HX.out hoc)
          obtain ⟨lk, lt_, ln_, ls⟩ := t
          unfold tv
          simp only
          clear HAt hoc
          have hfr : Fr wr w3 P := ((Fr.refl wr P).over hb2).trans hf3
          have hq3' := hq3.alloc (.cells #[.int .i64 lk, .int .i64 lt_, .int .i64 ln_, .string (str ls)] 42)
          have hsz := HFr.out.size
          have hsz3 := hfr.size
          have m6 : w3.cell? ⟨w1.heap.size, 2, none⟩ = some (.int .i64 an) := ((HFr.out.trans hfr).cell ⟨w1.heap.size, 2, none⟩ (by show w1.heap.size < _; omega) (by show w1.heap.size ≠ P; omega)).trans k6
          have m5 : w3.cell? ⟨w.heap.size, 1, none⟩ = some (.int .i64 tt) := ((HFr.out.trans hfr).cell ⟨w.heap.size, 1, none⟩ (by show w.heap.size < _; omega) (by show w.heap.size ≠ P; omega)).trans k5c
          have l6 : w1.heap.size < w3.heap.size := by omega
          have l5 : w.heap.size < w3.heap.size := by omega
          have hlt3 := hq3.lt
          have HQ3 := Lib.hid hq3'
          clear hq3 hq3'
          have hD := HDn.out
          simp only [List.length_map] at hD
          rw [hq, fA_no, fE_no] at hD
          have hfz' := hfr.alloc (.cells #[.int .i64 lk, .int .i64 lt_, .int .i64 ln_, .string (str ls)] 42)
          have c4 := HQ3.out.c4
          have z5 : (w3.alloc (.cells #[.int .i64 lk, .int .i64 lt_, .int .i64 ln_, .string (str ls)] 42)).cell? ⟨w.heap.size, 1, none⟩ = some (.int .i64 tt) := (World.cell?_alloc_lt _ _ _ l5).trans m5
          have hownz := own_fr HOD.out ((HF.out.trans HFr.out).trans hfz') (Nat.lt_succ_self P)
          have HEz := Lib.hid (HEnd.out _ i2 _ _ HQ3.out hi3 hfz' hD)
          have HCz := Lib.hid (HCl.out _ i2 _ _ HQ3.out)
          have nPz : P ≠ w3.heap.size := by omega
          have nPz1 : P ≠ w3.heap.size + 1 := by omega
          have HOwn := Lib.hid hownz
          clear hD hfz' hownz
          go_wp2_with fail
          go_region_law ((refine step_append_lies _ (by rfl) _ _ _ (by rfl) (P + 1) 45 i0 (.agg #[.int .i64 0, .int .i64 0, .string ⟨#[]⟩, .int .i64 0, .int .i64 0, .int .i64 0, .string ⟨#[]⟩, .slice none 0 0]) 8 96 Tryz.underlying25 hi0 hz0 hz1 hz2 rfl (by omega) (.slice Ai d.length ci) d.length (d.flatMap iq) (by rfl) (HOwn.out.alloc _).drew ⟨w3.heap.size + 1, 0, none⟩ 1 1 (iq ((⟨(k : Int), tt, [], noT, out.map (·.1)⟩ : Im), .slice A' out.length c')) (by rfl) (by rfl) (World.news_of_block (heap_alloc_2 w3 _ _)) (iq_one' _ rfl) (by omega) (by unfold maxLen; omega) (by omega) (by simp; omega) _ rfl ?_; intro g cap w5 hown5 hgrow5 hat5 hgl5; obtain ⟨e4, ez4⟩ := HCz.out w5 hgrow5))
          all_goals
            have HZ := Lib.hid (HEz.out g (d.length + 1) cap w5 hgrow5 hat5 hown5)
            go_wp2_with (with_reducible exact end0 Tryz.results51 rfl HZ.out)
        · have te : (er == 0) = false := by rw [beq_eq_false_iff_ne]; exact he
          clear he
          generalize wordL (k : Int) = wd at *
          go_wp2_with fail
          refine (HAt.out _ (Below.refl _ _)).mono ?_
          rintro r w3 ⟨t, i2, a2, e2, rfl, hq3, hi3, _, hf3, hoc⟩
          have HDn := Lib.hid (HR.out.done HX.out hoc)
          obtain ⟨lk, lt_, ln_, ls⟩ := t
          unfold tv
          simp only
          clear HAt hoc
          have hfr : Fr wr w3 P := hf3
          have hq3' := hq3.alloc (.cells #[.int .i64 lk, .int .i64 lt_, .int .i64 ln_, .string (str ls)] 42)
          have hsz := HFr.out.size
          have hsz3 := hfr.size
          have m6 : w3.cell? ⟨w1.heap.size, 2, none⟩ = some (.int .i64 an) := ((HFr.out.trans hfr).cell ⟨w1.heap.size, 2, none⟩ (by show w1.heap.size < _; omega) (by show w1.heap.size ≠ P; omega)).trans k6
          have m5 : w3.cell? ⟨w.heap.size, 1, none⟩ = some (.int .i64 tt) := ((HFr.out.trans hfr).cell ⟨w.heap.size, 1, none⟩ (by show w.heap.size < _; omega) (by show w.heap.size ≠ P; omega)).trans k5c
          have l6 : w1.heap.size < w3.heap.size := by omega
          have l5 : w.heap.size < w3.heap.size := by omega
          have hlt3 := hq3.lt
          have HQ3 := Lib.hid hq3'
          clear hq3 hq3'
          have hD := HDn.out
          simp only [List.length_map] at hD
          rw [hq, fA_no, fE_no] at hD
          have hfz' := hfr.alloc (.cells #[.int .i64 lk, .int .i64 lt_, .int .i64 ln_, .string (str ls)] 42)
          have c4 := HQ3.out.c4
          have z5 : (w3.alloc (.cells #[.int .i64 lk, .int .i64 lt_, .int .i64 ln_, .string (str ls)] 42)).cell? ⟨w.heap.size, 1, none⟩ = some (.int .i64 tt) := (World.cell?_alloc_lt _ _ _ l5).trans m5
          have hownz := own_fr HOD.out ((HF.out.trans HFr.out).trans hfz') (Nat.lt_succ_self P)
          have HEz := Lib.hid (HEnd.out _ i2 _ _ HQ3.out hi3 hfz' hD)
          have HCz := Lib.hid (HCl.out _ i2 _ _ HQ3.out)
          have nPz : P ≠ w3.heap.size := by omega
          have nPz1 : P ≠ w3.heap.size + 1 := by omega
          have HOwn := Lib.hid hownz
          clear hD hfz' hownz
          go_wp2_with fail
          go_region_law ((refine step_append_lies _ (by rfl) _ _ _ (by rfl) (P + 1) 45 i0 (.agg #[.int .i64 0, .int .i64 0, .string ⟨#[]⟩, .int .i64 0, .int .i64 0, .int .i64 0, .string ⟨#[]⟩, .slice none 0 0]) 8 96 Tryz.underlying25 hi0 hz0 hz1 hz2 rfl (by omega) (.slice Ai d.length ci) d.length (d.flatMap iq) (by rfl) (HOwn.out.alloc _).drew ⟨w3.heap.size + 1, 0, none⟩ 1 1 (iq ((⟨(k : Int), tt, [], noT, out.map (·.1)⟩ : Im), .slice A' out.length c')) (by rfl) (by rfl) (World.news_of_block (heap_alloc_2 w3 _ _)) (iq_one' _ rfl) (by omega) (by unfold maxLen; omega) (by omega) (by simp; omega) _ rfl ?_; intro g cap w5 hown5 hgrow5 hat5 hgl5; obtain ⟨e4, ez4⟩ := HCz.out w5 hgrow5))
          all_goals
            have HZ := Lib.hid (HEz.out g (d.length + 1) cap w5 hgrow5 hat5 hown5)
            go_wp2_with (with_reducible exact end0 Tryz.results51 rfl HZ.out)
end
end Go.Proofs.YthcnjiigkmljnaaGreatDoor
