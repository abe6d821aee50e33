/-
  The walk of the statement SynSound: what is put together has entries that may be.
-/
import Derived.Test.YthcnjiigkmljnaaDoorSynSnd0
import Derived.Test.YthcnjiigkmljnaaDoorSynAwake
import Derived.Deep.DrawnRows
namespace Go.Proofs.YthcnjiigkmljnaaDoor
open Go.RowKit

attribute [local go_sem ↓] Go.wp_at_zero Go.wp_at_succ
/-- An item of a row, and where its cells are. -/
theorem Ix.at {w : World} {X : Nat → Prop} {A : Option Addr} {n c : Nat} {is : List Im} (h : Ix w X (.slice A n c) is) {k : Nat} (hk : k < is.length) :
    ∃ b o im Ae ne ce, A = some ⟨b, o, none⟩ ∧ b < w.heap.size ∧ im ∈ is ∧ ne = im.ents.length ∧ w.cell? ⟨b, o + k * 8, none⟩ = some (.int .i64 im.kind) ∧ w.cell? ⟨b, o + k * 8 + 7, none⟩ = some (.slice Ae ne ce) ∧ Ex w X (.slice Ae ne ce) im.ents := by
  obtain ⟨d, hd, ⟨A2, c2, hv, _, hcl⟩, hex⟩ := h
  injection hv with e1 e2 e3
  subst e1 e3
  have hdl : is.length = d.length := by rw [hd]; simp
  obtain ⟨b, o, hA, hb, _, hc⟩ := hcl (by omega)
  have hkd : k < d.length := by omega
  have hget : d[k]? = some d[k] := List.getElem?_eq_getElem hkd
  have hm : d[k] ∈ d := List.getElem_mem _
  have hx := hex _ hm
  obtain ⟨dd, hdd, ⟨Ae, ce, hve, _⟩, _⟩ := id hx
  refine ⟨b, o, d[k].1, Ae, dd.length, ce, hA, hb, by rw [hd]; exact List.mem_map_of_mem hm, by rw [hdd]; simp, ?_, ?_, ?_⟩
  · simpa using hc k _ hget 0 _ rfl
  · rw [← hve]; exact hc k _ hget 7 _ rfl
  · rw [← hve]; exact hx
/-- An entry of a row, and where its cells are. -/
theorem Ex.at {w : World} {X : Nat → Prop} {A : Option Addr} {n c : Nat} {es : List En} (h : Ex w X (.slice A n c) es) {k : Nat} (hk : k < es.length) :
    ∃ b o x vu vl, A = some ⟨b, o, none⟩ ∧ b < w.heap.size ∧ x ∈ es ∧ Ux w X vu x.u ∧ Lx w X vl x.ll ∧ w.cell? ⟨b, o + k * 7, none⟩ = some (.int .i64 x.lo.n) ∧ w.cell? ⟨b, o + k * 7 + 1, none⟩ = some (.int .i64 x.lo.v) ∧ w.cell? ⟨b, o + k * 7 + 2, none⟩ = some (.int .i64 x.hi.n) ∧ w.cell? ⟨b, o + k * 7 + 3, none⟩ = some (.int .i64 x.hi.v) ∧ w.cell? ⟨b, o + k * 7 + 4, none⟩ = some (.int .i64 x.to) ∧ w.cell? ⟨b, o + k * 7 + 5, none⟩ = some vu ∧ w.cell? ⟨b, o + k * 7 + 6, none⟩ = some vl := by
  obtain ⟨d, hd, ⟨A2, c2, hv, _, hcl⟩, hex⟩ := h
  injection hv with e1 e2 e3
  subst e1 e3
  have hdl : es.length = d.length := by rw [hd]; simp
  obtain ⟨b, o, hA, hb, _, hc⟩ := hcl (by omega)
  have hkd : k < d.length := by omega
  have hget : d[k]? = some d[k] := List.getElem?_eq_getElem hkd
  have hm : d[k] ∈ d := List.getElem_mem _
  obtain ⟨hu, hl⟩ := hex _ hm
  refine ⟨b, o, d[k].1, d[k].2.1, d[k].2.2, hA, hb, by rw [hd]; exact List.mem_map_of_mem hm, hu, hl, ?_, hc k _ hget 1 _ rfl, hc k _ hget 2 _ rfl, hc k _ hget 3 _ rfl, hc k _ hget 4 _ rfl, hc k _ hget 5 _ rfl, hc k _ hget 6 _ rfl⟩
  simpa using hc k _ hget 0 _ rfl

set_option maxRecDepth 100000 in
set_option maxHeartbeats 4000000 in
theorem synSound_any (L : List Tk) (A : Option Addr) (c : Nat) (en : Int) (w : World) (hT : Ts w) (hlen : L.length ≤ maxLen) (hst : St w w.heap.size A L) :
    Calls Tryd.prog 3 #[.slice A L.length c, .int .i64 en] w fun e w' => e = .returned (.bool true) ∧ Below w.heap.size w w' := by
  go_enter Tryd.func3, Tryd.ntmps3
  go_wp2_with fail
  refine (awake_any _ hT).mono ?_
  rintro e w1 ⟨rfl, hb1⟩
  have hst1 := hst.over hb1
  have hT1 := hT.below' hb1
  have HF := Lib.hid (Few_any L A c w1 hlen hst1)
  clear hst hT
  go_wp2_with fail
  refine HF.out.mono ?_
  rintro r w2 ⟨bf, rfl, rfl, hf⟩
  clear HF
  cases bf with
  | false =>
    go_wp2
    go_ret
    exact ⟨rfl, hb1⟩
  | true =>
    obtain ⟨hl3, hs3⟩ := hf rfl
    have HP := Lib.hid (Parse_any (en := en) (c := c) w2 hst1 hT1.sec (few_jv hl3 hs3))
    clear hf hst1 hT1 hs3
    have HB1 := Lib.hid hb1
    clear hb1
    go_wp2_with fail
    refine HP.out.mono ?_
    rintro r w3 ⟨hb3, h3⟩
    clear HP
    have HB3 : Hid (Below w.heap.size w w3) := Lib.hid (HB1.out.trans (hb3.mono HB1.out.size))
    clear HB1 hb3
    rcases h3 with ⟨a, e', h4, he, rfl⟩ | ⟨x, j, A', c', h4, rfl, hix⟩
    · have te : (e' != 0) = true := by rw [bne_iff_ne]; exact he
      go_wp2
      go_ret
      exact ⟨rfl, HB3.out⟩
    · have hsn := parse_sane h4
      have HSn := Lib.hid hsn
      have HI := Lib.hid hix
      have hxl : x.length ≤ L.length := parse_len h4
      clear hsn hix h4
      go_wp2
      go_loopw [9] (fun i wr => ∃ k : Nat, k ≤ x.length ∧ i = .int .i64 (k : Int) ∧ Hid (Below w3.heap.size w3 wr)) (fun i _ => x.length - (intOf i).toNat)
      case atStart => exact ⟨0, Nat.zero_le _, rfl, Lib.hid (Below.refl _ _)⟩
      case round =>
        obtain ⟨k, hk, rfl, HB⟩ := hrel
        by_cases hkl : k < x.length
        · have t0 : decide (k < x.length) = true := by simp; omega
          obtain ⟨b, o, im, Ae, ne, ce, hA, hbl, him, hne, g0, g7, hex⟩ := HI.out.at hkl
          have hin := HSn.out im him
          have q0 := (HB.out.cell (p := ⟨b, o + k * 8, none⟩) hbl).trans g0
          have q7 := (HB.out.cell (p := ⟨b, o + k * 8 + 7, none⟩) hbl).trans g7
          have hne1 : ne ≤ 100 := by rw [hne]; exact hin.few
          have hk2 : im.kind < 2 → ne = 0 := fun h => by rw [hne, hin.none h]; rfl
          have hk0 := hin.k0
          have hk8 := hin.k8
          have hall : Hid (∀ y ∈ im.ents, SnE im.kind y) := Lib.hid hin.all
          have HE := Lib.hid hex
          have HG := Lib.hid (And.intro g0 g7)
          clear hin g0 g7 hex him
          obtain ⟨es, hes⟩ : ∃ es, es = im.ents := ⟨_, rfl⟩
          rw [← hes] at hne hall HE
          obtain ⟨kd, hkd⟩ : ∃ kd, kd = im.kind := ⟨_, rfl⟩
          rw [← hkd] at hall q0 hk2 hk0 hk8 HG
          clear hes hkd
          have HNe := Lib.hid hne
          clear hne
          subst hA
          have d0 : decide (kd < 0) = false := by simp; omega
          have d1 : decide ((8 : Int) < kd) = false := by simp; omega
          have d2 : decide ((100 : Int) < (ne : Int)) = false := by simp; omega
          have d3 : decide (kd < 2) = false ∨ (decide (kd < 2) = true ∧ decide (0 < ne) = false) := by
            by_cases h : kd < 2
            · right; have := hk2 h; exact ⟨by simpa using h, by simp; omega⟩
            · left; simpa using h
          clear hk2
          rcases d3 with d3 | ⟨d3, d4⟩
          all_goals
            go_wp2
            go_loopw [10] (fun i wr => ∃ m : Nat, m ≤ ne ∧ i = .int .i64 (m : Int) ∧ Hid (Below w3.heap.size w3 wr)) (fun i _ => ne - (intOf i).toNat)
            case atStart => exact ⟨0, Nat.zero_le _, rfl, HB⟩
            case round =>
              clear q0 q7 HB
              obtain ⟨m, hm, rfl, HB⟩ := hrel
              have q0 := (HB.out.cell (p := ⟨b, o + k * 8, none⟩) hbl).trans HG.out.1
              have q7 := (HB.out.cell (p := ⟨b, o + k * 8 + 7, none⟩) hbl).trans HG.out.2
              by_cases hml : m < ne
              · have t1 : decide (m < ne) = true := by simp; omega
                obtain ⟨be, oe, y, vu, vl, hAe, hbe, hy, hu, hl, y0, y1, y2, y3, y4, y5, y6⟩ := HE.out.at (by have := HNe.out; omega : m < es.length)
                have hsy := hall.out y hy
                have hso : ∀ w', Below w3.heap.size w3 w' → Calls Tryd.prog 9 #[.int .i64 kd, .agg #[.int .i64 y.lo.n, .int .i64 y.lo.v, .int .i64 y.hi.n, .int .i64 y.hi.v, .int .i64 y.to, vu, vl]] w' fun r w'' => r = .returned (.bool true) ∧ Below w'.heap.size w' w'' := fun w' hb => sound_any kd y vu vl w' hsy (hu.to (Kp.of_below hb) (fun _ _ h => h)) (hl.to (Kp.of_below hb) (fun _ _ h => h))
                have HSo := Lib.hid hso
                subst hAe
                obtain ⟨Au, cu, hvu, _⟩ := hu.si
                obtain ⟨dl, _, ⟨Al, cl, hvl, _, _⟩, _⟩ := id hl
                subst hvu
                subst hvl
                generalize y.lo.n = ln at *
                generalize y.lo.v = lv at *
                generalize y.hi.n = hn at *
                generalize y.hi.v = hv at *
                generalize y.to = to at *
                generalize y.u.length = nu at *
                generalize dl.length = nd at *
                have hS : ∀ w', Below w3.heap.size w3 w' → w'.cell? ⟨b, o + k * 8, none⟩ = some (.int .i64 kd) ∧ w'.cell? ⟨b, o + k * 8 + 7, none⟩ = some (.slice (some ⟨be, oe, none⟩) ne ce) ∧ w'.cell? ⟨be, oe + m * 7, none⟩ = some (.int .i64 ln) ∧ w'.cell? ⟨be, oe + m * 7 + 1, none⟩ = some (.int .i64 lv) ∧ w'.cell? ⟨be, oe + m * 7 + 2, none⟩ = some (.int .i64 hn) ∧ w'.cell? ⟨be, oe + m * 7 + 3, none⟩ = some (.int .i64 hv) ∧ w'.cell? ⟨be, oe + m * 7 + 4, none⟩ = some (.int .i64 to) ∧ w'.cell? ⟨be, oe + m * 7 + 5, none⟩ = some (.slice Au nu cu) ∧ w'.cell? ⟨be, oe + m * 7 + 6, none⟩ = some (.slice Al nd cl) := fun w' hb =>
                  ⟨(hb.cell (p := ⟨b, o + k * 8, none⟩) hbl).trans HG.out.1, (hb.cell (p := ⟨b, o + k * 8 + 7, none⟩) hbl).trans HG.out.2, (hb.cell (p := ⟨be, oe + m * 7, none⟩) hbe).trans y0, (hb.cell (p := ⟨be, oe + m * 7 + 1, none⟩) hbe).trans y1, (hb.cell (p := ⟨be, oe + m * 7 + 2, none⟩) hbe).trans y2, (hb.cell (p := ⟨be, oe + m * 7 + 3, none⟩) hbe).trans y3, (hb.cell (p := ⟨be, oe + m * 7 + 4, none⟩) hbe).trans y4, (hb.cell (p := ⟨be, oe + m * 7 + 5, none⟩) hbe).trans y5, (hb.cell (p := ⟨be, oe + m * 7 + 6, none⟩) hbe).trans y6⟩
                have HSS := Lib.hid hS
                have z0 : Below w3.heap.size w3 wr.drew := HB.out.drew
                clear hS hso hsy hu hl y0 y1 y2 y3 y4 y5 y6
                go_wp2
                go_region_held (fun w' => w'.cell? ⟨b, o + k * 8, none⟩ = some (.int .i64 kd) ∧ w'.cell? ⟨b, o + k * 8 + 7, none⟩ = some (.slice (some ⟨be, oe, none⟩) ne ce) ∧ w'.cell? ⟨be, oe + m * 7, none⟩ = some (.int .i64 ln) ∧ w'.cell? ⟨be, oe + m * 7 + 1, none⟩ = some (.int .i64 lv) ∧ w'.cell? ⟨be, oe + m * 7 + 2, none⟩ = some (.int .i64 hn) ∧ w'.cell? ⟨be, oe + m * 7 + 3, none⟩ = some (.int .i64 hv) ∧ w'.cell? ⟨be, oe + m * 7 + 4, none⟩ = some (.int .i64 to) ∧ w'.cell? ⟨be, oe + m * 7 + 5, none⟩ = some (.slice Au nu cu) ∧ w'.cell? ⟨be, oe + m * 7 + 6, none⟩ = some (.slice Al nd cl))
                  (first | exact HSS.out _ z0 | exact HSS.out _ z1)
                  ((go_at_call 9; refine (HSo.out _ z0).mono ?_; rintro r x1 ⟨rfl, v1⟩; have z1 := z0.trans (v1.mono z0.size)))
                go_wp2
                exact ⟨⟨m + 1, by omega, by go_num, Lib.hid z1⟩, by simp [intOf]; omega⟩
              · have t1 : decide (m < ne) = false := by simp; omega
                go_wp2
                exact ⟨⟨k + 1, by omega, by go_num, HB⟩, by simp [intOf]; omega⟩
        · have t0 : decide (k < x.length) = false := by simp; omega
          go_wp2
          go_ret
          exact ⟨rfl, HB3.out.trans (HB.out.mono HB3.out.size)⟩
end Go.Proofs.YthcnjiigkmljnaaDoor
