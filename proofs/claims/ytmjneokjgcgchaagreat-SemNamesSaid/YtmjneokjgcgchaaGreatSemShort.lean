/-
  The document's own 'are items few, and small': its answer, and what a yes says.
-/
import Derived.Test.YtmjneokjgcgchaaGreatSemLists
import Derived.Test.YtmjneokjgcgchaaGreatDestSame
import Derived.Test.YtmjneokjgcgchaaGreatSemView3
namespace Go.Proofs.YtmjneokjgcgchaaGreat
open Go.RowKit

@[go_sem] theorem bldB3 (A : Option Addr) (n c : Nat) (w : World) : (Instr.build 73 #[(3, .slice A n c)]).run Tryz.prog w = .ok (.agg #[.int .i64 0, .int .i64 0, .int .i64 0, .slice A n c]) w := run_build w 73 _ _ (by kernel_rfl)
/-- What an item counts. -/
def cI (x : Im) : Nat := x.ents.length + ((x.ents.take 120).map fun e => e.ll.length).sum
def cL (is : List Im) : Nat := ((is.take 60).map cI).sum
theorem sum_take {α : Type} (f : α → Nat) {d : List α} {k : Nat} {x : α} (h : d[k]? = some x) : ((d.take (k + 1)).map f).sum = ((d.take k).map f).sum + f x := by
  rw [take_last h, List.map_append, List.sum_append]
  simp
theorem sd_one9 (W : World) (x : Me) (t : TypeId) (hx : Un W x.a x.c x.b.u) : Sd (W.alloc (.cells #[.int .i64 x.b.n, .int .i64 x.b.lo, .int .i64 x.b.hi, .slice x.a x.b.u.length x.c] t)) (some ⟨W.heap.size, 0, none⟩) [x] := by
  refine ⟨fun _ => ⟨W.heap.size, 0, rfl, by simp, fun j z hz => ?_⟩, fun m hm => ?_⟩
  · have hj : j = 0 := by have := (List.getElem?_eq_some_iff.1 hz).1; simp at this; omega
    subst hj
    rw [List.getElem?_cons_zero] at hz
    injection hz with hz
    subst hz
    exact ⟨by simp, by simp, by simp, by simp⟩
  · rw [List.mem_singleton] at hm
    subst hm
    exact hx.over ((Below.refl _ _).alloc (Nat.le_refl _) _)
set_option maxRecDepth 100000 in
set_option maxHeartbeats 8000000 in
theorem rShort9_any {v : Value} {is : List Im} (w : World) (hx : Ix w (fun _ => False) v is) (hl : is.length ≤ maxLen) (hb : ∀ x ∈ is, Ib x) (hb2 : ∀ x ∈ is, Iz x) :
    Calls Tryz.prog 10 #[v] w fun r w' => ∃ b, r = .returned (.bool b) ∧ (b = true → is.length ≤ 60 ∧ cL is ≤ 120) ∧ Below w.heap.size w w' := by
  obtain ⟨d, hd, hr, hn⟩ := hx
  obtain ⟨Av, cv, hve, _⟩ := id hr
  subst hve
  have hdl : d.length = is.length := by rw [hd]; simp
  rw [← hdl] at hl
  have HR := Lib.hid hr
  have HN := Lib.hid hn
  have HD := Lib.hid hd
  have HIB := Lib.hid (fun p (hp : p ∈ d) => hb p.1 (by rw [hd]; exact List.mem_map_of_mem hp))
  have HIZ := Lib.hid (fun p (hp : p ∈ d) => hb2 p.1 (by rw [hd]; exact List.mem_map_of_mem hp))
  have HEND : Hid (∀ s, s = ((d.take 60).map fun p => cI p.1).sum → d.length ≤ 60 → s ≤ 120 → is.length ≤ 60 ∧ cL is ≤ 120) := Lib.hid fun s hs h1 h2 => ⟨by omega, by
    have e : cL is = s := by rw [hs, cL, hd, ← List.map_take, List.map_map]; rfl
    omega⟩
  unfold maxLen at hl
  clear hr hn hd hdl hb hb2
  generalize hnn : d.length = n at *
  have HL := Lib.hid hnn
  clear hnn
  go_enter Tryz.func10, Tryz.ntmps10
  go_wp2
  go_loopw [3, 4] (fun nv i wr => ∃ k s : Nat, k ≤ n ∧ k ≤ 60 ∧ i = .int .i64 (k : Int) ∧ nv = .int .i64 (s : Int) ∧ s ≤ k * 17029236090499072 ∧ Hid (s = ((d.take k).map fun p => cI p.1).sum) ∧ Hid (Below w.heap.size w wr)) (fun _ i _ => n - (intOf i).toNat)
  case atStart => exact ⟨0, 0, Nat.zero_le _, Nat.zero_le _, rfl, rfl, Nat.zero_le _, Lib.hid (by simp), Lib.hid (Below.refl _ _)⟩
  case round =>
    obtain ⟨k, s, hk, hk60, rfl, rfl, hsb, HSUM, HB⟩ := hrel
    by_cases hkl : k < n
    · have t0 : decide (k < n) = true := by simp; omega
      by_cases hk6 : k < 60
      · have t6 : decide ((k : Int) < 60) = true := by simp; omega
        obtain ⟨b, o, c, p, q1, g1, hm, q2⟩ := Rw.at HR.out (j := k) (by have := HL.out; omega)
        injection q1 with q1 e1n e1c
        clear e1n
        subst q1 e1c
        have hz := HN.out p hm
        have hib := HIB.out p hm
        have hiz := HIZ.out p hm
        have HTk := Lib.hid (sum_take (fun p : Im × Value => cI p.1) g1)
        obtain ⟨x, v1⟩ := p
        simp only at hz hib hiz
        obtain ⟨de, hde, hre, hne⟩ := hz
        obtain ⟨A1, s1, hv1, _⟩ := id hre
        subst hv1
        have hdel : de.length = x.ents.length := by rw [hde]; simp
        have hbd : de.length ≤ 140737488351232 := by have := hiz.1; unfold reachBytes at this; omega
        have HLB := Lib.hid (fun q (hq : q ∈ de) => (hib.2.2.2 q.1 (by rw [hde]; exact List.mem_map_of_mem hq)))
        have HLZ := Lib.hid (fun q (hq : q ∈ de) => (hiz.2 q.1 (by rw [hde]; exact List.mem_map_of_mem hq)))
        have HCI : Hid (cI x = de.length + ((de.take 120).map fun q => q.1.ll.length).sum) := Lib.hid (by rw [cI, ← hdel, hde, ← List.map_take, List.map_map]; rfl)
        have HRE := Lib.hid hre
        have HNE := Lib.hid hne
        generalize hen : de.length = ne at *
        have HEN := Lib.hid hen
        have hbl : b < w.heap.size := World.block_lt_of_cell? w _ (q2 0 _ rfl)
        have HS7 : Hid (∀ w', Below w.heap.size w w' → w'.cell? ⟨b, o + k * 8 + 7, none⟩ = some (.slice A1 ne s1)) := Lib.hid fun w' hb => (hb.cell (p := ⟨b, o + k * 8 + 7, none⟩) hbl).trans (q2 7 _ rfl)
        have y7 := HS7.out _ HB.out
        clear q2 hde hre hne g1 hm hen hdel hib hiz
        go_wp2
        clear y7
        go_loopw [3, 5] (fun nv i wx => ∃ j s2 : Nat, j ≤ ne ∧ j ≤ 120 ∧ i = .int .i64 (j : Int) ∧ nv = .int .i64 (s2 : Int) ∧ s2 ≤ k * 17029236090499072 + 140737488351232 + j * 140737488351232 ∧ Hid (s2 = s + ne + ((de.take j).map fun q => q.1.ll.length).sum) ∧ Hid (Below w.heap.size w wx)) (fun _ i _ => ne - (intOf i).toNat)
        case atStart => exact ⟨0, s + ne, Nat.zero_le _, Nat.zero_le _, rfl, by go_num, by omega, Lib.hid (by simp), HB⟩
        case round =>
          obtain ⟨j, s2, hj, hj120, rfl, rfl, hsb2, HSUM2, HB2⟩ := hrel
          have y7 := HS7.out _ HB2.out
          by_cases hjl : j < ne
          · have t1 : decide (j < ne) = true := by simp; omega
            by_cases hj12 : j < 120
            · have t2 : decide ((j : Int) < 120) = true := by simp; omega
              obtain ⟨b2, p2, c2, pe, f1, f2, f3, f4⟩ := Rw.at HRE.out (j := j) (by have := HEN.out; omega)
              injection f1 with f1 f1n f1c
              clear f1n
              subst f1 f1c
              have HTE := Lib.hid (sum_take (fun q : En × Value × Value => q.1.ll.length) f2)
              have hzq := HNE.out pe f3
              have hlb := HLB.out pe f3
              have hlz := HLZ.out pe f3
              obtain ⟨⟨⟨ln, lv⟩, ⟨hn, hv⟩, tov, uu, lx⟩, v5, v6⟩ := pe
              obtain ⟨zu, zl⟩ := hzq
              simp only at zu zl hlb HTE hlz
              obtain ⟨A5, c5, hv5, hcap5, hsi5⟩ := zu.si
              obtain ⟨dl, hdl, ⟨A6, c6, hv6, _⟩, _⟩ := zl
              have hdll : dl.length = lx.length := by rw [hdl]; simp
              rw [hdll] at hv6
              subst hv5 hv6
              have hll := hlz
              have hul := hlb.1
              unfold maxLen at hul
              unfold reachBytes at hll
              have hb2l : b2 < w.heap.size := World.block_lt_of_cell? w _ (f4 0 _ rfl)
              have g5 := (HB2.out.cell (p := ⟨b2, p2 + j * 7 + 5, none⟩) hb2l).trans (f4 5 _ rfl)
              have g6 := (HB2.out.cell (p := ⟨b2, p2 + j * 7 + 6, none⟩) hb2l).trans (f4 6 _ rfl)
              have hun : Un w A5 c5 uu := ⟨hcap5.1, hcap5.2, hsi5⟩
              have K := Lib.hid (Few_any (some ⟨wr.heap.size, 0, none⟩) 1 [⟨⟨0, 0, 0, uu⟩, A5, c5⟩] (wr.alloc (.cells #[.int .i64 0, .int .i64 0, .int .i64 0, .slice A5 uu.length c5] 73)) (sd_one9 wr ⟨⟨0, 0, 0, uu⟩, A5, c5⟩ _ (hun.over HB2.out)) (by simp) (fun m hm => by rw [List.mem_singleton] at hm; subst hm; show uu.length ≤ _; omega))
              have HBA := Lib.hid (HB2.out.alloc HB2.out.size (.cells #[.int .i64 0, .int .i64 0, .int .i64 0, .slice A5 uu.length c5] 73))
              clear f2 f3 f4 zu hun hcap5 hsi5 hlb hdl hdll hlz
              generalize huun : uu.length = un at *
              generalize hlxn : lx.length = xn at *
              have HLX := Lib.hid hlxn
              clear huun hlxn
              simp only [List.length_cons, List.length_nil, Nat.zero_add] at K
              by_cases hu : 70 < un
              · have t3 : decide ((un : Int) > 70) = true := by simp; omega
                go_wp2
                go_ret
                first | exact ⟨false, rfl, (fun e => by cases e), HB2.out⟩ | exact .inl ⟨rfl, HB2.out⟩
              · have t3 : decide ((un : Int) > 70) = false := by simp; omega
                generalize decide (fewB (pl [(⟨⟨0, 0, 0, uu⟩, A5, c5⟩ : Me)])) = fb at *
                go_wp2_with fail
                refine K.out.mono ?_
                rintro e w5 ⟨rfl, hb5⟩
                have hbw5 := Lib.hid (HBA.out.trans (hb5.mono HBA.out.size))
                clear hb5 g5 g6 y7
                cases fb with
                | false =>
                  go_wp2
                  go_ret
                  exact ⟨false, rfl, (fun e => by cases e), hbw5.out⟩
                | true =>
                  go_wp2
                  refine ⟨⟨j + 1, s2 + xn, by omega, by omega, by go_num, by go_num, by omega, Lib.hid ?_, hbw5⟩, by simp [intOf]; omega⟩
                  rw [HTE.out, HSUM2.out]
                  have := HLX.out
                  omega
            · have t2 : decide ((j : Int) < 120) = false := by simp; omega
              obtain rfl : j = 120 := by omega
              go_wp2
              refine ⟨⟨k + 1, s2, by omega, by omega, by go_num, rfl, by omega, Lib.hid ?_, HB2⟩, by simp [intOf]; omega⟩
              rw [HTk.out, HSUM2.out, HSUM.out, HCI.out]
              omega
          · have t1 : decide (j < ne) = false := by simp; omega
            obtain rfl : j = ne := by omega
            go_wp2
            refine ⟨⟨k + 1, s2, by omega, by omega, by go_num, rfl, by omega, Lib.hid ?_, HB2⟩, by simp [intOf]; omega⟩
            have e1 : de.take j = de := List.take_of_length_le (by have := HEN.out; omega)
            have e2 : de.take 120 = de := List.take_of_length_le (by have := HEN.out; omega)
            rw [HTk.out, HSUM2.out, HSUM.out, HCI.out, e1, e2]
            omega
      · have t6 : decide ((k : Int) < 60) = false := by simp; omega
        obtain rfl : k = 60 := by omega
        have t9 : decide ((n : Int) ≤ 60) = false := by simp; omega
        go_wp2
        go_ret
        exact ⟨false, rfl, (fun e => by cases e), HB.out⟩
    · have t0 : decide (k < n) = false := by simp; omega
      obtain rfl : k = n := by omega
      have t9 : decide ((k : Int) ≤ 60) = true := by simp; omega
      have e2 : d.take 60 = d.take k := by rw [List.take_of_length_le (by have := HL.out; omega), List.take_of_length_le (by have := HL.out; omega)]
      have HE2 := Lib.hid e2
      clear e2
      by_cases hs : s ≤ 120
      · have t10 : decide ((s : Int) ≤ 120) = true := by simp; omega
        go_wp2
        go_ret
        exact ⟨true, rfl, fun _ => HEND.out s (by rw [HE2.out, HSUM.out]) (by have := HL.out; omega) hs, HB.out⟩
      · have t10 : decide ((s : Int) ≤ 120) = false := by simp; omega
        go_wp2
        go_ret
        exact ⟨false, rfl, (fun e => by cases e), HB.out⟩
/-- What few items hold. -/
theorem le_sum {α : Type} (f : α → Nat) : ∀ {l : List α} {x : α}, x ∈ l → f x ≤ (l.map f).sum
  | y :: l, x, h => by
    rw [List.map_cons, List.sum_cons]
    rcases List.mem_cons.1 h with rfl | h
    · omega
    · have := le_sum f h
      omega
theorem flat_sum (es : List En) : (es.flatMap bfE).length ≤ es.length + (es.map fun e => e.ll.length).sum := by
  induction es with
  | nil => simp
  | cons e es ih =>
    rw [List.flatMap_cons, List.length_append, List.length_cons, List.map_cons, List.sum_cons]
    have := bfE_len e
    omega
theorem short_items {is : List Im} (h1 : is.length ≤ 60) (h2 : cL is ≤ 120) : ∀ x ∈ is, x.ents.length ≤ 120 ∧ (x.ents.flatMap bfE).length ≤ cI x ∧ ∀ e ∈ x.ents, e.ll.length ≤ 120 := by
  intro x hx
  rw [cL, List.take_of_length_le h1] at h2
  have h3 := le_sum cI hx
  have h4 : x.ents.length ≤ 120 := by have : x.ents.length ≤ cI x := by unfold cI; omega
                                      omega
  have e : cI x = x.ents.length + (x.ents.map fun e => e.ll.length).sum := by unfold cI; rw [List.take_of_length_le h4]
  refine ⟨h4, by rw [e]; exact flat_sum _, fun q hq => ?_⟩
  have := le_sum (fun e : En => e.ll.length) hq
  omega
theorem short_xb {is : List Im} (h1 : is.length ≤ 60) (h2 : cL is ≤ 120) : ∀ x ∈ is, Xb x := fun x hx => by
  obtain ⟨a, b, c⟩ := short_items h1 h2 x hx
  have h3 := le_sum cI hx
  rw [cL, List.take_of_length_le h1] at h2
  exact ⟨by omega, by omega, fun e he => Nat.le_trans (c e he) (by omega)⟩
theorem lst_few (p : Pg) (x : Im) (hb : (x.ents.flatMap bfE).length ≤ cI x) : (lstI p x).sp.length ≤ p.sp.length + cI x ∧ (lstI p x).ci.length ≤ p.ci.length + cI x ∧ (lstI p x).no.length ≤ p.no.length + cI x ∧ (lstI p x).bf.length ≤ p.bf.length + cI x := by
  have hc : x.ents.length ≤ cI x := by unfold cI; omega
  refine ⟨?_, ?_, ?_, ?_⟩ <;> simp only [lstI] <;> split <;> (try rw [List.length_append]) <;> (try rw [List.length_map]) <;> omega
theorem lstL_few : ∀ (is : List Im) (p : Pg), (∀ x ∈ is, (x.ents.flatMap bfE).length ≤ cI x) → (lstL p is).sp.length ≤ p.sp.length + (is.map cI).sum ∧ (lstL p is).ci.length ≤ p.ci.length + (is.map cI).sum ∧ (lstL p is).no.length ≤ p.no.length + (is.map cI).sum ∧ (lstL p is).bf.length ≤ p.bf.length + (is.map cI).sum
  | [], p, _ => by simp [lstL]
  | x :: is, p, h => by
    have h1 := lst_few p x (h x List.mem_cons_self)
    have h2 := lstL_few is (lstI p x) fun y hy => h y (List.mem_cons_of_mem _ hy)
    rw [List.map_cons, List.sum_cons]
    show (lstL (lstI p x) is).sp.length ≤ _ ∧ (lstL (lstI p x) is).ci.length ≤ _ ∧ (lstL (lstI p x) is).no.length ≤ _ ∧ (lstL (lstI p x) is).bf.length ≤ _
    omega
theorem short_lens {is : List Im} (h1 : is.length ≤ 60) (h2 : cL is ≤ 120) (p : Pg) : (lstL p is).sp.length ≤ p.sp.length + 120 ∧ (lstL p is).ci.length ≤ p.ci.length + 120 ∧ (lstL p is).no.length ≤ p.no.length + 120 ∧ (lstL p is).bf.length ≤ p.bf.length + 120 := by
  have h3 := lstL_few is p fun x hx => (short_items h1 h2 x hx).2.1
  rw [cL, List.take_of_length_le h1] at h2
  omega
end Go.Proofs.YtmjneokjgcgchaaGreat
