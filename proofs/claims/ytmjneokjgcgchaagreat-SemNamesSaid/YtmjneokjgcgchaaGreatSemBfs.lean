/-
  Entries as codes that go to units: the program's own.
-/
import Derived.Test.YtmjneokjgcgchaaGreatSemEnts
import Derived.Test.YtmjneokjgcgchaaGreatDestApp
namespace Go.Proofs.YtmjneokjgcgchaaGreat
open Go.RowKit

theorem dvs_snoc (l : List Me) (x : Me) : dvs (l ++ [x]) = dvs l ++ fq x := by simp [dvs]
theorem own_typ_ne {w : World} {base n size k : Nat} {e t : TypeId} {v : Value} {xs : List Value} {cs : Array Value} {f : Nat × Nat} (h : w.ownsRow base e size v n xs) (hk : w.heap[k]? = some (Obj.cells cs t f)) (hne : t ≠ e) : v.ownBlock ≠ some k := by
  intro hv
  rcases h.2 with ⟨rfl, _⟩ | ⟨g, cap, cur, rfl, _, hg, _⟩
  · cases hv
  · have : g = k := by simpa [Value.ownBlock] using hv
    subst this
    rw [hg] at hk
    injection hk with hk
    injection hk with _ hk _
    exact hne hk.symm
/-- One of an entry's. -/
def bfI (e : En) (i : Nat) : Bp := ⟨e.lo.n, IntKind.i64.wrap (e.lo.v + (i : Int)), IntKind.i64.wrap (e.lo.v + (i : Int)), e.ll[i]?.getD []⟩
theorem bfE_nil {e : En} (h : e.ll = []) : bfE e = [⟨e.lo.n, e.lo.v, e.hi.v, e.u⟩] := by unfold bfE; rw [if_pos h]
theorem bfE_cons {e : En} (h : e.ll ≠ []) : bfE e = (List.range e.ll.length).map (bfI e) := by unfold bfE; rw [if_neg h]; rfl
theorem bfE_len (e : En) : (bfE e).length ≤ e.ll.length + 1 := by
  by_cases h : e.ll = []
  · rw [bfE_nil h]; simp
  · rw [bfE_cons h]; simp
theorem flat_take {α β : Type} (f : α → List β) {d : List α} {k : Nat} {x : α} (h : d[k]? = some x) : (d.take (k + 1)).flatMap f = (d.take k).flatMap f ++ f x := by rw [take_last h, List.flatMap_append]; simp
theorem flat_le {α β : Type} (f : α → List β) (d : List α) (k : Nat) : ((d.take k).flatMap f).length ≤ (d.flatMap f).length := by
  conv => rhs; rw [← List.take_append_drop k d, List.flatMap_append, List.length_append]
  omega
theorem cells7 {w : World} {b : Nat} {t : TypeId} {f : Nat × Nat} {c0 c1 c2 c3 c4 c5 c6 : Value} (h : w.heap[b]? = some (Obj.cells #[c0, c1, c2, c3, c4, c5, c6] t f)) : w.cell? ⟨b, 0, none⟩ = some c0 ∧ w.cell? ⟨b, 1, none⟩ = some c1 ∧ w.cell? ⟨b, 2, none⟩ = some c2 ∧ w.cell? ⟨b, 3, none⟩ = some c3 ∧ w.cell? ⟨b, 4, none⟩ = some c4 ∧ w.cell? ⟨b, 5, none⟩ = some c5 ∧ w.cell? ⟨b, 6, none⟩ = some c6 := by
  simp [World.cell?, h]
set_option maxRecDepth 100000 in
set_option maxHeartbeats 4000000 in
theorem bfs_low {w0 : World} {v : Value} {es : List En} {w : World} (hx0 : Ex w0 (fun _ => False) v es) (hw : Below w0.heap.size w0 w) (hl : es.length ≤ 100000) (hb : (es.flatMap bfE).length ≤ 100000) (hll : ∀ e ∈ es, e.ll.length ≤ 100000) :
    Calls Tryz.prog 80 #[v] w fun e w' => ∃ (m : List Me) (A : Option Addr) (c : Nat), e = .returned (.slice A m.length c) ∧ (A = none → c = 0) ∧ Rd w' w'.heap.size A m ∧ Ul w0 m ∧ pl m = es.flatMap bfE ∧ Below w.heap.size w w' := by
  obtain ⟨e0, he0, hy0, hy1, hy2⟩ := info_parts infoB
  obtain ⟨d, hd, hr0, hn⟩ := hx0
  have hr := hr0.any (Kp.of_below hw)
  have HWW := Lib.hid hw
  obtain ⟨Av, cv, hve, _⟩ := id hr
  subst hve
  have hdl : d.length = es.length := by rw [hd]; simp
  rw [← hdl] at hl
  have hfl : ∀ k, ((d.take k).flatMap fun p => bfE p.1).length ≤ 100000 := fun k => by
    refine Nat.le_trans (flat_le _ d k) ?_
    rw [hd, List.flatMap_map] at hb
    exact hb
  have HFL := Lib.hid hfl
  have HLL := Lib.hid (fun p (hp : p ∈ d) => hll p.1 (by rw [hd]; exact List.mem_map_of_mem hp))
  have HR := Lib.hid hr
  have HN := Lib.hid hn
  have HD := Lib.hid hd
  clear hr hr0 hw hn hd hdl hfl hb hll
  generalize hnn : d.length = n at *
  have HL := Lib.hid hnn
  clear hnn
  go_enter Tryz.func80, Tryz.ntmps80
  go_wp2
  go_loopw [3, 10] (fun vo i wr => ∃ (k : Nat) (out : List Me), k ≤ n ∧ i = .int .i64 (k : Int) ∧ Hid (pl out = (d.take k).flatMap fun p => bfE p.1) ∧ Hid (Ul w0 out) ∧ Hid (wr.ownsRow w.heap.size 73 4 vo out.length (dvs out)) ∧ Hid (Below w.heap.size w wr)) (fun _ i _ => n - (intOf i).toNat)
  case atStart => exact ⟨0, [], Nat.zero_le _, rfl, Lib.hid rfl, Lib.hid (fun _ h => by cases h), Lib.hid (World.ownsRow_nil _ _ _ _), Lib.hid (Below.refl _ _)⟩
  case round =>
    obtain ⟨k, out, hk, rfl, HP, HU, HO, HB⟩ := hrel
    by_cases hkl : k < n
    · have t0 : decide (k < n) = true := by simp; omega
      obtain ⟨b, o, c, p, e1, g1, hm, q1⟩ := Rw.at HR.out (j := k) (by have := HL.out; omega)
      injection e1 with e1 e1n e1c
      clear e1n
      subst e1 e1c
      have hz := HN.out p hm
      have hllb := HLL.out p hm
      have HTk := Lib.hid (flat_take (fun p : En × Value × Value => bfE p.1) g1)
      have hfl1 := HFL.out (k + 1)
      rw [HTk.out, ← HP.out, List.length_append] at hfl1
      rw [pl_length] at hfl1
      obtain ⟨⟨⟨ln, lv⟩, ⟨hn, hv⟩, to, u, lx⟩, v1, x1⟩ := p
      obtain ⟨zu, zl⟩ := hz
      simp only at zu zl hllb hfl1
      obtain ⟨A1, s1, hv1, hcap1, hsi1⟩ := zu.si
      obtain ⟨dl, hdl, hrl, hnl⟩ := zl
      obtain ⟨A2, s2, hv2, _⟩ := id hrl
      have hdll : dl.length = lx.length := by rw [hdl]; simp
      rw [hdll] at hv2
      subst hv1 hv2
      have q0 := q1 0 _ rfl
      have hbl : b < w.heap.size := World.block_lt_of_cell? w _ q0
      have y0 : wr.cell? ⟨b, o + k * 7, none⟩ = some (.int .i64 ln) := by rw [HB.out.cell (p := ⟨b, o + k * 7, none⟩) hbl]; simpa using q0
      have y1 : wr.cell? ⟨b, o + k * 7 + 1, none⟩ = some (.int .i64 lv) := (HB.out.cell (p := ⟨b, o + k * 7 + 1, none⟩) hbl).trans (q1 1 _ rfl)
      have y2 : wr.cell? ⟨b, o + k * 7 + 2, none⟩ = some (.int .i64 hn) := (HB.out.cell (p := ⟨b, o + k * 7 + 2, none⟩) hbl).trans (q1 2 _ rfl)
      have y3 : wr.cell? ⟨b, o + k * 7 + 3, none⟩ = some (.int .i64 hv) := (HB.out.cell (p := ⟨b, o + k * 7 + 3, none⟩) hbl).trans (q1 3 _ rfl)
      have y4 : wr.cell? ⟨b, o + k * 7 + 4, none⟩ = some (.int .i64 to) := (HB.out.cell (p := ⟨b, o + k * 7 + 4, none⟩) hbl).trans (q1 4 _ rfl)
      have y5 : wr.cell? ⟨b, o + k * 7 + 5, none⟩ = some (.slice A1 u.length s1) := (HB.out.cell (p := ⟨b, o + k * 7 + 5, none⟩) hbl).trans (q1 5 _ rfl)
      have y6 : wr.cell? ⟨b, o + k * 7 + 6, none⟩ = some (.slice A2 lx.length s2) := (HB.out.cell (p := ⟨b, o + k * 7 + 6, none⟩) hbl).trans (q1 6 _ rfl)
      have hsz := HB.out.size
      clear q0 q1 g1 hm zu
      by_cases hlx : lx = []
      · have HUN : Hid (Un w0 A1 s1 u) := Lib.hid ⟨hcap1.1, hcap1.2, hsi1⟩
        have HBE := Lib.hid (bfE_nil (e := ⟨⟨ln, lv⟩, ⟨hn, hv⟩, to, u, lx⟩) hlx)
        have hbe1 : (bfE ⟨⟨ln, lv⟩, ⟨hn, hv⟩, to, u, lx⟩).length = 1 := by rw [HBE.out]; rfl
        rw [hbe1] at hfl1
        subst hlx
        simp only [List.length_nil] at y6 hllb
        generalize hun : u.length = un at *
        have HUL := Lib.hid hun
        clear hcap1 hsi1 hrl hnl hdll hdl hbe1 hun
        go_wp2_with (at_builtin; go_loud (refine wpList_append_lies _ rfl _ _ _ rfl w.heap.size 73 e0 (.agg #[.int .i64 0, .int .i64 0, .int .i64 0, .slice none 0 0]) 4 48 Tryz.underlying25 he0 hy0 hy1 hy2 rfl (by omega) _ _ _ rfl ((HO.out.alloc _).alloc _) ⟨wr.heap.size + 1, 0, none⟩ 1 1 (fq ⟨⟨ln, lv, hv, u⟩, A1, s1⟩) rfl rfl (by have := news2 wr (.cells #[.int .i64 ln, .int .i64 lv, .int .i64 hn, .int .i64 hv, .int .i64 to, .slice A1 un s1, .slice A2 0 s2] 69) #[.int .i64 ln, .int .i64 lv, .int .i64 hv, .slice A1 un s1] 73; rw [← HUL.out] at this ⊢; exact this) (by intro y hy; exact dvs_one [⟨⟨ln, lv, hv, u⟩, A1, s1⟩] y (by simpa [dvs] using hy)) (by omega) (by unfold maxLen; omega) (by omega) (by simp; omega) _ rfl ?_; intro g cap w1 hown1 hgrow hat hgl; have x6 : w1.cell? ⟨wr.heap.size, 6, none⟩ = some (.slice A2 0 s2) := (cells7 ((hgrow.block wr.heap.size (by simp; omega) (fun e => by have := (HO.out.lt _ e.symm).2; omega)).trans ((Below.heap_alloc _ _ _ (by simp)).trans (heap_alloc_new wr _)))).2.2.2.2.2.2))
        have z1 : Below w.heap.size w w1 := ((HB.out.alloc hsz _).alloc (by simp; omega) _).grown hgrow (by simp; omega) (fun q hq => (HO.out.lt q hq).1)
        have HO1 : Hid (w1.ownsRow w.heap.size 73 4 (.slice (some ⟨g, 0, none⟩) (out.length + 1) cap) (out ++ [(⟨⟨ln, lv, hv, u⟩, A1, s1⟩ : Me)]).length (dvs (out ++ [⟨⟨ln, lv, hv, u⟩, A1, s1⟩]))) := Lib.hid (by rw [dvs_snoc, List.length_append]; exact hown1)
        have HZ1 := Lib.hid z1
        clear hown1 hgrow hat hgl z1 y0 y1 y2 y3 y4 y5 y6
        try go_wp2
        go_loopw [3, 36] (fun vo i wx => i = .int .i64 0 ∧ vo = .slice (some ⟨g, 0, none⟩) (out.length + 1) cap ∧ wx = w1) (fun _ _ _ => 0)
        case atStart => exact ⟨rfl, rfl, rfl⟩
        case round =>
          obtain ⟨rfl, rfl, rfl⟩ := hrel
          go_wp2
          refine ⟨⟨k + 1, out ++ [⟨⟨ln, lv, hv, u⟩, A1, s1⟩], by omega, by go_num, Lib.hid ?_, Lib.hid ?_, HO1, HZ1⟩, by simp [intOf]; omega⟩
          · rw [HTk.out, HBE.out, pl_append, HP.out]
            rfl
          · intro m hm
            rcases List.mem_append.1 hm with hm | hm
            · exact HU.out m hm
            · rw [List.mem_singleton] at hm
              subst hm
              exact HUN.out
      · have HBE := Lib.hid (bfE_cons (e := ⟨⟨ln, lv⟩, ⟨hn, hv⟩, to, u, lx⟩) hlx)
        have hbe1 : (bfE ⟨⟨ln, lv⟩, ⟨hn, hv⟩, to, u, lx⟩).length = lx.length := by rw [HBE.out]; simp
        rw [hbe1] at hfl1
        have hlp : 0 < lx.length := List.length_pos_iff.2 hlx
        have HRL := Lib.hid (Rw.any hrl (Kp.of_below HWW.out))
        have HNL := Lib.hid hnl
        have HDL := Lib.hid hdl
        have HDLL := Lib.hid hdll
        have HBX : Hid ((wr.alloc (.cells #[.int .i64 ln, .int .i64 lv, .int .i64 hn, .int .i64 hv, .int .i64 to, .slice A1 u.length s1, .slice A2 lx.length s2] 69)).heap[wr.heap.size]? = some (.cells #[.int .i64 ln, .int .i64 lv, .int .i64 hn, .int .i64 hv, .int .i64 to, .slice A1 u.length s1, .slice A2 lx.length s2] 69 (0, 0))) := Lib.hid (heap_alloc_new wr _)
        have HOA := Lib.hid (HO.out.alloc (.cells #[.int .i64 ln, .int .i64 lv, .int .i64 hn, .int .i64 hv, .int .i64 to, .slice A1 u.length s1, .slice A2 lx.length s2] 69))
        have HBA := Lib.hid (HB.out.alloc hsz (.cells #[.int .i64 ln, .int .i64 lv, .int .i64 hn, .int .i64 hv, .int .i64 to, .slice A1 u.length s1, .slice A2 lx.length s2] 69))
        clear hcap1 hsi1 hrl hnl hdl hdll hbe1 hlx
        generalize hbx : wr.heap.size = BX at *
        have HBXe := Lib.hid hbx
        have hBX : w.heap.size ≤ BX := by omega
        clear hbx
        generalize hlxn : lx.length = ln2 at *
        have HLX := Lib.hid hlxn
        have hl0 : ((ln2 : Int) == 0) = false := by simp; omega
        clear hlxn
        go_wp2
        clear y0 y1 y2 y3 y4 y5 y6
        rw [HBXe.out] at *
        generalize wr.alloc (.cells #[.int .i64 ln, .int .i64 lv, .int .i64 hn, .int .i64 hv, .int .i64 to, .slice A1 u.length s1, .slice A2 ln2 s2] 69) = W1 at *
        go_loopw [3, 36] (fun vo i wr => ∃ (j : Nat) (o2 : List Me), j ≤ ln2 ∧ i = .int .i64 (j : Int) ∧ Hid (o2.length = out.length + j) ∧ Hid (pl o2 = pl out ++ ((List.range j).map (bfI ⟨⟨ln, lv⟩, ⟨hn, hv⟩, to, u, lx⟩))) ∧ Hid (Ul w0 o2) ∧ Hid (wr.ownsRow w.heap.size 73 4 vo o2.length (dvs o2)) ∧ Hid (Below w.heap.size w wr) ∧ Hid (wr.heap[BX]? = some (.cells #[.int .i64 ln, .int .i64 lv, .int .i64 hn, .int .i64 hv, .int .i64 to, .slice A1 u.length s1, .slice A2 ln2 s2] 69 (0, 0)))) (fun _ i _ => ln2 - (intOf i).toNat)
        case atStart => exact ⟨0, out, Nat.zero_le _, rfl, Lib.hid rfl, Lib.hid (by simp), HU, HOA, HBA, HBX⟩
        case round =>
          obtain ⟨j, o2, hj, rfl, HOL, HP2, HU2, HO2, HB2, HX2⟩ := hrel
          by_cases hjl : j < ln2
          · have t1 : decide (j < ln2) = true := by simp; omega
            obtain ⟨b2, p2, c2, q, f1, f2, f3, f4⟩ := Rw.at HRL.out (j := j) (by have := HDLL.out; have := HLX.out; omega)
            injection f1 with f1 f1n f1c
            clear f1n
            subst f1 f1c
            have hzq := HNL.out q f3
            obtain ⟨qu, qv⟩ := q
            simp only at hzq
            obtain ⟨A3, s3, hv3, hcap3, hsi3⟩ := hzq.si
            subst hv3
            have HUN : Hid (Un w0 A3 s3 qu) := Lib.hid ⟨hcap3.1, hcap3.2, hsi3⟩
            have HQ : Hid (lx[j]?.getD [] = qu) := Lib.hid (by rw [HDL.out, List.getElem?_map, f2]; rfl)
            have hb2l : b2 < w.heap.size := World.block_lt_of_cell? w _ (f4 0 _ rfl)
            have x0 : wr.cell? ⟨b2, p2 + j, none⟩ = some (.slice A3 qu.length s3) := by
              have := (HB2.out.cell (p := ⟨b2, p2 + j * 1 + 0, none⟩) hb2l).trans (f4 0 _ rfl)
              simpa using this
            obtain ⟨k0, k1, k2, k3, k4, k5, k6⟩ := cells7 HX2.out
            have hs2 := HB2.out.size
            have hob : o2.length ≤ 100000 := by have := HOL.out; omega
            have HNE := Lib.hid (own_typ_ne HO2.out HX2.out (by decide))
            have HBXl : Hid (BX < wr.heap.size) := Lib.hid (Array.getElem?_eq_some_iff.1 HX2.out).1
            generalize hqn : qu.length = qn at *
            have HQN := Lib.hid hqn
            clear hcap3 hsi3 hzq f2 f3 f4 hqn
            generalize hwl : IntKind.i64.wrap (lv + (j : Int)) = wl at *
            have HWL := Lib.hid hwl
            clear hwl
            have hbi : wrap64 (lv + (j : Int)) = wl := by rw [← HWL.out]; simp [wrap64, IntKind.wrap_i64]
            go_wp2_with (at_builtin; refine wpList_append_lies _ rfl _ _ _ rfl w.heap.size 73 e0 (.agg #[.int .i64 0, .int .i64 0, .int .i64 0, .slice none 0 0]) 4 48 Tryz.underlying25 he0 hy0 hy1 hy2 rfl (by omega) _ _ _ rfl (HO2.out.alloc _) ⟨wr.heap.size, 0, none⟩ 1 1 (fq ⟨⟨ln, wl, wl, qu⟩, A3, s3⟩) rfl rfl (by have := World.news_of_block (heap_alloc_new wr (.cells #[.int .i64 ln, .int .i64 wl, .int .i64 wl, .slice A3 qn s3] 73)); rw [← HQN.out] at this ⊢; exact this) (by intro y hy; exact dvs_one [⟨⟨ln, wl, wl, qu⟩, A3, s3⟩] y (by simpa [dvs] using hy)) (by omega) (by unfold maxLen; omega) (by omega) (by simp; omega) _ rfl ?_; intro g cap w4 hown4 hgrow hat hgl)
            have z4 : Below w.heap.size w w4 := (HB2.out.alloc hs2 _).grown hgrow (by simp; omega) (fun q hq => (HO2.out.lt q hq).1)
            have hx4 : w4.heap[BX]? = wr.heap[BX]? := by
              have hBXl := HBXl.out
              exact (hgrow.block BX (by simp; omega) (fun e => HNE.out e.symm)).trans (Below.heap_alloc wr _ BX hBXl)
            refine ⟨⟨j + 1, o2 ++ [⟨⟨ln, wl, wl, qu⟩, A3, s3⟩], by omega, by go_num, Lib.hid (by have := HOL.out; simp; omega), Lib.hid ?_, Lib.hid ?_, Lib.hid (by rw [dvs_snoc, List.length_append]; exact hown4), Lib.hid z4, Lib.hid (hx4.trans HX2.out)⟩, by simp [intOf]; omega⟩
            · rw [pl_append, HP2.out, List.range_succ, List.map_append, List.append_assoc]
              congr 2
              show [_] = [_]
              rw [bfI]
              simp only [HWL.out, HQ.out]
            · intro m hm
              rcases List.mem_append.1 hm with hm | hm
              · exact HU2.out m hm
              · rw [List.mem_singleton] at hm
                subst hm
                exact HUN.out
          · have t1 : decide (j < ln2) = false := by simp; omega
            obtain rfl : j = ln2 := by omega
            go_wp2
            refine ⟨⟨k + 1, o2, by omega, by go_num, Lib.hid ?_, HU2, HO2, HB2⟩, by simp [intOf]; omega⟩
            rw [HTk.out, HBE.out, HP2.out, HP.out]
    · have t0 : decide (k < n) = false := by simp; omega
      obtain rfl : k = n := by omega
      obtain ⟨Ao, co, hvo, hno⟩ := row_end HO.out
      have htk : d.take k = d := List.take_of_length_le (by have := HL.out; omega)
      have hP := HP.out
      rw [htk, show (d.flatMap fun p => bfE p.1) = es.flatMap bfE by rw [HD.out, List.flatMap_map]] at hP
      obtain ⟨c, hnl, _, A2, hv2, _, hrd⟩ := Rd.of_own HO.out
      rw [hvo] at hv2
      injection hv2 with e1 e2 e3
      subst e1 e3
      have HS := Lib.hid hrd
      have HNO := Lib.hid hno
      have HPP := Lib.hid hP
      subst hvo
      clear hrd hno htk hnl e2 hP
      go_wp2
      go_ret
      exact ⟨out, _, _, rfl, HNO.out, HS.out, HU.out, HPP.out, HB.out⟩
end Go.Proofs.YtmjneokjgcgchaaGreat
