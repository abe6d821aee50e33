/-
  Entries as codespaces, as spans: the program's own.
-/
import Derived.Test.YtmjneokjgcgchaaGreatPart3
import Derived.Test.YtmjneokjgcgchaaGreatPart1
import Derived.Test.YtmjneokjgcgchaaGreatPart2
import Derived.Test.YtmjneokjgcgchaaGreatPart4
namespace Go.Proofs.YtmjneokjgcgchaaGreat
open Go.RowKit

/-- The cells of a block that was just made, behind another one. -/
theorem news2 (W : World) (O : Obj) (cs : Array Value) (t : TypeId) : ∀ j u, cs.toList[j]? = some u → ((W.alloc O).alloc (.cells cs t)).cell? ((⟨W.heap.size + 1, 0, none⟩ : Addr).add j) = some u := by
  have := World.news_of_block (heap_alloc_new (W.alloc O) (.cells cs t))
  simpa using this
theorem rvs_snoc (l : List Rc) (x : Rc) : rvs (l ++ [x]) = rvs l ++ rq x := by simp [rvs]
theorem svs_snoc (l : List Sp) (x : Sp) : svs (l ++ [x]) = svs l ++ sq x := by simp [svs]
/-- A block of seven cells: an entry. -/
theorem row_end {w : World} {base n size : Nat} {e : TypeId} {v : Value} {xs : List Value} (h : w.ownsRow base e size v n xs) : ∃ A c, v = .slice A n c ∧ (A = none → c = 0) := by
  rcases h.2 with ⟨rfl, h0⟩ | ⟨g, cap, cur, rfl, _⟩
  · exact ⟨none, 0, by rw [h0], fun _ => rfl⟩
  · exact ⟨_, _, rfl, fun e => by cases e⟩
set_option maxRecDepth 100000 in
set_option maxHeartbeats 4000000 in
theorem rects_any {X : Nat → Prop} {v : Value} {es : List En} (w : World) (hx : Ex w X v es) (hl : es.length ≤ 100000) :
    Calls Tryz.prog 71 #[v] w fun e w' => ∃ A c, e = .returned (.slice A es.length c) ∧ (A = none → c = 0) ∧ Sr w' w'.heap.size A (es.map rcE) ∧ Below w.heap.size w w' := by
  obtain ⟨e0, he0, hy0, hy1, hy2⟩ := info_parts infoR
  obtain ⟨d, hd, hr, hn⟩ := hx
  obtain ⟨Av, cv, hve, _⟩ := id hr
  subst hve
  have hdl : d.length = es.length := by rw [hd]; simp
  rw [← hdl] at hl ⊢
  have HR := Lib.hid hr
  have HN := Lib.hid hn
  have HD := Lib.hid hd
  clear hr hn hd hdl
  generalize hnn : d.length = n at *
  have HL := Lib.hid hnn
  clear hnn
  go_enter Tryz.func71, Tryz.ntmps71
  go_wp2
  go_loopw [3, 8] (fun vo i wr => ∃ k : Nat, k ≤ n ∧ i = .int .i64 (k : Int) ∧ Hid (wr.ownsRow w.heap.size 62 3 vo k (rvs ((d.take k).map fun p => rcE p.1))) ∧ Hid (Below w.heap.size w wr)) (fun _ i _ => n - (intOf i).toNat)
  case atStart => exact ⟨0, Nat.zero_le _, rfl, Lib.hid (World.ownsRow_nil _ _ _ _), Lib.hid (Below.refl _ _)⟩
  case round =>
    obtain ⟨k, hk, rfl, HO, HB⟩ := hrel
    by_cases hkl : k < n
    · have t0 : decide (k < n) = true := by simp; omega
      obtain ⟨b, o, c, p, e1, g1, hm, q1⟩ := Rw.at HR.out (j := k) (by have := HL.out; omega)
      injection e1 with e1 e1n e1c
      clear e1n
      subst e1 e1c
      have hz := HN.out p hm
      have HTk := Lib.hid (take_last g1)
      obtain ⟨⟨⟨ln, lv⟩, ⟨hn, hv⟩, to, u, lx⟩, v1, x1⟩ := p
      obtain ⟨zu, zl⟩ := hz
      simp only at zu zl
      obtain ⟨A1, s1, hv1, _⟩ := id zu
      obtain ⟨A2, n2, s2, hv2⟩ := zl.shape'
      subst hv1 hv2
      generalize u.length = n1 at *
      have q0 := q1 0 _ rfl
      have hbl : b < w.heap.size := World.block_lt_of_cell? w _ q0
      have y0 : wr.cell? ⟨b, o + k * 7, none⟩ = some (.int .i64 ln) := by rw [HB.out.cell (p := ⟨b, o + k * 7, none⟩) hbl]; simpa using q0
      have y1 : wr.cell? ⟨b, o + k * 7 + 1, none⟩ = some (.int .i64 lv) := (HB.out.cell (p := ⟨b, o + k * 7 + 1, none⟩) hbl).trans (q1 1 _ rfl)
      have y2 : wr.cell? ⟨b, o + k * 7 + 2, none⟩ = some (.int .i64 hn) := (HB.out.cell (p := ⟨b, o + k * 7 + 2, none⟩) hbl).trans (q1 2 _ rfl)
      have y3 : wr.cell? ⟨b, o + k * 7 + 3, none⟩ = some (.int .i64 hv) := (HB.out.cell (p := ⟨b, o + k * 7 + 3, none⟩) hbl).trans (q1 3 _ rfl)
      have y4 : wr.cell? ⟨b, o + k * 7 + 4, none⟩ = some (.int .i64 to) := (HB.out.cell (p := ⟨b, o + k * 7 + 4, none⟩) hbl).trans (q1 4 _ rfl)
      have y5 : wr.cell? ⟨b, o + k * 7 + 5, none⟩ = some (.slice A1 n1 s1) := (HB.out.cell (p := ⟨b, o + k * 7 + 5, none⟩) hbl).trans (q1 5 _ rfl)
      have y6 : wr.cell? ⟨b, o + k * 7 + 6, none⟩ = some (.slice A2 n2 s2) := (HB.out.cell (p := ⟨b, o + k * 7 + 6, none⟩) hbl).trans (q1 6 _ rfl)
      have hsz := HB.out.size
      clear q0 q1 zu zl g1 hm
      go_wp2_with (at_builtin; refine wpList_append_lies _ rfl _ _ _ rfl w.heap.size 62 e0 (.agg #[.int .i64 0, .int .i64 0, .int .i64 0]) 3 24 Tryz.underlying23 he0 hy0 hy1 hy2 rfl (by omega) _ _ _ rfl ((HO.out.alloc _).alloc _) ⟨wr.heap.size + 1, 0, none⟩ 1 1 (rq (rcE ⟨⟨ln, lv⟩, ⟨hn, hv⟩, to, u, lx⟩)) rfl rfl (news2 _ _ #[.int .i64 ln, .int .i64 lv, .int .i64 hv] _) (by intro y hy; exact rvs_one [rcE ⟨⟨ln, lv⟩, ⟨hn, hv⟩, to, u, lx⟩] y (by simpa [rvs] using hy)) (by omega) (by unfold maxLen; omega) (by omega) (by simp; omega) _ rfl ?_; intro g cap w1 hown1 hgrow hat hgl)
      have z1 : Below w.heap.size w w1 := ((HB.out.alloc hsz _).alloc (by simp; omega) _).grown hgrow (by simp; omega) (fun q hq => (HO.out.lt q hq).1)
      refine ⟨⟨k + 1, by omega, by go_num, Lib.hid ?_, Lib.hid z1⟩, by simp [intOf]; omega⟩
      rw [HTk.out, List.map_append, List.map_cons, List.map_nil, rvs_snoc]
      exact hown1
    · have t0 : decide (k < n) = false := by simp; omega
      obtain rfl : k = n := by omega
      obtain ⟨Ao, co, hvo, hno⟩ := row_end HO.out
      have htk : d.take k = d := List.take_of_length_le (by have := HL.out; omega)
      have hO := HO.out
      rw [htk, show (d.map fun p => rcE p.1) = es.map rcE by rw [HD.out, List.map_map]; rfl] at hO
      obtain ⟨c, hnl, _, A2, hv2, hsr⟩ := Sr.of_own hO
      rw [hvo] at hv2
      injection hv2 with e1 e2 e3
      subst e1 e3
      have HS := Lib.hid hsr
      have HNO := Lib.hid hno
      have HBB := Lib.hid HB.out
      subst hvo
      clear hO hsr hno htk hnl e2
      go_wp2
      go_ret
      exact ⟨_, _, rfl, HNO.out, HS.out, HBB.out⟩
set_option maxRecDepth 100000 in
set_option maxHeartbeats 4000000 in
theorem spans_any {X : Nat → Prop} {v : Value} {es : List En} (w : World) (hx : Ex w X v es) (hl : es.length ≤ 100000) :
    Calls Tryz.prog 74 #[v] w fun e w' => ∃ A c, e = .returned (.slice A es.length c) ∧ (A = none → c = 0) ∧ Ss w' w'.heap.size A (es.map spE) ∧ Below w.heap.size w w' := by
  obtain ⟨e0, he0, hy0, hy1, hy2⟩ := info_parts infoS
  obtain ⟨d, hd, hr, hn⟩ := hx
  obtain ⟨Av, cv, hve, _⟩ := id hr
  subst hve
  have hdl : d.length = es.length := by rw [hd]; simp
  rw [← hdl] at hl ⊢
  have HR := Lib.hid hr
  have HN := Lib.hid hn
  have HD := Lib.hid hd
  clear hr hn hd hdl
  generalize hnn : d.length = n at *
  have HL := Lib.hid hnn
  clear hnn
  go_enter Tryz.func74, Tryz.ntmps74
  go_wp2
  go_loopw [3, 8] (fun vo i wr => ∃ k : Nat, k ≤ n ∧ i = .int .i64 (k : Int) ∧ Hid (wr.ownsRow w.heap.size 87 4 vo k (svs ((d.take k).map fun p => spE p.1))) ∧ Hid (Below w.heap.size w wr)) (fun _ i _ => n - (intOf i).toNat)
  case atStart => exact ⟨0, Nat.zero_le _, rfl, Lib.hid (World.ownsRow_nil _ _ _ _), Lib.hid (Below.refl _ _)⟩
  case round =>
    obtain ⟨k, hk, rfl, HO, HB⟩ := hrel
    by_cases hkl : k < n
    · have t0 : decide (k < n) = true := by simp; omega
      obtain ⟨b, o, c, p, e1, g1, hm, q1⟩ := Rw.at HR.out (j := k) (by have := HL.out; omega)
      injection e1 with e1 e1n e1c
      clear e1n
      subst e1 e1c
      have hz := HN.out p hm
      have HTk := Lib.hid (take_last g1)
      obtain ⟨⟨⟨ln, lv⟩, ⟨hn, hv⟩, to, u, lx⟩, v1, x1⟩ := p
      obtain ⟨zu, zl⟩ := hz
      simp only at zu zl
      obtain ⟨A1, s1, hv1, _⟩ := id zu
      obtain ⟨A2, n2, s2, hv2⟩ := zl.shape'
      subst hv1 hv2
      generalize u.length = n1 at *
      have q0 := q1 0 _ rfl
      have hbl : b < w.heap.size := World.block_lt_of_cell? w _ q0
      have y0 : wr.cell? ⟨b, o + k * 7, none⟩ = some (.int .i64 ln) := by rw [HB.out.cell (p := ⟨b, o + k * 7, none⟩) hbl]; simpa using q0
      have y1 : wr.cell? ⟨b, o + k * 7 + 1, none⟩ = some (.int .i64 lv) := (HB.out.cell (p := ⟨b, o + k * 7 + 1, none⟩) hbl).trans (q1 1 _ rfl)
      have y2 : wr.cell? ⟨b, o + k * 7 + 2, none⟩ = some (.int .i64 hn) := (HB.out.cell (p := ⟨b, o + k * 7 + 2, none⟩) hbl).trans (q1 2 _ rfl)
      have y3 : wr.cell? ⟨b, o + k * 7 + 3, none⟩ = some (.int .i64 hv) := (HB.out.cell (p := ⟨b, o + k * 7 + 3, none⟩) hbl).trans (q1 3 _ rfl)
      have y4 : wr.cell? ⟨b, o + k * 7 + 4, none⟩ = some (.int .i64 to) := (HB.out.cell (p := ⟨b, o + k * 7 + 4, none⟩) hbl).trans (q1 4 _ rfl)
      have y5 : wr.cell? ⟨b, o + k * 7 + 5, none⟩ = some (.slice A1 n1 s1) := (HB.out.cell (p := ⟨b, o + k * 7 + 5, none⟩) hbl).trans (q1 5 _ rfl)
      have y6 : wr.cell? ⟨b, o + k * 7 + 6, none⟩ = some (.slice A2 n2 s2) := (HB.out.cell (p := ⟨b, o + k * 7 + 6, none⟩) hbl).trans (q1 6 _ rfl)
      have hsz := HB.out.size
      clear q0 q1 zu zl g1 hm
      go_wp2_with (at_builtin; refine wpList_append_lies _ rfl _ _ _ rfl w.heap.size 87 e0 (.agg #[.int .i64 0, .int .i64 0, .int .i64 0, .int .i64 0]) 4 32 Tryz.underlying24 he0 hy0 hy1 hy2 rfl (by omega) _ _ _ rfl ((HO.out.alloc _).alloc _) ⟨wr.heap.size + 1, 0, none⟩ 1 1 (sq (spE ⟨⟨ln, lv⟩, ⟨hn, hv⟩, to, u, lx⟩)) rfl rfl (news2 _ _ #[.int .i64 ln, .int .i64 lv, .int .i64 hv, .int .i64 to] _) (by intro y hy; exact svs_one [spE ⟨⟨ln, lv⟩, ⟨hn, hv⟩, to, u, lx⟩] y (by simpa [svs] using hy)) (by omega) (by unfold maxLen; omega) (by omega) (by simp; omega) _ rfl ?_; intro g cap w1 hown1 hgrow hat hgl)
      have z1 : Below w.heap.size w w1 := ((HB.out.alloc hsz _).alloc (by simp; omega) _).grown hgrow (by simp; omega) (fun q hq => (HO.out.lt q hq).1)
      refine ⟨⟨k + 1, by omega, by go_num, Lib.hid ?_, Lib.hid z1⟩, by simp [intOf]; omega⟩
      rw [HTk.out, List.map_append, List.map_cons, List.map_nil, svs_snoc]
      exact hown1
    · have t0 : decide (k < n) = false := by simp; omega
      obtain rfl : k = n := by omega
      obtain ⟨Ao, co, hvo, hno⟩ := row_end HO.out
      have htk : d.take k = d := List.take_of_length_le (by have := HL.out; omega)
      have hO := HO.out
      rw [htk, show (d.map fun p => spE p.1) = es.map spE by rw [HD.out, List.map_map]; rfl] at hO
      obtain ⟨c, hnl, _, A2, hv2, hsr⟩ := Ss.of_own hO
      rw [hvo] at hv2
      injection hv2 with e1 e2 e3
      subst e1 e3
      have HS := Lib.hid hsr
      have HNO := Lib.hid hno
      have HBB := Lib.hid HB.out
      subst hvo
      clear hO hsr hno htk hnl e2
      go_wp2
      go_ret
      exact ⟨_, _, rfl, HNO.out, HS.out, HBB.out⟩
end Go.Proofs.YtmjneokjgcgchaaGreat
