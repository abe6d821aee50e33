/-
  The law's copies of items and entries, as the document's own: the same lists, in new memory.
-/
import Derived.Test.YthcnjiigkmljnaaGreatDoorSynRef12
import Derived.Test.YthcnjiigkmljnaaGreatDoorSynSame
import Derived.Deep.RegionHeldLaw
namespace Go.Proofs.YthcnjiigkmljnaaGreatDoor
open Go.RowKit

@[go_sem] theorem bldR6 (ln lv hn hv t : Int) (A B : Option Addr) (n c m d : Nat) (w : World) : (Instr.build 75 #[(0, .agg #[.int .i64 ln, .int .i64 lv]), (1, .agg #[.int .i64 hn, .int .i64 hv]), (2, .int .i64 t), (3, .slice A n c), (4, .slice B m d)]).run Tryz.prog w = .ok (.agg #[.int .i64 ln, .int .i64 lv, .int .i64 hn, .int .i64 hv, .int .i64 t, .slice A n c, .slice B m d]) w := run_build w 75 _ _ (by kernel_rfl)
@[go_sem] theorem bldJ6 (k at_ : Int) (s : ByteArray) (a b n : Int) (z : ByteArray) (A : Option Addr) (m c : Nat) (w : World) : (Instr.build 61 #[(0, .int .i64 k), (1, .int .i64 at_), (2, .string s), (3, .agg #[.int .i64 a, .int .i64 b, .int .i64 n, .string z]), (4, .slice A m c)]).run Tryz.prog w = .ok (.agg #[.int .i64 k, .int .i64 at_, .string s, .int .i64 a, .int .i64 b, .int .i64 n, .string z, .slice A m c]) w := run_build w 61 _ _ (by kernel_rfl)
theorem infoRI' : (Tryz.prog.info? 61).map (fun i => (i.zero, i.size, i.bytes)) = some (some (.agg #[.int .i64 0, .int .i64 0, .string ⟨#[]⟩, .int .i64 0, .int .i64 0, .int .i64 0, .string ⟨#[]⟩, .slice none 0 0]), 8, 96) := by kernel_rfl
theorem take_last {α : Type} {d : List α} {k : Nat} {x : α} (h : d[k]? = some x) : d.take (k + 1) = d.take k ++ [x] := by rw [List.take_add_one, h]; rfl
theorem Rw.old {α : Type} {w : World} {X : Nat → Prop} {k : Nat} {q : α → List Value} {v : Value} {l : List α} (h : Rw w X k q v l) : Rw w (fun b => w.heap.size ≤ b) k q v l := by
  obtain ⟨A, c, e, hc, hh⟩ := h
  refine ⟨A, c, e, hc, fun hn => ?_⟩
  obtain ⟨b, o, e2, hb, _, hcl⟩ := hh hn
  exact ⟨b, o, e2, hb, fun h => Nat.not_le_of_lt hb h, hcl⟩
theorem Lx.old {w : World} {X : Nat → Prop} {v : Value} {l : List (List Int)} (h : Lx w X v l) : Lx w (fun b => w.heap.size ≤ b) v l := by
  obtain ⟨d, e, r, n⟩ := h
  exact ⟨d, e, r.old, fun p hp => Rw.old (n p hp)⟩
theorem Ex.old {w : World} {X : Nat → Prop} {v : Value} {l : List En} (h : Ex w X v l) : Ex w (fun b => w.heap.size ≤ b) v l := by
  obtain ⟨d, e, r, n⟩ := h
  exact ⟨d, e, r.old, fun p hp => ⟨Rw.old (n p hp).1, Lx.old (n p hp).2⟩⟩
theorem Ix.old {w : World} {X : Nat → Prop} {v : Value} {l : List Im} (h : Ix w X v l) : Ix w (fun b => w.heap.size ≤ b) v l := by
  obtain ⟨d, e, r, n⟩ := h
  exact ⟨d, e, r.old, fun p hp => (n p hp).old⟩
section
variable {w : World} {v : Value}
set_option maxRecDepth 100000 in
set_option maxHeartbeats 4000000 in
theorem ents_any {N : Nat} {es : List En} (hx : Ex w (fun b => N ≤ b) v es) (_hN : N ≤ w.heap.size) (hl : es.length ≤ 1048576) :
    Calls Tryz.prog 21 #[v] w fun r w' => ∃ v', r = .returned v' ∧ Ex w' (fun b => N ≤ b ∧ b < w.heap.size) v' es ∧ Below w.heap.size w w' := by
  obtain ⟨e0, he0, hy0, hy1, hy2⟩ := info_parts infoRE
  obtain ⟨d, hd, hr, hn⟩ := hx
  obtain ⟨Av, cv, hve, _⟩ := id hr
  subst hve
  have hdl : d.length = es.length := by rw [hd]; simp
  have hdl2 : d.length ≤ 1048576 := by omega
  have HR := Lib.hid hr
  have HN := Lib.hid hn
  have HD := Lib.hid hd
  clear hr hn hd hl hdl
  have HO0 : Hid (w.ownsRow w.heap.size 75 7 (.slice none 0 0) 0 ((d.take 0).flatMap dq)) := Lib.hid (World.ownsRow_nil _ _ _ _)
  generalize hnn : d.length = n at *
  have HL := Lib.hid hnn
  clear hnn
  go_enter Tryz.func21, Tryz.ntmps21
  go_wp2
  go_loopw [3, 4] (fun vo i wr => ∃ k : Nat, k ≤ n ∧ i = .int .i64 (k : Int) ∧ Hid (wr.ownsRow w.heap.size 75 7 vo k ((d.take k).flatMap dq)) ∧ Hid (Below w.heap.size w wr)) (fun _ i _ => n - (intOf i).toNat)
  case atStart => exact ⟨0, Nat.zero_le _, rfl, HO0, Lib.hid (Below.refl _ _)⟩
  case round =>
    obtain ⟨k, hk, rfl, HO, HB⟩ := hrel
    by_cases hkl : k < n
    · have t0 : decide (k < n) = true := by simp; omega
      obtain ⟨b, o, c, p, e1, g1, hm, q1⟩ := Rw.at HR.out (j := k) (by have := HL.out; omega)
      injection e1 with e1 e1n e1c
      clear e1n
      subst e1 e1c
      have hz := HN.out p hm
      have HTk := Lib.hid (take_last g1)
      obtain ⟨⟨⟨ln, lv⟩, ⟨hn, hv⟩, to, u, lx⟩, v1, x1⟩ := p
      obtain ⟨zu, zl⟩ := hz
      simp only at zu zl
      obtain ⟨A1, s1, hv1, _⟩ := id zu
      obtain ⟨A2, n2, s2, hv2⟩ := zl.shape'
      subst hv1 hv2
      generalize u.length = n1 at *
      have q0 := q1 0 _ rfl
      have hbl : b < w.heap.size := World.block_lt_of_cell? w _ q0
      have hS : ∀ w', Below w.heap.size w w' → w'.cell? ⟨b, o + k * 7, none⟩ = some (.int .i64 ln) ∧ w'.cell? ⟨b, o + k * 7 + 1, none⟩ = some (.int .i64 lv) ∧ w'.cell? ⟨b, o + k * 7 + 2, none⟩ = some (.int .i64 hn) ∧ w'.cell? ⟨b, o + k * 7 + 3, none⟩ = some (.int .i64 hv) ∧ w'.cell? ⟨b, o + k * 7 + 4, none⟩ = some (.int .i64 to) ∧ w'.cell? ⟨b, o + k * 7 + 5, none⟩ = some (.slice A1 n1 s1) ∧ w'.cell? ⟨b, o + k * 7 + 6, none⟩ = some (.slice A2 n2 s2) := fun w' hb => ⟨by rw [hb.cell (p := ⟨b, o + k * 7, none⟩) hbl]; simpa using q0, (hb.cell (p := ⟨b, o + k * 7 + 1, none⟩) hbl).trans (q1 1 _ rfl), (hb.cell (p := ⟨b, o + k * 7 + 2, none⟩) hbl).trans (q1 2 _ rfl), (hb.cell (p := ⟨b, o + k * 7 + 3, none⟩) hbl).trans (q1 3 _ rfl), (hb.cell (p := ⟨b, o + k * 7 + 4, none⟩) hbl).trans (q1 4 _ rfl), (hb.cell (p := ⟨b, o + k * 7 + 5, none⟩) hbl).trans (q1 5 _ rfl), (hb.cell (p := ⟨b, o + k * 7 + 6, none⟩) hbl).trans (q1 6 _ rfl)⟩
      have HS := Lib.hid hS
      have hsz := HB.out.size
      have z0 : Below w.heap.size w wr.drew := HB.out.drew
      have zA : Below w.heap.size w ((wr.alloc (.cells #[.int .i64 ln, .int .i64 lv, .int .i64 hn, .int .i64 hv, .int .i64 to, .slice A1 n1 s1, .slice A2 n2 s2] 75)).drew) := (HB.out.alloc hsz _).drew
      clear hS q0 q1 zu zl g1 hm
      go_wp2
      go_region_held_law (fun w' => w'.cell? ⟨b, o + k * 7, none⟩ = some (.int .i64 ln) ∧ w'.cell? ⟨b, o + k * 7 + 1, none⟩ = some (.int .i64 lv) ∧ w'.cell? ⟨b, o + k * 7 + 2, none⟩ = some (.int .i64 hn) ∧ w'.cell? ⟨b, o + k * 7 + 3, none⟩ = some (.int .i64 hv) ∧ w'.cell? ⟨b, o + k * 7 + 4, none⟩ = some (.int .i64 to) ∧ w'.cell? ⟨b, o + k * 7 + 5, none⟩ = some (.slice A1 n1 s1) ∧ w'.cell? ⟨b, o + k * 7 + 6, none⟩ = some (.slice A2 n2 s2))
        (first | exact HS.out _ z0 | exact HS.out _ zA | exact HS.out _ z1)
        ((refine step_append_lies _ (by rfl) _ _ _ (by rfl) w.heap.size 75 e0 (.agg #[.int .i64 0, .int .i64 0, .int .i64 0, .int .i64 0, .int .i64 0, .slice none 0 0, .slice none 0 0]) 7 88 Tryz.underlying59 he0 hy0 hy1 hy2 rfl (by omega) u3 _ _ (by rfl) (HO.out.alloc _).drew ⟨wr.heap.size, 0, none⟩ 1 1 (dq ((⟨⟨ln, lv⟩, ⟨hn, hv⟩, to, u, lx⟩ : En), .slice A1 n1 s1, .slice A2 n2 s2)) (by rfl) (by rfl) (World.news_of_block (heap_alloc_new wr _)) (dq_one _ rfl rfl) (by omega) (by unfold maxLen; omega) (by omega) (by simp; omega) _ rfl ?_; intro g cap w1 hown1 hgrow hat hgl; have z1 : Below w.heap.size w w1 := ((HB.out.alloc hsz _).drew).grown hgrow (by simp; omega) (fun q hq => (HO.out.lt q hq).1)))
      all_goals
        have HO2 := Lib.hid hown1
        clear hown1 hgrow hat hgl
        go_wp2
        go_roundw
        case rel => exact ⟨k + 1, by omega, by go_num, Lib.hid (by rw [HTk.out, flat_snoc]; exact HO2.out), Lib.hid z1⟩
        case measure => simp [intOf]; omega
    · have t0 : decide (k < n) = false := by simp; omega
      obtain ⟨Ao, co, hvo, _⟩ := row_shape HO.out
      have hkn : k = n := by omega
      have htk : d.take k = d := List.take_of_length_le (by have := HL.out; omega)
      have hO := HO.out
      rw [htk] at hO
      have hfin : ∃ v', (Ending.returned u3) = .returned v' ∧ Ex wr (fun b => N ≤ b ∧ b < w.heap.size) v' es ∧ Below w.heap.size w wr := by
        refine ⟨u3, rfl, ⟨d, HD.out, (Rw.of_own dq_len (by decide) hO (fun b hb _ h => by have := (hO.lt b hb).1; omega)).2, fun p hp => (HN.out p hp).to (Kp.of_below HB.out) (fun b _ h => h.1)⟩, HB.out⟩
      subst hvo
      have HFin := Lib.hid hfin
      clear hfin hO htk hkn
      go_wp2
      refine bodyPost_ret (v := _) (by simp [results, Tryz.results21, go_sem]; try rfl) rfl HFin.out
set_option maxRecDepth 100000 in
set_option maxHeartbeats 4000000 in
theorem items_any {X : Nat → Prop} {is : List Im} (hx : Ix w X v is) (hl : is.length ≤ 1048576) (hb : ∀ x ∈ is, x.ents.length ≤ 1048576) :
    Calls Tryz.prog 10 #[v] w fun r w' => ∃ v', r = .returned v' ∧ Ix w' (fun _ => False) v' is ∧ Below w.heap.size w w' := by
  obtain ⟨e0, he0, hy0, hy1, hy2⟩ := info_parts infoRI'
  obtain ⟨d, hd, hr, hn⟩ := hx.old
  obtain ⟨Av, cv, hve, _⟩ := id hr
  subst hve
  have hdl : d.length = is.length := by rw [hd]; simp
  have hdl2 : d.length ≤ 1048576 := by omega
  have HR := Lib.hid hr
  have HN := Lib.hid hn
  have HD := Lib.hid hd
  have HBd := Lib.hid hb
  clear hr hn hd hl hdl hx hb
  have HO0 : Hid (∃ d' : List (Im × Value), d'.map (·.1) = (d.take 0).map (·.1) ∧ w.ownsRow w.heap.size 61 8 (.slice none 0 0) 0 (d'.flatMap iq) ∧ ∀ p ∈ d', Ex w (fun b => (Value.slice none 0 0).ownBlock = some b) p.2 p.1.ents) := Lib.hid ⟨[], rfl, World.ownsRow_nil _ _ _ _, fun _ h => by cases h⟩
  generalize hnn : d.length = n at *
  have HL := Lib.hid hnn
  clear hnn
  go_enter Tryz.func10, Tryz.ntmps10
  go_wp2
  go_loopw [3, 4] (fun vo i wr => ∃ k : Nat, k ≤ n ∧ i = .int .i64 (k : Int) ∧ Hid (∃ d' : List (Im × Value), d'.map (·.1) = (d.take k).map (·.1) ∧ wr.ownsRow w.heap.size 61 8 vo k (d'.flatMap iq) ∧ ∀ p ∈ d', Ex wr (fun b => vo.ownBlock = some b) p.2 p.1.ents) ∧ Hid (Below w.heap.size w wr)) (fun _ i _ => n - (intOf i).toNat)
  case atStart => exact ⟨0, Nat.zero_le _, rfl, HO0, Lib.hid (Below.refl _ _)⟩
  case round =>
    obtain ⟨k, hk, rfl, HOd, HB⟩ := hrel
    obtain ⟨d', hd', hO, hn'⟩ := HOd.out
    by_cases hkl : k < n
    · have t0 : decide (k < n) = true := by simp; omega
      obtain ⟨b, o, c, p, e1, g1, hm, q1⟩ := Rw.at HR.out (j := k) (by have := HL.out; omega)
      injection e1 with e1 e1n e1c
      clear e1n
      subst e1 e1c
      have hz := HN.out p hm
      have HTk := Lib.hid (take_last g1)
      have hbd := HBd.out p.1 (by rw [HD.out]; exact List.mem_map_of_mem hm)
      obtain ⟨⟨ik, ia, nm, ⟨tk, tt, tn, ts⟩, es⟩, v1⟩ := p
      simp only at hz hbd
      obtain ⟨A1, n1, s1, hv1⟩ := hz.shape'
      subst hv1
      have q0 := q1 0 _ rfl
      have hbl : b < w.heap.size := World.block_lt_of_cell? w _ q0
      have hS : ∀ w', Below w.heap.size w w' → w'.cell? ⟨b, o + k * 8, none⟩ = some (.int .i64 ik) ∧ w'.cell? ⟨b, o + k * 8 + 1, none⟩ = some (.int .i64 ia) ∧ w'.cell? ⟨b, o + k * 8 + 2, none⟩ = some (.string (str nm)) ∧ w'.cell? ⟨b, o + k * 8 + 3, none⟩ = some (.int .i64 tk) ∧ w'.cell? ⟨b, o + k * 8 + 4, none⟩ = some (.int .i64 tt) ∧ w'.cell? ⟨b, o + k * 8 + 5, none⟩ = some (.int .i64 tn) ∧ w'.cell? ⟨b, o + k * 8 + 6, none⟩ = some (.string (str ts)) ∧ w'.cell? ⟨b, o + k * 8 + 7, none⟩ = some (.slice A1 n1 s1) := fun w' hb => ⟨by rw [hb.cell (p := ⟨b, o + k * 8, none⟩) hbl]; simpa using q0, (hb.cell (p := ⟨b, o + k * 8 + 1, none⟩) hbl).trans (q1 1 _ rfl), (hb.cell (p := ⟨b, o + k * 8 + 2, none⟩) hbl).trans (q1 2 _ rfl), (hb.cell (p := ⟨b, o + k * 8 + 3, none⟩) hbl).trans (q1 3 _ rfl), (hb.cell (p := ⟨b, o + k * 8 + 4, none⟩) hbl).trans (q1 4 _ rfl), (hb.cell (p := ⟨b, o + k * 8 + 5, none⟩) hbl).trans (q1 5 _ rfl), (hb.cell (p := ⟨b, o + k * 8 + 6, none⟩) hbl).trans (q1 6 _ rfl), (hb.cell (p := ⟨b, o + k * 8 + 7, none⟩) hbl).trans (q1 7 _ rfl)⟩
      have HS := Lib.hid hS
      have hsz := HB.out.size
      have z0 : Below w.heap.size w wr.drew := HB.out.drew
      have HC : Hid (∀ w', Below w.heap.size w w' → Calls Tryz.prog 21 #[.slice A1 n1 s1] w' fun r w'' => ∃ v', r = .returned v' ∧ Ex w'' (fun b => w.heap.size ≤ b ∧ b < w'.heap.size) v' es ∧ Below w'.heap.size w' w'') := Lib.hid (fun w' hb' => ents_any (hz.to (Kp.of_below hb') (fun _ _ h => h)) hb'.size hbd)
      have Hd' := Lib.hid hd'
      have HO := Lib.hid hO
      have Hn' := Lib.hid hn'
      clear hS q0 q1 hz g1 hm hd' hO hn' HOd
      go_wp2
      go_region_held_law (fun w' => w'.cell? ⟨b, o + k * 8, none⟩ = some (.int .i64 ik) ∧ w'.cell? ⟨b, o + k * 8 + 1, none⟩ = some (.int .i64 ia) ∧ w'.cell? ⟨b, o + k * 8 + 2, none⟩ = some (.string (str nm)) ∧ w'.cell? ⟨b, o + k * 8 + 3, none⟩ = some (.int .i64 tk) ∧ w'.cell? ⟨b, o + k * 8 + 4, none⟩ = some (.int .i64 tt) ∧ w'.cell? ⟨b, o + k * 8 + 5, none⟩ = some (.int .i64 tn) ∧ w'.cell? ⟨b, o + k * 8 + 6, none⟩ = some (.string (str ts)) ∧ w'.cell? ⟨b, o + k * 8 + 7, none⟩ = some (.slice A1 n1 s1))
        (first | exact HS.out _ z0 | exact HS.out _ z2 | exact HS.out _ zA | exact HS.out _ z1)
        (first
          | (refine step_append_lies _ (by rfl) _ _ _ (by rfl) w.heap.size 61 e0 (.agg #[.int .i64 0, .int .i64 0, .string ⟨#[]⟩, .int .i64 0, .int .i64 0, .int .i64 0, .string ⟨#[]⟩, .slice none 0 0]) 8 96 Tryz.underlying29 he0 hy0 hy1 hy2 rfl (by omega) u3 _ _ (by rfl) (hO2.alloc _) ⟨w2.heap.size, 0, none⟩ 1 1 (iq ((⟨ik, ia, nm, ⟨tk, tt, tn, ts⟩, es⟩ : Im), .slice A3 n3 s3)) (by rfl) (by rfl) (World.news_of_block (heap_alloc_new w2 _)) (iq_one' _ rfl) (by omega) (by unfold maxLen; omega) (by omega) (by simp; omega) _ rfl ?_; intro g cap w1 hown1 hgrow hat hgl; have z1 : Below w.heap.size w w1 := (z2.alloc z2.size _).grown hgrow (by simp; omega) (fun q hq => (HO.out.lt q hq).1))
          | (go_simp; go_at_call 21; refine (HC.out _ z0).mono ?_; rintro r w2 ⟨ve, rfl, hex, hb2⟩; obtain ⟨A3, n3, s3, hv3⟩ := hex.shape'; subst hv3; have z2 := z0.trans (hb2.mono z0.size); have hsz2 : wr.heap.size ≤ w2.heap.size := hb2.size; have hbW : Below wr.heap.size wr w2 := ((Below.refl _ wr).drew).trans (hb2.mono (Nat.le_refl _)); have hO2 := own_kp HO.out (Kp.of_below (X := fun _ => False) hbW) (fun _ _ h => h); have zA : Below w.heap.size w (w2.alloc (.cells #[.int .i64 ik, .int .i64 ia, .string (str nm), .int .i64 tk, .int .i64 tt, .int .i64 tn, .string (str ts), .slice A3 n3 s3] 61)) := z2.alloc z2.size _))
      all_goals
        have hj2 : ∀ p ∈ d' ++ [((⟨ik, ia, nm, ⟨tk, tt, tn, ts⟩, es⟩ : Im), Value.slice A3 n3 s3)], Ex w1 (fun b => (Value.slice (some ⟨g, 0, none⟩) (k + 1) cap).ownBlock = some b) p.2 p.1.ents := by
          intro p hp
          rcases List.mem_append.1 hp with hp | hp
          · refine (Hn'.out p hp).to (((Kp.of_below hbW).trans (Kp.of_below ((Below.refl _ _).alloc (Nat.le_refl _) (.cells #[.int .i64 ik, .int .i64 ia, .string (str nm), .int .i64 tk, .int .i64 tt, .int .i64 tn, .string (str ts), .slice A3 n3 s3] 61)))).trans (Kp.of_grown hgrow (fun _ h => h))) ?_
            intro b hb h1
            have hgb : g = b := by simpa [Value.ownBlock] using h1
            subst hgb
            rcases hat with h2 | h2
            · exact h2
            · simp at h2; omega
          · obtain rfl : p = ((⟨ik, ia, nm, ⟨tk, tt, tn, ts⟩, es⟩ : Im), Value.slice A3 n3 s3) := by simpa using hp
            refine hex.to ((Kp.of_below ((Below.refl _ _).alloc (Nat.le_refl _) (.cells #[.int .i64 ik, .int .i64 ia, .string (str nm), .int .i64 tk, .int .i64 tt, .int .i64 tn, .string (str ts), .slice A3 n3 s3] 61))).trans (Kp.of_grown hgrow (fun q hq => ⟨(HO.out.lt q hq).1, (HO.out.lt q hq).2⟩))) ?_
            intro b hb h1
            have hgb : g = b := by simpa [Value.ownBlock] using h1
            subst hgb
            rcases hat with h2 | h2
            · exact ⟨(HO.out.lt g h2).1, (HO.out.lt g h2).2⟩
            · simp at h2; omega
        have HO2 := Lib.hid hown1
        have HJ2 := Lib.hid hj2
        clear hown1 hgrow hat hgl hj2
        go_wp2
        go_roundw
        case rel => exact ⟨k + 1, by omega, by go_num, Lib.hid ⟨_, by rw [HTk.out, List.map_append, List.map_append, Hd'.out]; rfl, by rw [flat_snoc]; exact HO2.out, HJ2.out⟩, Lib.hid z1⟩
        case measure => simp [intOf]; omega
    · have t0 : decide (k < n) = false := by simp; omega
      obtain ⟨Ao, co, hvo, _⟩ := row_shape hO
      have htk : d.take k = d := List.take_of_length_le (by have := HL.out; omega)
      rw [htk, ← HD.out] at hd'
      have hfin : ∃ v', (Ending.returned u3) = .returned v' ∧ Ix wr (fun _ => False) v' is ∧ Below w.heap.size w wr := by
        have hlen : k = d'.length := by
          have h1 := hO.1
          rw [flat_len iq_len] at h1
          omega
        subst hlen
        exact ⟨u3, rfl, ⟨d', hd'.symm, (Rw.of_own iq_len (by decide) hO (fun _ _ _ h => h)).2, fun p hp => (hn' p hp).to (Kp.refl _ _) (fun _ _ h => h.elim)⟩, HB.out⟩
      subst hvo
      have HFin := Lib.hid hfin
      clear hfin htk hd' hO hn' HOd
      go_wp2
      refine bodyPost_ret (v := _) (by simp [results, Tryz.results10, go_sem]; try rfl) rfl HFin.out
end
end Go.Proofs.YthcnjiigkmljnaaGreatDoor
