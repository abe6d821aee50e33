/-
  Items as an argument, with the bounds that the reach gives (layer 9).
-/
import Derived.Test.YtmjneokjgcgchaaGreatPart4
import Derived.SizedLaws
namespace Go.Proofs.YtmjneokjgcgchaaGreat
open Go.ChangeShapes Go.WideShapes Go.ChangeAt Go.RowKit Go.Joins

theorem weights_all_mem {H : Type} {P : Program} {e : TypeId} {n : Nat} : ∀ {ds : List (DataW H)} {d : DataW H}, d ∈ ds → n ∈ d.weights P e → n ∈ DataW.weightsAll P e ds
  | d0 :: ds, d, hd, hn => by
    simp only [DataW.weightsAll, List.mem_append]
    rcases List.mem_cons.1 hd with rfl | hd
    · exact .inl hn
    · exact .inr (weights_all_mem hd hn)
theorem struct_w {H : Type} {P : Program} {t : TypeId} {fs : Array Field} {parts : List (DataW H)} {j n : Nat} {f : Field} {d : DataW H} (ht : P.underlying t = some (.struct fs)) (hf : fs[j]? = some f) (hp : parts[j]? = some d) (hn : n ∈ d.weights P f.type) : n ∈ (DataW.agg parts).weights P t := by
  simp only [DataW.weights, ht]
  exact DataW.weights_mem_each (j := j) (by simp [hf]) hp n hn
section
variable {H : Type} {enc : TypeId × Value → H} {W : World} {P : Program}
theorem slice_len_z {t e : TypeId} {fuel n c : Nat} {A : Option Addr} {x : DataW H × List MemPlace} (ht : P.underlying t = some (.slice e)) (hb : 1 ≤ P.bytesOf e) (h : DataW.trod enc P W 0 (fun _ => true) true fuel t [.slice A n c] = some x) (hZ : ∀ m ∈ x.1.weights P t, m ≤ reachBytes) : n ≤ reachBytes := by
  rcases Deep.open_slice ht h with ⟨hcs, _⟩ | ⟨a, l, c', m, n', D, Pl, hcs, _, hl, hm, hmm, hx, hall⟩
  · injection hcs with hcs
    injection hcs with _ hcs _
    rw [hcs]
    exact Nat.zero_le _
  · injection hcs with hcs
    injection hcs with _ hcs _
    have := hZ ((((List.range l).map D).length + ((List.range (m - l)).map fun j => D (l + j)).length) * P.bytesOf e) (by
      rw [hx]
      simp only [DataW.weights, ht, List.mem_cons, true_or])
    rw [List.length_map, List.length_range] at this
    rw [hcs]
    exact Nat.le_trans (Nat.le_trans (Nat.le_mul_of_pos_right l hb) (Nat.mul_le_mul_right _ (Nat.le_add_right _ _))) this
/-- A slice whose elements are told one by one. -/
theorem view_rowsZ {α : Type} {k : Nat} {q : α → List Value} {R : α → Prop} {t e : TypeId} (ht : P.underlying t = some (.slice e)) (ck : P.cellsOf e = k) (hk : 0 < k) (hq : ∀ a, (q a).length = k)
    (hel : ∀ (fuel : Nat) (cs : List Value) (x : DataW H × List MemPlace), cs.length = k → DataW.trod enc P W 0 (fun _ => true) true fuel e cs = some x → (∀ n ∈ x.1.weights P e, n ≤ reachBytes) → ∃ a, cs = q a ∧ R a)
    {fuel : Nat} {v : Value} {x : DataW H × List MemPlace} (h : DataW.trod enc P W 0 (fun _ => true) true fuel t [v] = some x) (hZ : ∀ n ∈ x.1.weights P t, n ≤ reachBytes) :
    ∃ l : List α, Rw W (fun _ => False) k q v l ∧ l.length ≤ maxLen ∧ ∀ a ∈ l, R a := by
  rcases Deep.open_slice ht h with ⟨hcs, _⟩ | ⟨a, l, c, m, n, D, Pl, hcs, _, hl, hm, hmm, hx, hall⟩
  · injection hcs with hcs
    subst hcs
    exact ⟨[], Rw.nil, by simp [maxLen], fun _ h => by cases h⟩
  · injection hcs with hcs
    subst hcs
    have hlm : l ≤ m := by rw [hmm]; split <;> omega
    have hone : ∀ i, i < l → ∃ y : α, (∀ j, j < k → W.cell? ((a.add (i * k)).add j) = (q y)[j]?) ∧ R y := fun i hil => by
      obtain ⟨cs', h1, h2⟩ := hall i (by omega)
      rw [ck] at h1
      obtain ⟨_, hlen, hcell⟩ := World.cells?_some h1
      obtain ⟨y, rfl, hR⟩ := hel _ cs' _ hlen h2 (fun n hn => hZ n (by
        rw [hx]
        simp only [DataW.weights, ht, List.mem_cons, List.mem_append]
        exact .inr (.inl (weights_all_mem (List.mem_map.2 ⟨i, by simpa using hil, rfl⟩) hn))))
      exact ⟨y, hcell, hR⟩
    rcases Nat.eq_zero_or_pos l with h0 | h0
    · subst h0
      exact ⟨[], ⟨some a, c, rfl, ⟨Nat.zero_le _, fun e => by cases e⟩, fun hn => absurd hn (by simp)⟩, by simp [maxLen], fun _ h => by cases h⟩
    · obtain ⟨y0, hy0, _⟩ := hone 0 h0
      obtain ⟨L, hL, hQ⟩ := list_ofB y0 l hone
      subst hL
      obtain ⟨b, off, spot⟩ := a
      obtain ⟨u, hu⟩ : ∃ u, (q y0)[0]? = some u := ⟨(q y0)[0]'(by rw [hq]; exact hk), List.getElem?_eq_getElem _⟩
      have hc0 := (hy0 0 hk).trans hu
      have hspot : spot = none := by simpa [Addr.add] using World.cell?_spot hc0
      subst hspot
      refine ⟨L, ⟨some ⟨b, off, none⟩, c, rfl, ⟨hl, fun e => by cases e⟩, fun _ => ⟨b, off, rfl, World.block_lt_of_cell? W _ (by simpa [Addr.add] using hc0 : W.cell? ⟨b, off, none⟩ = _), fun h => h, fun j y hj i u hu => ?_⟩⟩, by omega, fun y hy => ?_⟩
      · have hi : i < k := by rw [← hq y]; exact (List.getElem?_eq_some_iff.1 hu).1
        have := (hQ j (List.getElem?_eq_some_iff.1 hj).1).1 i hi
        rw [hj, Option.getD_some, hu, Deep.add_add, addr_add, ← Nat.add_assoc] at this
        exact this
      · obtain ⟨j, hj, rfl⟩ := List.getElem_of_mem hy
        have := (hQ j hj).2
        rwa [List.getElem?_eq_getElem hj] at this
theorem trod_struct5Z {t : TypeId} {f0 f1 f2 f3 f4 : Field} {fuel : Nat} {cs : List Value} {x : DataW H × List MemPlace} (ht : P.underlying t = some (.struct #[f0, f1, f2, f3, f4])) (h : DataW.trod enc P W 0 (fun _ => true) true fuel t cs = some x) :
    ∃ y0 y1 y2 y3 y4 n, cs.length = P.cellsOf t ∧ DataW.trod enc P W 0 (fun _ => true) true n f0.type ((cs.drop f0.offset).take (P.cellsOf f0.type)) = some y0 ∧ DataW.trod enc P W 0 (fun _ => true) true n f1.type ((cs.drop f1.offset).take (P.cellsOf f1.type)) = some y1 ∧
      DataW.trod enc P W 0 (fun _ => true) true n f2.type ((cs.drop f2.offset).take (P.cellsOf f2.type)) = some y2 ∧ DataW.trod enc P W 0 (fun _ => true) true n f3.type ((cs.drop f3.offset).take (P.cellsOf f3.type)) = some y3 ∧ DataW.trod enc P W 0 (fun _ => true) true n f4.type ((cs.drop f4.offset).take (P.cellsOf f4.type)) = some y4 ∧ x.1 = .agg [y0.1, y1.1, y2.1, y3.1, y4.1] := by
  obtain ⟨xs, n, _, rfl, hl, hlen, hf⟩ := DataW.trod_struct ht h
  match xs, hlen with
  | [y0, y1, y2, y3, y4], _ => exact ⟨y0, y1, y2, y3, y4, n, hl, by simpa using hf 0 f0 rfl, by simpa using hf 1 f1 rfl, by simpa using hf 2 f2 rfl, by simpa using hf 3 f3 rfl, by simpa using hf 4 f4 rfl, rfl⟩
/-- An item whose lists are within the reach. -/
def Iz (i : Im) : Prop := i.ents.length ≤ reachBytes ∧ ∀ e ∈ i.ents, e.ll.length ≤ reachBytes
section
variable {tI tS tSI tLL tC tE tSE tT tM tSM : TypeId} {fuel : Nat} {v : Value} {cs : List Value} {x : DataW H × List MemPlace}
theorem ItT.entsZ (hbL : 1 ≤ P.bytesOf tSI) (T : ItT P tI tS tSI tLL tC tE tSE tT tM tSM) (h : DataW.trod enc P W 0 (fun _ => true) true fuel tSE [v] = some x) (hZ : ∀ n ∈ x.1.weights P tSE, n ≤ reachBytes) : ∃ es, Ex W (fun _ => False) v es ∧ es.length ≤ maxLen ∧ (∀ e ∈ es, Eb e) ∧ ∀ e ∈ es, e.ll.length ≤ reachBytes := by
  obtain ⟨d, h1, h2, h3⟩ := view_rowsZ (q := dq) (R := fun p : En × Value × Value => Eo W (fun _ => False) p ∧ Eb p.1 ∧ p.1.ll.length ≤ reachBytes) T.uSE T.cs.2.2.2.2.2.1 (by decide) dq_len (fun fuel cs x hl h hz => by
    obtain ⟨a0, a1, a2, a3, a4, hu, ⟨t0, t1, t2, t3, t4⟩, o0, o1, o2, o3, o4⟩ := T.uE
    obtain ⟨y0, y1, y2, y3, y4, n, _, g0, g1, g2, g3, g4, hx⟩ := trod_struct5Z hu h
    have hz4 : ∀ m ∈ y4.1.weights P tLL, m ≤ reachBytes := fun m hm => hz m (by rw [hx]; exact struct_w (f := a4) hu (j := 4) rfl rfl (by rw [t4]; exact hm))
    obtain ⟨k1, k2, k3, k4, k5, _⟩ := T.cs
    rw [t0, o0, k5] at g0
    rw [t1, o1, k5] at g1
    rw [t2, o2, k1] at g2
    rw [t3, o3, k3] at g3
    rw [t4, o4, k4] at g4
    match cs, hl with
    | [c0, c1, c2, c3, c4, c5, c6], _ =>
      obtain ⟨ln, lv, rfl, rfl⟩ := T.code (by simpa using g0)
      obtain ⟨hn, hv, rfl, rfl⟩ := T.code (by simpa using g1)
      obtain ⟨to, q2, _, _⟩ := DataW.trod_int T.uI g2
      obtain ⟨u, hu, hum⟩ := T.units (v := c5) (by simpa using g3)
      obtain ⟨ll, hll, hlm⟩ := T.lists (v := c6) (by simpa using g4)
      have r2 : c4 = .int .i64 to := by simpa using q2
      subst r2
      exact ⟨(⟨⟨ln, lv⟩, ⟨hn, hv⟩, to, u, ll⟩, c5, c6), rfl, ⟨hu, hll⟩, ⟨hum, hlm⟩, by
        obtain ⟨dd, hdd, ⟨AA, cc, hvv, _⟩, _⟩ := hll
        rw [hvv] at g4
        have := slice_len_z (A := AA) (n := dd.length) (c := cc) T.uLL hbL (by simpa using g4) hz4
        rw [hdd, List.length_map]
        exact this⟩) h hZ
  refine ⟨d.map (·.1), ⟨d, rfl, h1, fun p hp => (h3 p hp).1⟩, by rw [List.length_map]; exact h2, fun u hu => ?_, fun u hu => ?_⟩
  · obtain ⟨p, hp, rfl⟩ := List.mem_map.1 hu
    exact (h3 p hp).2.1
  · obtain ⟨p, hp, rfl⟩ := List.mem_map.1 hu
    exact (h3 p hp).2.2
theorem ItT.itemsZ (hbL : 1 ≤ P.bytesOf tSI) (hbE : 1 ≤ P.bytesOf tE) (T : ItT P tI tS tSI tLL tC tE tSE tT tM tSM) (h : DataW.trod enc P W 0 (fun _ => true) true fuel tSM [v] = some x) (hZ : ∀ n ∈ x.1.weights P tSM, n ≤ reachBytes) : ∃ is, Ix W (fun _ => False) v is ∧ is.length ≤ maxLen ∧ (∀ i ∈ is, Ib i) ∧ ∀ i ∈ is, Iz i := by
  obtain ⟨d, h1, h2, h3⟩ := view_rowsZ (q := iq) (R := fun p : Im × Value => Ex W (fun _ => False) p.2 p.1.ents ∧ Ib p.1 ∧ Iz p.1) T.uSM T.cs.2.2.2.2.2.2.2.2 (by decide) iq_len (fun fuel cs x hl h hz => by
    obtain ⟨a0, a1, a2, a3, a4, hu, ⟨t0, t1, t2, t3, t4⟩, o0, o1, o2, o3, o4⟩ := T.uM
    obtain ⟨y0, y1, y2, y3, y4, n, _, g0, g1, g2, g3, g4, hx⟩ := trod_struct5Z hu h
    have hz4 : ∀ m ∈ y4.1.weights P tSE, m ≤ reachBytes := fun m hm => hz m (by rw [hx]; exact struct_w (f := a4) hu (j := 4) rfl rfl (by rw [t4]; exact hm))
    obtain ⟨k1, k2, k3, k4, k5, k6, k7, k8, k9⟩ := T.cs
    rw [t0, o0, k1] at g0
    rw [t1, o1, k1] at g1
    rw [t2, o2, k2] at g2
    rw [t3, o3, k8] at g3
    rw [t4, o4, k7] at g4
    obtain ⟨b0, b1, b2, b3, hub, ⟨s0, s1, s2, s3⟩, p0, p1, p2, p3⟩ := T.uT
    match cs, hl with
    | [c0, c1, c2, c3, c4, c5, c6, c7], _ =>
      obtain ⟨kd, q0, _, _⟩ := DataW.trod_int T.uI g0
      obtain ⟨at_, q1, _, _⟩ := DataW.trod_int T.uI g1
      obtain ⟨nm, q2, _, hnm⟩ := DataW.trod_string T.uS g2
      obtain ⟨z0, z1, z2, z3, m, _, _, j0, j1, j2, j3⟩ := Joins.trod_struct4 hub g3
      rw [s0, p0, k1] at j0
      rw [s1, p1, k1] at j1
      rw [s2, p2, k1] at j2
      rw [s3, p3, k2] at j3
      obtain ⟨vk, w0, _, _⟩ := DataW.trod_int T.uI j0
      obtain ⟨va, w1, _, _⟩ := DataW.trod_int T.uI j1
      obtain ⟨vn, w2, _, _⟩ := DataW.trod_int T.uI j2
      obtain ⟨vs, w3, _, hvs⟩ := DataW.trod_string T.uS j3
      obtain ⟨es, hes, hem, heb, hez⟩ := T.entsZ hbL (v := c7) (by simpa using g4) hz4
      have hel : es.length ≤ reachBytes := by
        obtain ⟨dd, hdd, ⟨AA, cc, hvv, _⟩, _⟩ := hes
        rw [hvv] at g4
        have := slice_len_z (A := AA) (n := dd.length) (c := cc) T.uSE hbE (by simpa using g4) hz4
        rw [hdd, List.length_map]
        exact this
      have r0 : c0 = .int .i64 kd := by simpa using q0
      have r1 : c1 = .int .i64 at_ := by simpa using q1
      have r2 : c2 = .string nm := by simpa using q2
      have r3 : c3 = .int .i64 vk := by simpa using w0
      have r4 : c4 = .int .i64 va := by simpa using w1
      have r5 : c5 = .int .i64 vn := by simpa using w2
      have r6 : c6 = .string vs := by simpa using w3
      subst r0 r1 r2 r3 r4 r5 r6
      obtain ⟨ln, rfl⟩ := str_of nm
      obtain ⟨lv, rfl⟩ := str_of vs
      rw [str_size] at hnm hvs
      exact ⟨(⟨kd, at_, ln, ⟨vk, va, vn, lv⟩, es⟩, c7), rfl, hes, ⟨hnm, hvs, hem, heb⟩, hel, hez⟩) h hZ
  refine ⟨d.map (·.1), ⟨d, rfl, h1, fun p hp => (h3 p hp).1⟩, by rw [List.length_map]; exact h2, fun u hu => ?_, fun u hu => ?_⟩
  · obtain ⟨p, hp, rfl⟩ := List.mem_map.1 hu
    exact (h3 p hp).2.1
  · obtain ⟨p, hp, rfl⟩ := List.mem_map.1 hu
    exact (h3 p hp).2.2
theorem view_itemsZ (hbL : 1 ≤ P.bytesOf tSI) (hbE : 1 ≤ P.bytesOf tE) (T : ItT P tI tS tSI tLL tC tE tSE tT tM tSM) {r : Reach} {b0 : Nat} {d : DataW H} {p : List MemPlace} (hv : Value.okWide P W r b0 tSM v) (h : DataW.Trod enc P W 0 (fun _ => true) true tSM v d p) (hZ : ∀ n ∈ d.weights P tSM, n ≤ reachBytes) : ∃ is, Ix W (fun _ => False) v is ∧ is.length ≤ maxLen ∧ (∀ i ∈ is, Ib i) ∧ ∀ i ∈ is, Iz i := by
  obtain ⟨A, len, cap, rfl⟩ := okWide_slice T.uSM hv
  obtain ⟨fuel, hf⟩ := h
  exact T.itemsZ hbL hbE (by simpa [Value.cells] using hf) hZ
end
end
end Go.Proofs.YtmjneokjgcgchaaGreat
