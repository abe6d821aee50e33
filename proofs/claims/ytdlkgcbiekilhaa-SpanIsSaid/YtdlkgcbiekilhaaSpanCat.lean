/-
  slices.Grow and slices.Concat at spans.
-/
import Derived.Test.YtdlkgcbiekilhaaSpanOvl
import Derived.Lib.AppendZerosOnto
import Derived.Laws.AppendOwnNone
namespace Go.Proofs.Ytdlkgcbiekilhaa
open Go.RowKit
attribute [local go_sem ↓] Go.wp_at_zero Go.wp_at_succ

theorem Ss.cells {w : World} {B : Nat} {A : Option Addr} {l : List Sp} (h : Ss w B A l) (hn : 0 < l.length) : ∃ ad, A = some ad ∧ ∀ j u, (svs l)[j]? = some u → w.cell? (ad.add j) = some u := by
  obtain ⟨b, o, e, _, hc⟩ := h hn
  refine ⟨_, e, fun j u hu => ?_⟩
  have hj : j < l.length * 4 := by
    rw [← svs_length]
    exact (List.getElem?_eq_some_iff.1 hu).1
  have hx := List.getElem?_eq_getElem (l := l) (i := j / 4) (by omega)
  have h3 := svs_get l (j / 4) (j % 4) _ hx (Nat.mod_lt _ (by decide))
  rw [show j / 4 * 4 + j % 4 = j by omega, hu] at h3
  obtain ⟨c0, c1, c2, c3⟩ := hc _ _ hx
  rw [addr_add]
  rcases (show j % 4 = 0 ∨ j % 4 = 1 ∨ j % 4 = 2 ∨ j % 4 = 3 by omega) with e3 | e3 | e3 | e3
  · rw [e3] at h3
    rw [show o + j = o + j / 4 * 4 by omega, c0, h3]
    rfl
  · rw [e3] at h3
    rw [show o + j = o + j / 4 * 4 + 1 by omega, c1, h3]
    rfl
  · rw [e3] at h3
    rw [show o + j = o + j / 4 * 4 + 2 by omega, c2, h3]
    rfl
  · rw [e3] at h3
    rw [show o + j = o + j / 4 * 4 + 3 by omega, c3, h3]
    rfl
theorem app_spans {P : Program} {w : World} {ops : Array Oper} {rest : List Oper} {o : Oper} {a : Act} {Q : Exit → Act → World → Prop} (hgd : o.guard = none) (s x : Operand) (t : TypeId)
    (ho : o.op = .call { callee := .builtin .append, args := #[s, x], argTypes := #[t, t] })
    (base : Nat) (e : TypeId) (i : TypeInfo) (ht : P.underlying t = some (.slice e)) (hi : P.info? e = some i) (hz : i.zero = some (.agg #[.int .i64 0, .int .i64 0, .int .i64 0, .int .i64 0])) (hsize : i.size = 4) (hby : i.bytes = 32)
    (v : Value) (xs : List Sp) (hs : a.eval s = v) (hown : w.ownsRow base e 4 v xs.length (svs xs)) (B : Nat) (A : Option Addr) (c : Nat) (l : List Sp) (hx : a.eval x = .slice A l.length c) (hA : Ss w B A l) (hc : A = none → c = 0)
    (hl : xs.length + l.length ≤ 1048576) (hbase : base ≤ w.heap.size)
    (h : ∀ v' w', w'.ownsRow base e 4 v' (xs ++ l).length (svs (xs ++ l)) → w.grownBy w' v.ownBlock → wpList P ops Q rest (a.put o.dst v') w') : wpList P ops Q (o :: rest) a w := by
  cases A with
  | none =>
    have hn : l = [] := by
      rcases Nat.eq_zero_or_pos l.length with h0 | h0
      · exact List.eq_nil_of_length_eq_zero h0
      · obtain ⟨b, o, e, _⟩ := hA h0
        cases e
    subst hn
    rw [hc rfl] at hx
    refine wpList_append_own_none hgd s x t ho base e i 4 ht hi v xs.length (svs xs) hs hown hx ?_
    rw [List.append_nil] at h
    exact h v w hown (World.grownBy.refl w _)
  | some ad =>
    have hcell : ∀ j u, (svs l)[j]? = some u → w.cell? (ad.add j) = some u := fun j u hu => by
      have hj : 0 < l.length := by
        have := (List.getElem?_eq_some_iff.1 hu).1
        rw [svs_length] at this
        omega
      obtain ⟨ad', e, hcs⟩ := hA.cells hj
      injection e with e
      subst e
      exact hcs j u hu
    refine wpList_append_own w hgd s x t ho base e i (.agg #[.int .i64 0, .int .i64 0, .int .i64 0, .int .i64 0]) 4 32 ht hi hz hsize hby rfl (by omega) v xs.length (svs xs) hs hown ad l.length c (svs l) hx (svs_length l) hcell (svs_one l) (by unfold maxLen; omega) (by omega) hbase fun v' w' h1 h2 _ => ?_
    rw [← svs_append] at h1
    exact h v' w' (by rw [List.length_append]; exact h1) h2
set_option maxRecDepth 100000 in
set_option maxHeartbeats 4000000 in
theorem Grow_any (n : Nat) (hn : 0 < n) (hl : n ≤ 1048576) (w : World) :
    Calls Try.prog 43 #[.slice none 0 0, .int .i64 (n : Int)] w fun e w' => ∃ v, e = .returned v ∧ w'.ownsRow w.heap.size 24 4 v 0 (svs []) ∧ Below w.heap.size w w' := by
  obtain ⟨i0, hi, hz0, hz1, hz2⟩ := info_parts infoS
  have hrz : ∀ ty, (Builtin.append_ #[22, 3] ty #[.slice none 0 0, .int .i64 (n : Int)]).run Try.prog w = .ok (.slice (some ⟨w.heap.size, 0, none⟩) n (grownCap w n 0 24)) (w.drew.alloc (.cells (([] : List Value).toArray ++ Builtin.zeroCells (Value.agg #[.int .i64 0, .int .i64 0, .int .i64 0, .int .i64 0]).cells n ++ Builtin.zeroCells (Value.agg #[.int .i64 0, .int .i64 0, .int .i64 0, .int .i64 0]).cells (grownCap w n 0 24 - n)) 24)) := fun ty => by
    have h := Lib.run_append_grow_zeros (P := Try.prog) w 22 3 ty 24 i0 (.agg #[.int .i64 0, .int .i64 0, .int .i64 0, .int .i64 0]) .i64 .i64 Try.underlying22 Try.underlying3 hi hz0 none 0 0 [] (run_firstCells_none w.drew i0.size 0 0 0) n (by omega) (by omega) (by omega) (by omega) (by rw [hz2]; omega) (growslice_fits (need := 0 + n) (old := 0) (bytes := i0.bytes) (by omega) (by rw [hz2]; omega))
    rw [Nat.zero_add] at h
    exact h
  have hge := grownCap_ge w n 0 24
  have hle := grownCap_le_maxLen w n 0 24 (by unfold maxLen; omega)
  have hsz : (([] : List Value).toArray ++ Builtin.zeroCells (Value.agg #[.int .i64 0, .int .i64 0, .int .i64 0, .int .i64 0]).cells n ++ Builtin.zeroCells (Value.agg #[.int .i64 0, .int .i64 0, .int .i64 0, .int .i64 0]).cells (grownCap w n 0 24 - n)).size = grownCap w n 0 24 * 4 := by
    simp [size_zeroCells, Value.cells]
    omega
  generalize grownCap w n 0 24 = G at *
  generalize (([] : List Value).toArray ++ Builtin.zeroCells (Value.agg #[.int .i64 0, .int .i64 0, .int .i64 0, .int .i64 0]).cells n ++ Builtin.zeroCells (Value.agg #[.int .i64 0, .int .i64 0, .int .i64 0, .int .i64 0]).cells (G - n)) = cs at *
  have hown : (w.drew.alloc (.cells cs 24)).ownsRow w.heap.size 24 4 (.slice (some ⟨w.heap.size, 0, none⟩) 0 G) 0 (svs []) := ⟨rfl, .inr ⟨w.heap.size, G, cs, rfl, Nat.le_refl _, heap_alloc_new w.drew _, Nat.zero_le _, hle, hsz, by simp [svs]⟩⟩
  have hbl : Below w.heap.size w (w.drew.alloc (.cells cs 24)) := ((Below.refl w.heap.size w).drew).alloc (Nat.le_refl _) _
  have hG : G ≤ 9223372036854775807 := by unfold maxLen at hle; omega
  clear hsz hle
  have h1 : ¬ ((n : Int) < 0) := by omega
  have h4 : (n : Int) > 0 := by omega
  go_enter Try.func43, Try.ntmps43
  go_wp2_with (at_builtin; refine Lib.wpList_append_run _ rfl _ _ _ _ rfl _ _ rfl rfl _ _ (hrz _) ?_)
  go_ret
  exact ⟨_, rfl, hown, hbl⟩
theorem own_lt2 {w : World} {base : Nat} {e : TypeId} {v : Value} {n g size : Nat} {xs : List Value} (h : w.ownsRow base e size v n xs) (hg : v.ownBlock = some g) : base ≤ g := by
  rcases h.2 with ⟨rfl, _⟩ | ⟨g', cap, cur, rfl, h1, _⟩
  · cases hg
  · have e2 : g' = g := by simpa [Value.ownBlock] using hg
    omega
/-- Two rows one behind the other. -/
theorem Concat_any (A1 A2 : Option Addr) (c1 c2 : Nat) (l1 l2 : List Sp) (B : Nat) (w : World) (h1 : Ss w w.heap.size A1 l1) (h2 : Ss w w.heap.size A2 l2) (n1 : A1 = none → c1 = 0) (n2 : A2 = none → c2 = 0) (hl1 : l1.length ≤ 10000) (hl2 : l2.length ≤ 10000) (hp : 0 < l2.length) (hB : w.cell? ⟨B, 0, none⟩ = some (.slice A1 l1.length c1)) (hB2 : w.cell? ⟨B, 1, none⟩ = some (.slice A2 l2.length c2)) (hBl : B < w.heap.size) :
    Calls Try.prog 36 #[.slice (some ⟨B, 0, none⟩) 2 2] w (RetS w (l1 ++ l2)) := by
  obtain ⟨i0, hi, hz0, hz1, hz2⟩ := info_parts infoS
  have K1 : Hid (∀ W, Calls Try.prog 43 #[.slice none 0 0, .int .i64 ((l1.length : Int) + (l2.length : Int))] W fun e w' => ∃ v, e = .returned v ∧ w'.ownsRow W.heap.size 24 4 v 0 (svs []) ∧ Below W.heap.size W w') := Lib.hid fun W => by
    have := Grow_any (l1.length + l2.length) (by omega) (by omega) W
    rwa [Int.natCast_add] at this
  have H1 := Lib.hid h1
  have H2 := Lib.hid h2
  obtain ⟨n, hn⟩ : ∃ n, n = l1.length := ⟨_, rfl⟩
  obtain ⟨m, hm⟩ : ∃ m, m = l2.length := ⟨_, rfl⟩
  have HN := Lib.hid hn
  have HM := Lib.hid hm
  rw [← hn] at hB hl1 K1
  rw [← hm] at hB2 hl2 hp K1
  clear h1 h2 hn hm
  go_enter Try.func36, Try.ntmps36
  go_wp2
  go_loopw [3, 11] (fun s i wr => ((i = .int .i64 0 ∧ s = .int .i64 0) ∨ (i = .int .i64 1 ∧ s = .int .i64 (n : Int)) ∨ (i = .int .i64 2 ∧ s = .int .i64 ((n : Int) + (m : Int)))) ∧ wr = w) (fun _ i _ => (2 - intOf i).toNat)
  case atStart => exact ⟨.inl ⟨rfl, rfl⟩, rfl⟩
  case round =>
    obtain ⟨hrel, hwe⟩ := hrel
    have hwe2 := hwe.symm
    subst hwe2
    clear hwe
    have hnm : ¬ ((n : Int) + (m : Int) < 0) := by omega
    have hn0 : ¬ ((n : Int) < 0) := by omega
    rcases hrel with ⟨rfl, rfl⟩ | ⟨rfl, rfl⟩ | ⟨rfl, rfl⟩
    · go_wp2
      exact ⟨⟨.inr (.inl ⟨rfl, rfl⟩), trivial⟩, by simp [intOf]⟩
    · go_wp2
      exact ⟨⟨.inr (.inr ⟨rfl, rfl⟩), trivial⟩, by simp [intOf]⟩
    · go_wp2_with fail
      refine (K1.out _).mono ?_
      rintro e w1 ⟨v, rfl, hown, hb1⟩
      have hown0 : w1.ownsRow w.heap.size 24 4 v ([] : List Sp).length (svs []) := hown
      have hB1 := (hb1.cell (p := ⟨B, 0, none⟩) hBl).trans hB
      have hB3 := (hb1.cell (p := ⟨B, 1, none⟩) hBl).trans hB2
      have H3 := Lib.hid (H1.out.below hb1)
      have H4 := Lib.hid (H2.out.below hb1)
      have HBA := Lib.hid hB
      have HBB := Lib.hid hB2
      clear hown hB hB2
      go_wp2
      go_loopw [6, 27] (fun u i wx => ((i = .int .i64 0 ∧ wx.ownsRow w.heap.size 24 4 u ([] : List Sp).length (svs [])) ∨ (i = .int .i64 1 ∧ wx.ownsRow w.heap.size 24 4 u l1.length (svs l1)) ∨ (i = .int .i64 2 ∧ wx.ownsRow w.heap.size 24 4 u (l1 ++ l2).length (svs (l1 ++ l2)))) ∧ Below w.heap.size w wx) (fun _ i _ => (2 - intOf i).toNat)
      case atStart => exact ⟨.inl ⟨rfl, hown0⟩, hb1⟩
      case round =>
        clear hown0
        obtain ⟨hrel, hbel⟩ := hrel
        have hB4 := (hbel.cell (p := ⟨B, 0, none⟩) hBl).trans HBA.out
        have hB5 := (hbel.cell (p := ⟨B, 1, none⟩) hBl).trans HBB.out
        have hsz := hbel.size
        rcases hrel with ⟨rfl, hown⟩ | ⟨rfl, hown⟩ | ⟨rfl, hown⟩
        · have hg : ∀ j, (u6).ownBlock = some j → w.heap.size ≤ j := fun j e => (own_lt2 hown e)
          go_wp2_with (at_builtin; refine app_spans rfl _ _ _ rfl w.heap.size 24 i0 Try.underlying22 hi hz0 hz1 hz2 _ _ rfl hown w.heap.size A1 c1 l1 (by rw [← HN.out]; rfl) (H1.out.below hbel) n1 (by have := HN.out; simp; omega) hsz ?_; intro v' w3 hown3 hgrow)
          exact ⟨⟨.inr (.inl ⟨rfl, hown3⟩), hbel.grown hgrow hsz hg⟩, by simp [intOf]⟩
        · have hg : ∀ j, (u6).ownBlock = some j → w.heap.size ≤ j := fun j e => (own_lt2 hown e)
          go_wp2_with (at_builtin; refine app_spans rfl _ _ _ rfl w.heap.size 24 i0 Try.underlying22 hi hz0 hz1 hz2 _ _ rfl hown w.heap.size A2 c2 l2 (by rw [← HM.out]; rfl) (H2.out.below hbel) n2 (by have := HN.out; have := HM.out; omega) hsz ?_; intro v' w3 hown3 hgrow)
          exact ⟨⟨.inr (.inr ⟨rfl, hown3⟩), hbel.grown hgrow hsz hg⟩, by simp [intOf]⟩
        · go_wp2
          go_ret
          exact own_ret hown hbel
end Go.Proofs.Ytdlkgcbiekilhaa
