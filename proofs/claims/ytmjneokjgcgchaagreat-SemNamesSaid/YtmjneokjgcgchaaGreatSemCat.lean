/-
  slices.Grow and slices.Concat at codespaces, spans, entries.
-/
import Derived.Test.YtmjneokjgcgchaaGreatSemEnts
import Derived.Test.YtmjneokjgcgchaaGreatPart2
import Derived.Test.YtmjneokjgcgchaaGreatDestApp
import Derived.Lib.AppendZerosOnto
import Derived.Laws.AppendOwnNone
import Derived.Deep.Upon
namespace Go.Proofs.YtmjneokjgcgchaaGreat
open Go.RowKit

theorem own_cap {w : World} {base n size : Nat} {e : TypeId} {A : Option Addr} {c : Nat} {xs : List Value} (h : w.ownsRow base e size (.slice A n c) n xs) : n ≤ c := by
  rcases h.2 with ⟨h, h0⟩ | ⟨g, cap, cur, h, _, _, h4, _⟩
  · omega
  · injection h with _ _ h
    omega
/-- Nothing is appended. -/
theorem wpList_nothing {P : Program} {w : World} {ops : Array Oper} {rest : List Oper} {o : Oper} {a : Act} {Q : Exit → Act → World → Prop} (hgd : o.guard = none) (s x : Operand) (t : TypeId)
    (ho : o.op = .call { callee := .builtin .append, args := #[s, x], argTypes := #[t, t] }) (e : TypeId) (i : TypeInfo) (ht : P.underlying t = some (.slice e)) (hi : P.info? e = some i)
    (A0 : Option Addr) (n c0 : Nat) (hs : a.eval s = .slice A0 n c0) (hle : n ≤ c0) (c : Nat) (hx : a.eval x = .slice none 0 c) (h : wpList P ops Q rest (a.put o.dst (.slice A0 n c0)) w) : wpList P ops Q (o :: rest) a w := by
  refine wpList_plain hgd fun K hK => ?_
  have hr := run_append_nothing (P := P) w t t o.type e i ht hi A0 n c0 hle (.slice none 0 c) (Src.ofNil w ht c)
  unfold Oper.wp
  simp [execOp, ho, resolve, invoke, builtin, hs, hx, hr, Result.andThen]
  exact hK _ _ h
theorem own_ge {w : World} {base : Nat} {e : TypeId} {v : Value} {n g size : Nat} {xs : List Value} (h : w.ownsRow base e size v n xs) (hg : v.ownBlock = some g) : base ≤ g := (h.lt g hg).1
theorem appnR {P : Program} {w : World} {ops : Array Oper} {rest : List Oper} {o : Oper} {a : Act} {Q : Exit → Act → World → Prop} (hgd : o.guard = none) (s x : Operand) (t : TypeId)
    (ho : o.op = .call { callee := .builtin .append, args := #[s, x], argTypes := #[t, t] })
    (base : Nat) (e : TypeId) (i : TypeInfo) (ht : P.underlying t = some (.slice e)) (hi : P.info? e = some i) (hz : i.zero = some (Value.agg #[.int .i64 0, .int .i64 0, .int .i64 0])) (hsize : i.size = 3) (hby : i.bytes = 24)
    (v : Value) (xs : List Rc) (hs : a.eval s = v) (hown : w.ownsRow base e 3 v xs.length (rvs xs)) (B : Nat) (A : Option Addr) (n c : Nat) (l : List Rc) (hn : n = l.length) (hx : a.eval x = .slice A n c) (hA : Sr w B A l)
    (hl : xs.length + l.length ≤ 1048576) (hbase : base ≤ w.heap.size)
    (h : ∀ v' w', w'.ownsRow base e 3 v' (xs ++ l).length (rvs (xs ++ l)) → w.grownBy w' v.ownBlock → wpList P ops Q rest (a.put o.dst v') w') : wpList P ops Q (o :: rest) a w := by
  subst hn
  cases A with
  | some ad => exact app_rects hgd s x t ho base e i ht hi hz hsize hby v xs hs hown B (some ad) c l hx hA (fun e => by cases e) hl hbase h
  | none =>
    have hn : l = [] := by
      rcases Nat.eq_zero_or_pos l.length with h0 | h0
      · exact List.eq_nil_of_length_eq_zero h0
      · obtain ⟨b, o, e, _⟩ := hA h0
        cases e
    subst hn
    obtain ⟨A0, c0, rfl, _⟩ := row_end hown
    rw [List.append_nil] at h
    exact wpList_nothing hgd s x t ho e i ht hi A0 _ c0 hs (own_cap hown) c hx (h _ w hown (World.grownBy.refl w _))
set_option maxRecDepth 100000 in
set_option maxHeartbeats 4000000 in
theorem GrowR_any (n : Nat) (hl : n ≤ 1048576) (w : World) :
    Calls Tryz.prog 88 #[.slice none 0 0, .int .i64 (n : Int)] w fun e w' => ∃ v, e = .returned v ∧ w'.ownsRow w.heap.size 62 3 v 0 (rvs []) ∧ Below w.heap.size w w' := by
  obtain ⟨i0, hi, hz0, hz1, hz2⟩ := info_parts infoR
  rcases Nat.eq_zero_or_pos n with h0 | hn
  · subst h0
    go_enter Tryz.func88, Tryz.ntmps88
    go_wp2
    go_ret
    exact ⟨_, rfl, World.ownsRow_nil _ _ _ _, Below.refl _ _⟩
  have hrz : ∀ ty, (Builtin.append_ #[23, 3] ty #[.slice none 0 0, .int .i64 (n : Int)]).run Tryz.prog w = .ok (.slice (some ⟨w.heap.size, 0, none⟩) n (grownCap w n 0 62)) (w.drew.alloc (.cells (([] : List Value).toArray ++ Builtin.zeroCells (Value.agg #[.int .i64 0, .int .i64 0, .int .i64 0]).cells n ++ Builtin.zeroCells (Value.agg #[.int .i64 0, .int .i64 0, .int .i64 0]).cells (grownCap w n 0 62 - n)) 62)) := fun ty => by
    have h := Lib.run_append_grow_zeros (P := Tryz.prog) w 23 3 ty 62 i0 (Value.agg #[.int .i64 0, .int .i64 0, .int .i64 0]) .i64 .i64 Tryz.underlying23 Tryz.underlying3 hi hz0 none 0 0 [] (run_firstCells_none w.drew i0.size 0 0 0) n (by omega) (by omega) (by omega) (by omega) (by rw [hz2]; omega) (growslice_fits (need := 0 + n) (old := 0) (bytes := i0.bytes) (by omega) (by rw [hz2]; omega))
    rw [Nat.zero_add] at h
    exact h
  have hge := grownCap_ge w n 0 62
  have hle := grownCap_le_maxLen w n 0 62 (by unfold maxLen; omega)
  have hsz : (([] : List Value).toArray ++ Builtin.zeroCells (Value.agg #[.int .i64 0, .int .i64 0, .int .i64 0]).cells n ++ Builtin.zeroCells (Value.agg #[.int .i64 0, .int .i64 0, .int .i64 0]).cells (grownCap w n 0 62 - n)).size = grownCap w n 0 62 * 3 := by
    simp [size_zeroCells, Value.cells]
    omega
  generalize grownCap w n 0 62 = G at *
  generalize (([] : List Value).toArray ++ Builtin.zeroCells (Value.agg #[.int .i64 0, .int .i64 0, .int .i64 0]).cells n ++ Builtin.zeroCells (Value.agg #[.int .i64 0, .int .i64 0, .int .i64 0]).cells (G - n)) = cs at *
  have hown : (w.drew.alloc (.cells cs 62)).ownsRow w.heap.size 62 3 (.slice (some ⟨w.heap.size, 0, none⟩) 0 G) 0 (rvs []) := ⟨rfl, .inr ⟨w.heap.size, G, cs, rfl, Nat.le_refl _, heap_alloc_new w.drew _, Nat.zero_le _, hle, hsz, by simp [rvs]⟩⟩
  have hbl : Below w.heap.size w (w.drew.alloc (.cells cs 62)) := ((Below.refl w.heap.size w).drew).alloc (Nat.le_refl _) _
  have hG : G ≤ 9223372036854775807 := by unfold maxLen at hle; omega
  clear hsz hle
  have h1 : ¬ ((n : Int) < 0) := by omega
  have h4 : (n : Int) > 0 := by omega
  go_enter Tryz.func88, Tryz.ntmps88
  go_wp2_with (at_builtin; refine Lib.wpList_append_run _ rfl _ _ _ _ rfl _ _ rfl rfl _ _ (hrz _) ?_)
  go_ret
  exact ⟨_, rfl, hown, hbl⟩
set_option maxRecDepth 100000 in
set_option maxHeartbeats 4000000 in
/-- Two rows one behind the other. -/
theorem ConcatR_any (A1 A2 : Option Addr) (c1 c2 : Nat) (l1 l2 : List Rc) (B : Nat) (w : World) (h1 : Sr w w.heap.size A1 l1) (h2 : Sr w w.heap.size A2 l2) (hl1 : l1.length ≤ 10000) (hl2 : l2.length ≤ 10000) (hB : w.cell? ⟨B, 0, none⟩ = some (.slice A1 l1.length c1)) (hB2 : w.cell? ⟨B, 1, none⟩ = some (.slice A2 l2.length c2)) (hBl : B < w.heap.size) :
    Calls Tryz.prog 41 #[.slice (some ⟨B, 0, none⟩) 2 2] w fun e w' => ∃ A c, e = .returned (.slice A (l1 ++ l2).length c) ∧ (l1 ++ l2).length ≤ c ∧ Sr w' w'.heap.size A (l1 ++ l2) ∧ Below w.heap.size w w' := by
  obtain ⟨i0, hi, hz0, hz1, hz2⟩ := info_parts infoR
  have K1 : Hid (∀ W, Calls Tryz.prog 88 #[.slice none 0 0, .int .i64 ((l1.length : Int) + (l2.length : Int))] W fun e w' => ∃ v, e = .returned v ∧ w'.ownsRow W.heap.size 62 3 v 0 (rvs []) ∧ Below W.heap.size W w') := Lib.hid fun W => by
    have := GrowR_any (l1.length + l2.length) (by omega) W
    rwa [Int.natCast_add] at this
  have H1 := Lib.hid h1
  have H2 := Lib.hid h2
  obtain ⟨n, hn⟩ : ∃ n, n = l1.length := ⟨_, rfl⟩
  obtain ⟨m, hm⟩ : ∃ m, m = l2.length := ⟨_, rfl⟩
  have HN := Lib.hid hn
  have HM := Lib.hid hm
  rw [← hn] at hB hl1 K1
  rw [← hm] at hB2 hl2 K1
  clear h1 h2 hn hm
  go_enter Tryz.func41, Tryz.ntmps41
  go_wp2
  go_loopw [3, 11] (fun s i wr => ((i = .int .i64 0 ∧ s = .int .i64 0) ∨ (i = .int .i64 1 ∧ s = .int .i64 (n : Int)) ∨ (i = .int .i64 2 ∧ s = .int .i64 ((n : Int) + (m : Int)))) ∧ wr = w) (fun _ i _ => (2 - intOf i).toNat)
  case atStart => exact ⟨.inl ⟨rfl, rfl⟩, rfl⟩
  case round =>
    obtain ⟨hrel, hwe⟩ := hrel
    have hwe2 := hwe.symm
    subst hwe2
    clear hwe
    have hnm : ¬ ((n : Int) + (m : Int) < 0) := by omega
    have hn0 : ¬ ((n : Int) < 0) := by omega
    rcases hrel with ⟨rfl, rfl⟩ | ⟨rfl, rfl⟩ | ⟨rfl, rfl⟩
    · go_wp2
      exact ⟨⟨.inr (.inl ⟨rfl, rfl⟩), trivial⟩, by simp [intOf]⟩
    · go_wp2
      exact ⟨⟨.inr (.inr ⟨rfl, rfl⟩), trivial⟩, by simp [intOf]⟩
    · go_wp2_with fail
      refine (K1.out _).mono ?_
      rintro e w1 ⟨v, rfl, hown, hb1⟩
      have hown0 : w1.ownsRow w.heap.size 62 3 v ([] : List Rc).length (rvs []) := hown
      have hB1 := (hb1.cell (p := ⟨B, 0, none⟩) hBl).trans hB
      have hB3 := (hb1.cell (p := ⟨B, 1, none⟩) hBl).trans hB2
      have H3 := Lib.hid (H1.out.below hb1)
      have H4 := Lib.hid (H2.out.below hb1)
      have HBA := Lib.hid hB
      have HBB := Lib.hid hB2
      clear hown hB hB2
      go_wp2
      go_loopw [6, 27] (fun u i wx => ((i = .int .i64 0 ∧ wx.ownsRow w.heap.size 62 3 u ([] : List Rc).length (rvs [])) ∨ (i = .int .i64 1 ∧ wx.ownsRow w.heap.size 62 3 u l1.length (rvs l1)) ∨ (i = .int .i64 2 ∧ wx.ownsRow w.heap.size 62 3 u (l1 ++ l2).length (rvs (l1 ++ l2)))) ∧ Below w.heap.size w wx) (fun _ i _ => (2 - intOf i).toNat)
      case atStart => exact ⟨.inl ⟨rfl, hown0⟩, hb1⟩
      case round =>
        clear hown0
        obtain ⟨hrel, hbel⟩ := hrel
        have hB4 := (hbel.cell (p := ⟨B, 0, none⟩) hBl).trans HBA.out
        have hB5 := (hbel.cell (p := ⟨B, 1, none⟩) hBl).trans HBB.out
        have hsz := hbel.size
        rcases hrel with ⟨rfl, hown⟩ | ⟨rfl, hown⟩ | ⟨rfl, hown⟩
        · have hg : ∀ j, (u6).ownBlock = some j → w.heap.size ≤ j := fun j e => (own_ge hown e)
          go_wp2_with (at_builtin; refine appnR rfl _ _ _ rfl w.heap.size 62 i0 Tryz.underlying23 hi hz0 hz1 hz2 _ _ rfl hown w.heap.size A1 n c1 l1 (by rw [← HN.out]) rfl (H1.out.below hbel) (by have := HN.out; simp; omega) hsz ?_; intro v' w3 hown3 hgrow)
          exact ⟨⟨.inr (.inl ⟨rfl, hown3⟩), hbel.grown hgrow hsz hg⟩, by simp [intOf]⟩
        · have hg : ∀ j, (u6).ownBlock = some j → w.heap.size ≤ j := fun j e => (own_ge hown e)
          go_wp2_with (at_builtin; refine appnR rfl _ _ _ rfl w.heap.size 62 i0 Tryz.underlying23 hi hz0 hz1 hz2 _ _ rfl hown w.heap.size A2 m c2 l2 (by rw [← HM.out]) rfl (H2.out.below hbel) (by have := HN.out; have := HM.out; omega) hsz ?_; intro v' w3 hown3 hgrow)
          exact ⟨⟨.inr (.inr ⟨rfl, hown3⟩), hbel.grown hgrow hsz hg⟩, by simp [intOf]⟩
        · obtain ⟨Ao, co, hvo, hno⟩ := row_end hown
          obtain ⟨cc, hnl, _, A3, hv3, hsr⟩ := Sr.of_own hown
          rw [hvo] at hv3
          injection hv3 with e1 e2 e3
          subst e1 e3
          have HS := Lib.hid hsr
          rw [hvo] at hown
          have HCP := Lib.hid (own_cap hown)
          subst hvo
          clear hsr hno hnl e2 hown
          go_wp2
          go_ret
          exact ⟨_, co, by simp, HCP.out, HS.out, hbel⟩
theorem appnS {P : Program} {w : World} {ops : Array Oper} {rest : List Oper} {o : Oper} {a : Act} {Q : Exit → Act → World → Prop} (hgd : o.guard = none) (s x : Operand) (t : TypeId)
    (ho : o.op = .call { callee := .builtin .append, args := #[s, x], argTypes := #[t, t] })
    (base : Nat) (e : TypeId) (i : TypeInfo) (ht : P.underlying t = some (.slice e)) (hi : P.info? e = some i) (hz : i.zero = some (Value.agg #[.int .i64 0, .int .i64 0, .int .i64 0, .int .i64 0])) (hsize : i.size = 4) (hby : i.bytes = 32)
    (v : Value) (xs : List Sp) (hs : a.eval s = v) (hown : w.ownsRow base e 4 v xs.length (svs xs)) (B : Nat) (A : Option Addr) (n c : Nat) (l : List Sp) (hn : n = l.length) (hx : a.eval x = .slice A n c) (hA : Ss w B A l)
    (hl : xs.length + l.length ≤ 1048576) (hbase : base ≤ w.heap.size)
    (h : ∀ v' w', w'.ownsRow base e 4 v' (xs ++ l).length (svs (xs ++ l)) → w.grownBy w' v.ownBlock → wpList P ops Q rest (a.put o.dst v') w') : wpList P ops Q (o :: rest) a w := by
  subst hn
  cases A with
  | some ad => exact app_spans hgd s x t ho base e i ht hi hz hsize hby v xs hs hown B (some ad) c l hx hA (fun e => by cases e) hl hbase h
  | none =>
    have hn : l = [] := by
      rcases Nat.eq_zero_or_pos l.length with h0 | h0
      · exact List.eq_nil_of_length_eq_zero h0
      · obtain ⟨b, o, e, _⟩ := hA h0
        cases e
    subst hn
    obtain ⟨A0, c0, rfl, _⟩ := row_end hown
    rw [List.append_nil] at h
    exact wpList_nothing hgd s x t ho e i ht hi A0 _ c0 hs (own_cap hown) c hx (h _ w hown (World.grownBy.refl w _))
set_option maxRecDepth 100000 in
set_option maxHeartbeats 4000000 in
theorem GrowS_any (n : Nat) (hl : n ≤ 1048576) (w : World) :
    Calls Tryz.prog 89 #[.slice none 0 0, .int .i64 (n : Int)] w fun e w' => ∃ v, e = .returned v ∧ w'.ownsRow w.heap.size 87 4 v 0 (svs []) ∧ Below w.heap.size w w' := by
  obtain ⟨i0, hi, hz0, hz1, hz2⟩ := info_parts infoS
  rcases Nat.eq_zero_or_pos n with h0 | hn
  · subst h0
    go_enter Tryz.func89, Tryz.ntmps89
    go_wp2
    go_ret
    exact ⟨_, rfl, World.ownsRow_nil _ _ _ _, Below.refl _ _⟩
  have hrz : ∀ ty, (Builtin.append_ #[24, 3] ty #[.slice none 0 0, .int .i64 (n : Int)]).run Tryz.prog w = .ok (.slice (some ⟨w.heap.size, 0, none⟩) n (grownCap w n 0 87)) (w.drew.alloc (.cells (([] : List Value).toArray ++ Builtin.zeroCells (Value.agg #[.int .i64 0, .int .i64 0, .int .i64 0, .int .i64 0]).cells n ++ Builtin.zeroCells (Value.agg #[.int .i64 0, .int .i64 0, .int .i64 0, .int .i64 0]).cells (grownCap w n 0 87 - n)) 87)) := fun ty => by
    have h := Lib.run_append_grow_zeros (P := Tryz.prog) w 24 3 ty 87 i0 (Value.agg #[.int .i64 0, .int .i64 0, .int .i64 0, .int .i64 0]) .i64 .i64 Tryz.underlying24 Tryz.underlying3 hi hz0 none 0 0 [] (run_firstCells_none w.drew i0.size 0 0 0) n (by omega) (by omega) (by omega) (by omega) (by rw [hz2]; omega) (growslice_fits (need := 0 + n) (old := 0) (bytes := i0.bytes) (by omega) (by rw [hz2]; omega))
    rw [Nat.zero_add] at h
    exact h
  have hge := grownCap_ge w n 0 87
  have hle := grownCap_le_maxLen w n 0 87 (by unfold maxLen; omega)
  have hsz : (([] : List Value).toArray ++ Builtin.zeroCells (Value.agg #[.int .i64 0, .int .i64 0, .int .i64 0, .int .i64 0]).cells n ++ Builtin.zeroCells (Value.agg #[.int .i64 0, .int .i64 0, .int .i64 0, .int .i64 0]).cells (grownCap w n 0 87 - n)).size = grownCap w n 0 87 * 4 := by
    simp [size_zeroCells, Value.cells]
    omega
  generalize grownCap w n 0 87 = G at *
  generalize (([] : List Value).toArray ++ Builtin.zeroCells (Value.agg #[.int .i64 0, .int .i64 0, .int .i64 0, .int .i64 0]).cells n ++ Builtin.zeroCells (Value.agg #[.int .i64 0, .int .i64 0, .int .i64 0, .int .i64 0]).cells (G - n)) = cs at *
  have hown : (w.drew.alloc (.cells cs 87)).ownsRow w.heap.size 87 4 (.slice (some ⟨w.heap.size, 0, none⟩) 0 G) 0 (svs []) := ⟨rfl, .inr ⟨w.heap.size, G, cs, rfl, Nat.le_refl _, heap_alloc_new w.drew _, Nat.zero_le _, hle, hsz, by simp [svs]⟩⟩
  have hbl : Below w.heap.size w (w.drew.alloc (.cells cs 87)) := ((Below.refl w.heap.size w).drew).alloc (Nat.le_refl _) _
  have hG : G ≤ 9223372036854775807 := by unfold maxLen at hle; omega
  clear hsz hle
  have h1 : ¬ ((n : Int) < 0) := by omega
  have h4 : (n : Int) > 0 := by omega
  go_enter Tryz.func89, Tryz.ntmps89
  go_wp2_with (at_builtin; refine Lib.wpList_append_run _ rfl _ _ _ _ rfl _ _ rfl rfl _ _ (hrz _) ?_)
  go_ret
  exact ⟨_, rfl, hown, hbl⟩
set_option maxRecDepth 100000 in
set_option maxHeartbeats 4000000 in
/-- Two rows one behind the other. -/
theorem ConcatS_any (A1 A2 : Option Addr) (c1 c2 : Nat) (l1 l2 : List Sp) (B : Nat) (w : World) (h1 : Ss w w.heap.size A1 l1) (h2 : Ss w w.heap.size A2 l2) (hl1 : l1.length ≤ 10000) (hl2 : l2.length ≤ 10000) (hB : w.cell? ⟨B, 0, none⟩ = some (.slice A1 l1.length c1)) (hB2 : w.cell? ⟨B, 1, none⟩ = some (.slice A2 l2.length c2)) (hBl : B < w.heap.size) :
    Calls Tryz.prog 42 #[.slice (some ⟨B, 0, none⟩) 2 2] w fun e w' => ∃ A c, e = .returned (.slice A (l1 ++ l2).length c) ∧ (l1 ++ l2).length ≤ c ∧ Ss w' w'.heap.size A (l1 ++ l2) ∧ Below w.heap.size w w' := by
  obtain ⟨i0, hi, hz0, hz1, hz2⟩ := info_parts infoS
  have K1 : Hid (∀ W, Calls Tryz.prog 89 #[.slice none 0 0, .int .i64 ((l1.length : Int) + (l2.length : Int))] W fun e w' => ∃ v, e = .returned v ∧ w'.ownsRow W.heap.size 87 4 v 0 (svs []) ∧ Below W.heap.size W w') := Lib.hid fun W => by
    have := GrowS_any (l1.length + l2.length) (by omega) W
    rwa [Int.natCast_add] at this
  have H1 := Lib.hid h1
  have H2 := Lib.hid h2
  obtain ⟨n, hn⟩ : ∃ n, n = l1.length := ⟨_, rfl⟩
  obtain ⟨m, hm⟩ : ∃ m, m = l2.length := ⟨_, rfl⟩
  have HN := Lib.hid hn
  have HM := Lib.hid hm
  rw [← hn] at hB hl1 K1
  rw [← hm] at hB2 hl2 K1
  clear h1 h2 hn hm
  go_enter Tryz.func42, Tryz.ntmps42
  go_wp2
  go_loopw [3, 11] (fun s i wr => ((i = .int .i64 0 ∧ s = .int .i64 0) ∨ (i = .int .i64 1 ∧ s = .int .i64 (n : Int)) ∨ (i = .int .i64 2 ∧ s = .int .i64 ((n : Int) + (m : Int)))) ∧ wr = w) (fun _ i _ => (2 - intOf i).toNat)
  case atStart => exact ⟨.inl ⟨rfl, rfl⟩, rfl⟩
  case round =>
    obtain ⟨hrel, hwe⟩ := hrel
    have hwe2 := hwe.symm
    subst hwe2
    clear hwe
    have hnm : ¬ ((n : Int) + (m : Int) < 0) := by omega
    have hn0 : ¬ ((n : Int) < 0) := by omega
    rcases hrel with ⟨rfl, rfl⟩ | ⟨rfl, rfl⟩ | ⟨rfl, rfl⟩
    · go_wp2
      exact ⟨⟨.inr (.inl ⟨rfl, rfl⟩), trivial⟩, by simp [intOf]⟩
    · go_wp2
      exact ⟨⟨.inr (.inr ⟨rfl, rfl⟩), trivial⟩, by simp [intOf]⟩
    · go_wp2_with fail
      refine (K1.out _).mono ?_
      rintro e w1 ⟨v, rfl, hown, hb1⟩
      have hown0 : w1.ownsRow w.heap.size 87 4 v ([] : List Sp).length (svs []) := hown
      have hB1 := (hb1.cell (p := ⟨B, 0, none⟩) hBl).trans hB
      have hB3 := (hb1.cell (p := ⟨B, 1, none⟩) hBl).trans hB2
      have H3 := Lib.hid (H1.out.below hb1)
      have H4 := Lib.hid (H2.out.below hb1)
      have HBA := Lib.hid hB
      have HBB := Lib.hid hB2
      clear hown hB hB2
      go_wp2
      go_loopw [6, 27] (fun u i wx => ((i = .int .i64 0 ∧ wx.ownsRow w.heap.size 87 4 u ([] : List Sp).length (svs [])) ∨ (i = .int .i64 1 ∧ wx.ownsRow w.heap.size 87 4 u l1.length (svs l1)) ∨ (i = .int .i64 2 ∧ wx.ownsRow w.heap.size 87 4 u (l1 ++ l2).length (svs (l1 ++ l2)))) ∧ Below w.heap.size w wx) (fun _ i _ => (2 - intOf i).toNat)
      case atStart => exact ⟨.inl ⟨rfl, hown0⟩, hb1⟩
      case round =>
        clear hown0
        obtain ⟨hrel, hbel⟩ := hrel
        have hB4 := (hbel.cell (p := ⟨B, 0, none⟩) hBl).trans HBA.out
        have hB5 := (hbel.cell (p := ⟨B, 1, none⟩) hBl).trans HBB.out
        have hsz := hbel.size
        rcases hrel with ⟨rfl, hown⟩ | ⟨rfl, hown⟩ | ⟨rfl, hown⟩
        · have hg : ∀ j, (u6).ownBlock = some j → w.heap.size ≤ j := fun j e => (own_ge hown e)
          go_wp2_with (at_builtin; refine appnS rfl _ _ _ rfl w.heap.size 87 i0 Tryz.underlying24 hi hz0 hz1 hz2 _ _ rfl hown w.heap.size A1 n c1 l1 (by rw [← HN.out]) rfl (H1.out.below hbel) (by have := HN.out; simp; omega) hsz ?_; intro v' w3 hown3 hgrow)
          exact ⟨⟨.inr (.inl ⟨rfl, hown3⟩), hbel.grown hgrow hsz hg⟩, by simp [intOf]⟩
        · have hg : ∀ j, (u6).ownBlock = some j → w.heap.size ≤ j := fun j e => (own_ge hown e)
          go_wp2_with (at_builtin; refine appnS rfl _ _ _ rfl w.heap.size 87 i0 Tryz.underlying24 hi hz0 hz1 hz2 _ _ rfl hown w.heap.size A2 m c2 l2 (by rw [← HM.out]) rfl (H2.out.below hbel) (by have := HN.out; have := HM.out; omega) hsz ?_; intro v' w3 hown3 hgrow)
          exact ⟨⟨.inr (.inr ⟨rfl, hown3⟩), hbel.grown hgrow hsz hg⟩, by simp [intOf]⟩
        · obtain ⟨Ao, co, hvo, hno⟩ := row_end hown
          obtain ⟨cc, hnl, _, A3, hv3, hsr⟩ := Ss.of_own hown
          rw [hvo] at hv3
          injection hv3 with e1 e2 e3
          subst e1 e3
          have HS := Lib.hid hsr
          rw [hvo] at hown
          have HCP := Lib.hid (own_cap hown)
          subst hvo
          clear hsr hno hnl e2 hown
          go_wp2
          go_ret
          exact ⟨_, co, by simp, HCP.out, HS.out, hbel⟩
theorem appnB {P : Program} {w : World} {ops : Array Oper} {rest : List Oper} {o : Oper} {a : Act} {Q : Exit → Act → World → Prop} (hgd : o.guard = none) (s x : Operand) (t : TypeId)
    (ho : o.op = .call { callee := .builtin .append, args := #[s, x], argTypes := #[t, t] })
    (base : Nat) (e : TypeId) (i : TypeInfo) (ht : P.underlying t = some (.slice e)) (hi : P.info? e = some i) (hz : i.zero = some (Value.agg #[.int .i64 0, .int .i64 0, .int .i64 0, .slice none 0 0])) (hsize : i.size = 4) (hby : i.bytes = 48)
    (v : Value) (xs : List Me) (hs : a.eval s = v) (hown : w.ownsRow base e 4 v xs.length (dvs xs)) (B : Nat) (A : Option Addr) (n c : Nat) (l : List Me) (hn : n = l.length) (hx : a.eval x = .slice A n c) (hA : Rd w B A l)
    (hl : xs.length + l.length ≤ 1048576) (hbase : base ≤ w.heap.size)
    (h : ∀ v' w', w'.ownsRow base e 4 v' (xs ++ l).length (dvs (xs ++ l)) → w.grownBy w' v.ownBlock → wpList P ops Q rest (a.put o.dst v') w') : wpList P ops Q (o :: rest) a w := by
  subst hn
  cases A with
  | some ad => exact app_bfs hgd s x t ho base e i ht hi hz hsize hby v xs hs hown B (some ad) l.length c l rfl hx hA (fun e => by cases e) hl hbase h
  | none =>
    have hn : l = [] := by
      rcases Nat.eq_zero_or_pos l.length with h0 | h0
      · exact List.eq_nil_of_length_eq_zero h0
      · obtain ⟨b, o, e, _⟩ := hA h0
        cases e
    subst hn
    obtain ⟨A0, c0, rfl, _⟩ := row_end hown
    rw [List.append_nil] at h
    exact wpList_nothing hgd s x t ho e i ht hi A0 _ c0 hs (own_cap hown) c hx (h _ w hown (World.grownBy.refl w _))
set_option maxRecDepth 100000 in
set_option maxHeartbeats 4000000 in
theorem GrowB_any (n : Nat) (hl : n ≤ 1048576) (w : World) :
    Calls Tryz.prog 90 #[.slice none 0 0, .int .i64 (n : Int)] w fun e w' => ∃ v, e = .returned v ∧ w'.ownsRow w.heap.size 73 4 v 0 (dvs []) ∧ Below w.heap.size w w' := by
  obtain ⟨i0, hi, hz0, hz1, hz2⟩ := info_parts infoB
  rcases Nat.eq_zero_or_pos n with h0 | hn
  · subst h0
    go_enter Tryz.func90, Tryz.ntmps90
    go_wp2
    go_ret
    exact ⟨_, rfl, World.ownsRow_nil _ _ _ _, Below.refl _ _⟩
  have hrz : ∀ ty, (Builtin.append_ #[25, 3] ty #[.slice none 0 0, .int .i64 (n : Int)]).run Tryz.prog w = .ok (.slice (some ⟨w.heap.size, 0, none⟩) n (grownCap w n 0 73)) (w.drew.alloc (.cells (([] : List Value).toArray ++ Builtin.zeroCells (Value.agg #[.int .i64 0, .int .i64 0, .int .i64 0, .slice none 0 0]).cells n ++ Builtin.zeroCells (Value.agg #[.int .i64 0, .int .i64 0, .int .i64 0, .slice none 0 0]).cells (grownCap w n 0 73 - n)) 73)) := fun ty => by
    have h := Lib.run_append_grow_zeros (P := Tryz.prog) w 25 3 ty 73 i0 (Value.agg #[.int .i64 0, .int .i64 0, .int .i64 0, .slice none 0 0]) .i64 .i64 Tryz.underlying25 Tryz.underlying3 hi hz0 none 0 0 [] (run_firstCells_none w.drew i0.size 0 0 0) n (by omega) (by omega) (by omega) (by omega) (by rw [hz2]; omega) (growslice_fits (need := 0 + n) (old := 0) (bytes := i0.bytes) (by omega) (by rw [hz2]; omega))
    rw [Nat.zero_add] at h
    exact h
  have hge := grownCap_ge w n 0 73
  have hle := grownCap_le_maxLen w n 0 73 (by unfold maxLen; omega)
  have hsz : (([] : List Value).toArray ++ Builtin.zeroCells (Value.agg #[.int .i64 0, .int .i64 0, .int .i64 0, .slice none 0 0]).cells n ++ Builtin.zeroCells (Value.agg #[.int .i64 0, .int .i64 0, .int .i64 0, .slice none 0 0]).cells (grownCap w n 0 73 - n)).size = grownCap w n 0 73 * 4 := by
    simp [size_zeroCells, Value.cells]
    omega
  generalize grownCap w n 0 73 = G at *
  generalize (([] : List Value).toArray ++ Builtin.zeroCells (Value.agg #[.int .i64 0, .int .i64 0, .int .i64 0, .slice none 0 0]).cells n ++ Builtin.zeroCells (Value.agg #[.int .i64 0, .int .i64 0, .int .i64 0, .slice none 0 0]).cells (G - n)) = cs at *
  have hown : (w.drew.alloc (.cells cs 73)).ownsRow w.heap.size 73 4 (.slice (some ⟨w.heap.size, 0, none⟩) 0 G) 0 (dvs []) := ⟨rfl, .inr ⟨w.heap.size, G, cs, rfl, Nat.le_refl _, heap_alloc_new w.drew _, Nat.zero_le _, hle, hsz, by simp [dvs]⟩⟩
  have hbl : Below w.heap.size w (w.drew.alloc (.cells cs 73)) := ((Below.refl w.heap.size w).drew).alloc (Nat.le_refl _) _
  have hG : G ≤ 9223372036854775807 := by unfold maxLen at hle; omega
  clear hsz hle
  have h1 : ¬ ((n : Int) < 0) := by omega
  have h4 : (n : Int) > 0 := by omega
  go_enter Tryz.func90, Tryz.ntmps90
  go_wp2_with (at_builtin; refine Lib.wpList_append_run _ rfl _ _ _ _ rfl _ _ rfl rfl _ _ (hrz _) ?_)
  go_ret
  exact ⟨_, rfl, hown, hbl⟩
set_option maxRecDepth 100000 in
set_option maxHeartbeats 4000000 in
/-- Two rows one behind the other. -/
theorem ConcatB_any (A1 A2 : Option Addr) (c1 c2 : Nat) (l1 l2 : List Me) (B : Nat) (w : World) (h1 : Rd w w.heap.size A1 l1) (h2 : Rd w w.heap.size A2 l2) (hl1 : l1.length ≤ 10000) (hl2 : l2.length ≤ 10000) (hB : w.cell? ⟨B, 0, none⟩ = some (.slice A1 l1.length c1)) (hB2 : w.cell? ⟨B, 1, none⟩ = some (.slice A2 l2.length c2)) (hBl : B < w.heap.size) :
    Calls Tryz.prog 43 #[.slice (some ⟨B, 0, none⟩) 2 2] w fun e w' => ∃ A c, e = .returned (.slice A (l1 ++ l2).length c) ∧ (l1 ++ l2).length ≤ c ∧ Rd w' w'.heap.size A (l1 ++ l2) ∧ Below w.heap.size w w' := by
  obtain ⟨i0, hi, hz0, hz1, hz2⟩ := info_parts infoB
  have K1 : Hid (∀ W, Calls Tryz.prog 90 #[.slice none 0 0, .int .i64 ((l1.length : Int) + (l2.length : Int))] W fun e w' => ∃ v, e = .returned v ∧ w'.ownsRow W.heap.size 73 4 v 0 (dvs []) ∧ Below W.heap.size W w') := Lib.hid fun W => by
    have := GrowB_any (l1.length + l2.length) (by omega) W
    rwa [Int.natCast_add] at this
  have H1 := Lib.hid h1
  have H2 := Lib.hid h2
  obtain ⟨n, hn⟩ : ∃ n, n = l1.length := ⟨_, rfl⟩
  obtain ⟨m, hm⟩ : ∃ m, m = l2.length := ⟨_, rfl⟩
  have HN := Lib.hid hn
  have HM := Lib.hid hm
  rw [← hn] at hB hl1 K1
  rw [← hm] at hB2 hl2 K1
  clear h1 h2 hn hm
  go_enter Tryz.func43, Tryz.ntmps43
  go_wp2
  go_loopw [3, 11] (fun s i wr => ((i = .int .i64 0 ∧ s = .int .i64 0) ∨ (i = .int .i64 1 ∧ s = .int .i64 (n : Int)) ∨ (i = .int .i64 2 ∧ s = .int .i64 ((n : Int) + (m : Int)))) ∧ wr = w) (fun _ i _ => (2 - intOf i).toNat)
  case atStart => exact ⟨.inl ⟨rfl, rfl⟩, rfl⟩
  case round =>
    obtain ⟨hrel, hwe⟩ := hrel
    have hwe2 := hwe.symm
    subst hwe2
    clear hwe
    have hnm : ¬ ((n : Int) + (m : Int) < 0) := by omega
    have hn0 : ¬ ((n : Int) < 0) := by omega
    rcases hrel with ⟨rfl, rfl⟩ | ⟨rfl, rfl⟩ | ⟨rfl, rfl⟩
    · go_wp2
      exact ⟨⟨.inr (.inl ⟨rfl, rfl⟩), trivial⟩, by simp [intOf]⟩
    · go_wp2
      exact ⟨⟨.inr (.inr ⟨rfl, rfl⟩), trivial⟩, by simp [intOf]⟩
    · go_wp2_with fail
      refine (K1.out _).mono ?_
      rintro e w1 ⟨v, rfl, hown, hb1⟩
      have hown0 : w1.ownsRow w.heap.size 73 4 v ([] : List Me).length (dvs []) := hown
      have hB1 := (hb1.cell (p := ⟨B, 0, none⟩) hBl).trans hB
      have hB3 := (hb1.cell (p := ⟨B, 1, none⟩) hBl).trans hB2
      have H3 := Lib.hid (H1.out.below hb1)
      have H4 := Lib.hid (H2.out.below hb1)
      have HBA := Lib.hid hB
      have HBB := Lib.hid hB2
      clear hown hB hB2
      go_wp2
      go_loopw [6, 27] (fun u i wx => ((i = .int .i64 0 ∧ wx.ownsRow w.heap.size 73 4 u ([] : List Me).length (dvs [])) ∨ (i = .int .i64 1 ∧ wx.ownsRow w.heap.size 73 4 u l1.length (dvs l1)) ∨ (i = .int .i64 2 ∧ wx.ownsRow w.heap.size 73 4 u (l1 ++ l2).length (dvs (l1 ++ l2)))) ∧ Below w.heap.size w wx) (fun _ i _ => (2 - intOf i).toNat)
      case atStart => exact ⟨.inl ⟨rfl, hown0⟩, hb1⟩
      case round =>
        clear hown0
        obtain ⟨hrel, hbel⟩ := hrel
        have hB4 := (hbel.cell (p := ⟨B, 0, none⟩) hBl).trans HBA.out
        have hB5 := (hbel.cell (p := ⟨B, 1, none⟩) hBl).trans HBB.out
        have hsz := hbel.size
        rcases hrel with ⟨rfl, hown⟩ | ⟨rfl, hown⟩ | ⟨rfl, hown⟩
        · have hg : ∀ j, (u6).ownBlock = some j → w.heap.size ≤ j := fun j e => (own_ge hown e)
          go_wp2_with (at_builtin; refine appnB rfl _ _ _ rfl w.heap.size 73 i0 Tryz.underlying25 hi hz0 hz1 hz2 _ _ rfl hown w.heap.size A1 n c1 l1 (by rw [← HN.out]) rfl (H1.out.below hbel) (by have := HN.out; simp; omega) hsz ?_; intro v' w3 hown3 hgrow)
          exact ⟨⟨.inr (.inl ⟨rfl, hown3⟩), hbel.grown hgrow hsz hg⟩, by simp [intOf]⟩
        · have hg : ∀ j, (u6).ownBlock = some j → w.heap.size ≤ j := fun j e => (own_ge hown e)
          go_wp2_with (at_builtin; refine appnB rfl _ _ _ rfl w.heap.size 73 i0 Tryz.underlying25 hi hz0 hz1 hz2 _ _ rfl hown w.heap.size A2 m c2 l2 (by rw [← HM.out]) rfl (H2.out.below hbel) (by have := HN.out; have := HM.out; omega) hsz ?_; intro v' w3 hown3 hgrow)
          exact ⟨⟨.inr (.inr ⟨rfl, hown3⟩), hbel.grown hgrow hsz hg⟩, by simp [intOf]⟩
        · obtain ⟨Ao, co, hvo, hno⟩ := row_end hown
          obtain ⟨cc, hnl, _, A3, hv3, _, hsr⟩ := Rd.of_own hown
          rw [hvo] at hv3
          injection hv3 with e1 e2 e3
          subst e1 e3
          have HS := Lib.hid hsr
          rw [hvo] at hown
          have HCP := Lib.hid (own_cap hown)
          subst hvo
          clear hsr hno hnl e2 hown
          go_wp2
          go_ret
          exact ⟨_, co, by simp, HCP.out, HS.out, hbel⟩
end Go.Proofs.YtmjneokjgcgchaaGreat
