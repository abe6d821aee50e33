/-
  The document's own Parse: what any tokens come to, put together.
-/
import Derived.Test.YthcnjiigkmljnaaGreatDoorSynRef12
import Derived.Test.YthcnjiigkmljnaaGreatDoorSynParse
import Derived.Laws.AppendOwnNone
namespace Go.Proofs.YthcnjiigkmljnaaGreatDoor
open Go.RowKit

/-- A new, empty row. -/
theorem own_empty (w : World) (B : Nat) (e : TypeId) (hB : B ≤ w.heap.size) : (w.alloc (.cells #[] e)).ownsRow B e 1 (.slice (some ⟨w.heap.size, 0, none⟩) 0 0) ([] : List Int).length (ivs []) :=
  ⟨rfl, .inr ⟨w.heap.size, 0, #[], rfl, hB, heap_alloc_new w _, Nat.le_refl _, by unfold maxLen; omega, rfl, rfl⟩⟩
/-- append(dst, l...), dst of the call's own, whatever list l is. -/
theorem app_list {Pr : Program} {w : World} {ops : Array Oper} {rest : List Oper} {o : Oper} {a : Act} {Q : Exit → Act → World → Prop} (hgd : o.guard = none) (s x : Operand) (t : TypeId)
    (ho : o.op = .call { callee := .builtin .append, args := #[s, x], argTypes := #[t, t] })
    (base : Nat) (e : TypeId) (i : TypeInfo) (ht : Pr.underlying t = some (.slice e)) (hi : Pr.info? e = some i) (hz : i.zero = some (.int .i64 0)) (hsize : i.size = 1) (hby : i.bytes = 8)
    (v : Value) (xs : List Int) (hs : a.eval s = v) (hown : w.ownsRow base e 1 v xs.length (ivs xs)) (ad : Addr) (n c : Nat) (l : List Int) (hn : n = l.length) (hx : a.eval x = .slice (some ad) n c) (hcell : ∀ j u, (ivs l)[j]? = some u → w.cell? (ad.add j) = some u)
    (hl : xs.length + l.length ≤ 1048576) (hbase : base ≤ w.heap.size)
    (h : ∀ v' w', w'.ownsRow base e 1 v' (xs ++ l).length (ivs (xs ++ l)) → w.grownBy w' v.ownBlock → wpList Pr ops Q rest (a.put o.dst v') w') : wpList Pr ops Q (o :: rest) a w := by
  subst hn
  refine wpList_append_own w hgd s x t ho base e i (.int .i64 0) 1 8 ht hi hz hsize hby rfl (by omega) v xs.length (ivs xs) hs hown ad l.length c (ivs l) hx (by rw [ivs_length]; omega) hcell (ivs_one l) (by unfold maxLen; omega) (by omega) hbase fun v' w' h1 h2 _ => ?_
  rw [← ivs_append] at h1
  exact h v' w' (by rw [List.length_append]; exact h1) h2
theorem own_base {w : World} {base base' k n : Nat} {e : TypeId} {v : Value} {xs : List Value} (h : w.ownsRow base e k v n xs) (hb : base' ≤ base) : w.ownsRow base' e k v n xs := by
  refine ⟨h.1, ?_⟩
  rcases h.2 with hn | ⟨g, cap, cur, h1, h2, rest⟩
  · exact .inl hn
  · exact .inr ⟨g, cap, cur, h1, Nat.le_trans hb h2, rest⟩
/-- What the document's own parser has put together so far: what is open, and the items. -/
structure Jr (w : World) (P : Nat) (vc vi : Value) (op : List Int) (acc : List Im) : Prop where
  oc : w.ownsRow (P + 1) 3 1 vc op.length (op.reverse.flatMap uq)
  oi : ∃ d : List (Im × Value), acc = d.map (·.1) ∧ w.ownsRow (P + 1) 61 8 vi d.length (d.flatMap iq) ∧ ∀ p ∈ d, Ex w (Yv P vc vi) p.2 p.1.ents
section
variable {w w' wa w1 : World} {P : Nat} {vc vi : Value} {op : List Int} {acc : List Im}
theorem Jr.fr (h : Jr w P vc vi op acc) (hf : Fr w w' P) : Jr w' P vc vi op acc := by
  obtain ⟨d, e, ho, hn⟩ := h.oi
  exact ⟨own_fr h.oc hf (Nat.lt_succ_self P), d, e, own_fr ho hf (Nat.lt_succ_self P), fun p hp => (hn p hp).to (Kp.of_fr hf (fun _ => .inl (Nat.lt_succ_self P))) (fun _ _ h => h)⟩
/-- An item more. -/
theorem Jr.item (h : Jr w P vc vi op acc) (hlt : P < w.heap.size) (hf : Fr w wa P) {im : Im} {ve : Value} {g n cap : Nat} (hx : Ex wa (fun b => b < w.heap.size) ve im.ents)
    (hgrow : wa.grownBy w1 vi.ownBlock) (hat : vi.ownBlock = some g ∨ g = wa.heap.size) (d : List (Im × Value)) (hacc : acc = d.map (·.1)) (ho : w.ownsRow (P + 1) 61 8 vi d.length (d.flatMap iq)) (hn : ∀ p ∈ d, Ex w (Yv P vc vi) p.2 p.1.ents)
    (hown : w1.ownsRow (P + 1) 61 8 (.slice (some ⟨g, 0, none⟩) n cap) (d.length + 1) (d.flatMap iq ++ iq (im, ve))) :
    Jr w1 P vc (.slice (some ⟨g, 0, none⟩) n cap) op (acc ++ [im]) := by
  have hsz := hf.size
  have lti := ho.lt
  have ltc := h.oc.lt
  refine ⟨?_, d ++ [(im, ve)], by rw [hacc, List.map_append]; rfl, ?_, ?_⟩
  · exact own_kp (own_fr h.oc hf (Nat.lt_succ_self P)) (Kp.of_grown (X := fun b => vi.ownBlock = some b) hgrow (fun _ h => h)) (row_ne h.oc ho (by decide))
  · rw [flat_snoc, List.length_append]
    exact hown
  · intro p hp
    rcases List.mem_append.1 hp with hp | hp
    · refine (hn p hp).to ((Kp.of_fr hf (fun _ => .inl (Nat.lt_succ_self P))).trans (Kp.of_grown hgrow (fun _ h => .inr (.inr h)))) ?_
      rintro b hb (h1 | h1 | h1)
      · exact .inl h1
      · exact .inr (.inl h1)
      · have hgb : g = b := by simpa [Value.ownBlock] using h1
        subst hgb
        rcases hat with h2 | h2
        · exact .inr (.inr h2)
        · omega
    · obtain rfl : p = (im, ve) := by simpa using hp
      refine hx.to (Kp.of_grown hgrow (fun b hb => (lti b hb).2)) ?_
      rintro b hb (h1 | h1 | h1)
      · show b < w.heap.size; omega
      · exact (ltc b h1).2
      · have hgb : g = b := by simpa [Value.ownBlock] using h1
        subst hgb
        rcases hat with h2 | h2
        · exact (lti g h2).2
        · omega
/-- One deeper. -/
theorem Jr.open (h : Jr w P vc vi op acc) (hf : Fr w wa P) {k : Int} {g n cap : Nat} (hgrow : wa.grownBy w1 vc.ownBlock) (hat : vc.ownBlock = some g ∨ g = wa.heap.size)
    (hown : w1.ownsRow (P + 1) 3 1 (.slice (some ⟨g, 0, none⟩) n cap) (op.length + 1) (op.reverse.flatMap uq ++ uq k)) :
    Jr w1 P (.slice (some ⟨g, 0, none⟩) n cap) vi (k :: op) acc := by
  have hsz := hf.size
  obtain ⟨d, hacc, ho, hn⟩ := h.oi
  refine ⟨?_, d, hacc, ?_, ?_⟩
  · rw [List.reverse_cons, flat_snoc, List.length_cons]
    exact hown
  · exact own_kp (own_fr ho hf (Nat.lt_succ_self P)) (Kp.of_grown (X := fun b => vc.ownBlock = some b) hgrow (fun _ h => h)) (row_ne ho h.oc (by decide))
  · intro p hp
    refine (hn p hp).to ((Kp.of_fr hf (fun _ => .inl (Nat.lt_succ_self P))).trans (Kp.of_grown hgrow (fun _ h => .inr (.inl h)))) ?_
    rintro b hb (h1 | h1 | h1)
    · exact .inl h1
    · have hgb : g = b := by simpa [Value.ownBlock] using h1
      subst hgb
      rcases hat with h2 | h2
      · exact .inr (.inl h2)
      · omega
    · exact .inr (.inr h1)
/-- One less deep: a new row. -/
theorem Jr.close {k : Int} {v' : Value} (h : Jr w P vc vi (k :: op) acc) (hf : Fr w w1 P) (hown : w1.ownsRow w.heap.size 3 1 v' op.length (op.reverse.flatMap uq)) (hP : P < w.heap.size) : Jr w1 P v' vi op acc := by
  obtain ⟨d, hacc, ho, hn⟩ := h.oi
  refine ⟨own_base hown hP, d, hacc, own_fr ho hf (Nat.lt_succ_self P), fun p hp => (hn p hp).to (Kp.of_fr hf (fun _ => .inl (Nat.lt_succ_self P))) ?_⟩
  rintro b hb (h1 | h1 | h1)
  · exact .inl h1
  · have := (hown.lt b h1).1; omega
  · exact .inr (.inr h1)
theorem Jr.ix (h : Jr w P vc vi op acc) : Ix w (fun b => b < P) vi acc := by
  obtain ⟨d, e, ho, hn⟩ := h.oi
  exact ⟨d, e, (Rw.of_own iq_len (by decide) ho (fun b hb _ => by have := (ho.lt b hb).1; show ¬ b < P; omega)).2, fun p hp => (hn p hp).to (Kp.refl _ _) (fun b _ hb => .inl (by show b < P + 1; have : b < P := hb; omega))⟩
end
theorem infoRI : (Tryz.prog.info? 61).map (fun i => (i.zero, i.size, i.bytes)) = some (some (.agg #[.int .i64 0, .int .i64 0, .string ⟨#[]⟩, .int .i64 0, .int .i64 0, .int .i64 0, .string ⟨#[]⟩, .slice none 0 0]), 8, 96) := by kernel_rfl
theorem row_last {w : World} {base : Nat} {vc : Value} {k : Int} {op : List Int} (h : w.ownsRow base 3 1 vc (k :: op).length ((k :: op).reverse.flatMap uq)) :
    ∃ g cap, vc = .slice (some ⟨g, 0, none⟩) (op.length + 1) cap ∧ g < w.heap.size ∧ base ≤ g ∧ op.length + 1 ≤ cap ∧ w.cell? ⟨g, op.length, none⟩ = some (.int .i64 k) ∧ ∀ j u, (ivs op.reverse)[j]? = some u → w.cell? ((⟨g, 0, none⟩ : Addr).add j) = some u := by
  rcases h.2 with ⟨_, h0⟩ | ⟨g, cap, cur, e, hb, hg, hc, _⟩
  · simp at h0
  · subst e
    have hcl := fun j u hu => h.cells (g := g) rfl j u hu
    have hll : (op.reverse.flatMap uq).length = op.length := by rw [flat_len uq_len]; simp
    refine ⟨g, cap, rfl, (Array.getElem?_eq_some_iff.1 hg).1, hb, hc, ?_, fun j u hu => ?_⟩
    · have := hcl op.length (.int .i64 k) (by rw [List.reverse_cons, flat_snoc, List.getElem?_append_right (by omega), hll, Nat.sub_self]; rfl)
      rw [addr_add, Nat.zero_add] at this
      exact this
    · rw [ivs_flat] at hu
      refine hcl j u ?_
      rw [List.reverse_cons, flat_snoc, List.getElem?_append_left]
      · exact hu
      · rcases Nat.lt_or_ge j (op.reverse.flatMap uq).length with h | h
        · exact h
        · rw [List.getElem?_eq_none h] at hu; cases hu
section
variable {w : World} {A : Option Addr} {c : Nat} {L : List Tk} {en : Int}
/-- Where the loop of the document's own Parse is. -/
def Pq (L : List Tk) (en : Int) (P : Nat) (A : Option Addr) (c : Nat) (vo vc : Value) (wr : World) : Prop :=
  (∃ ir ar er A' n' c', Ps wr P A c L ir en ar er ∧ ir ≤ L.length ∧ vc = .slice A' n' c' ∧ er ≠ 0 ∧ parseT L en = .no ar er) ∨
  (∃ op acc ir, Ps wr P A c L ir en 0 0 ∧ Jr wr P vc vo op acc ∧ Jv L op ir ∧ ir ≤ L.length ∧ acc.length ≤ ir ∧ op.length ≤ 32 ∧ parseT L en = itemsT L en op acc ir)
attribute [local go_sem ↓] Go.wp_at_zero Go.wp_at_succ
set_option maxRecDepth 100000 in
set_option maxHeartbeats 4000000 in
theorem rParse_any (w : World) (hst : St w w.heap.size A L) (hJ : Jv L [] 0) :
    Calls Tryz.prog 8 #[.slice A L.length c, .int .i64 en] w fun r w' => RetP w L en r w' := by
  obtain ⟨i0, hi0, hz0, hz1, hz2⟩ := info_parts infoRI
  obtain ⟨j0, hj0, hy0, hy1, hy2⟩ := info_parts info64
  have hq0 : Ps (w.alloc (.cells #[.slice A L.length c, .int .i64 0, .int .i64 en, .int .i64 0, .int .i64 0] 57)) w.heap.size A c L 0 en 0 0 :=
    ⟨by simp, by simp, by simp, by simp, by simp, by simp, by simp, by simp, by simp, hst.keep fun p hp => World.cell?_alloc_lt w _ p hp⟩
  have hr0 : Jr (w.alloc (.cells #[.slice A L.length c, .int .i64 0, .int .i64 en, .int .i64 0, .int .i64 0] 57)) w.heap.size (.slice none 0 0) (.slice none 0 0) [] [] :=
    ⟨World.ownsRow_nil _ _ _ _, [], rfl, World.ownsRow_nil _ _ _ _, fun _ h => by cases h⟩
  have H0 : Hid (Pq L en w.heap.size A c (.slice none 0 0) (.slice none 0 0) (w.alloc (.cells #[.slice A L.length c, .int .i64 0, .int .i64 en, .int .i64 0, .int .i64 0] 57))) := Lib.hid (.inr ⟨[], [], 0, hq0, hr0, hJ, Nat.zero_le _, Nat.le_refl _, by decide, rfl⟩)
  have hL1 := hJ.len
  have hb0 : Below w.heap.size w (w.alloc (.cells #[.slice A L.length c, .int .i64 0, .int .i64 en, .int .i64 0, .int .i64 0] 57)) := (Below.refl _ _).alloc (Nat.le_refl _) _
  have HB0 := Lib.hid hb0
  clear hq0 hr0 hst hJ hb0
  go_enter Tryz.func8, Tryz.ntmps8
  go_wp2
  go_loopw [8, 9] (fun vo vc wr => Hid (Pq L en w.heap.size A c vo vc wr) ∧ Hid (Below w.heap.size w wr)) (fun _ _ wr => mP wr w.heap.size L.length)
  case atStart => exact ⟨H0, HB0⟩
  case round =>
    obtain ⟨HPq, HB⟩ := hrel
    generalize hPe : w.heap.size = P at *
    have HPe := Lib.hid hPe
    clear hPe
    rcases HPq.out with ⟨ir, ar, er, A', n', c', hq, hir, hvc, he, hp⟩ | ⟨op, acc, ir, hq, hj, hJ, hir, hal, hop, hp⟩
    · have c4 := hq.c4
      have c3 := hq.c3
      have c1 := hq.c1
      have te : (er == 0) = false := by rw [beq_eq_false_iff_ne]; exact he
      have te2 : (er != 0) = true := by rw [bne_iff_ne]; exact he
      subst hvc
      have hfin : ∀ w', Below P w w' → RetP w L en (.returned (.tuple #[.slice none 0 0, .int .i64 ar, .int .i64 er])) w' := fun w' hb => ⟨by rw [HPe.out]; exact hb, .inl ⟨ar, er, hp, he, rfl⟩⟩
      have HFin := Lib.hid hfin
      have htl : decide (ir < L.length) = false ∨ decide (ir < L.length) = true := by cases decide (ir < L.length) <;> simp
      by_cases hn : 0 < n'
      · have tn : decide (0 < n') = true := by simp; omega
        have hFl := pfail_any hq en 2
        rw [if_neg he, if_neg he] at hFl
        have HFl := Lib.hid hFl
        have hPw := hq.lt
        clear hFl hq hp he HPq hfin
        rcases htl with ti | ti
        all_goals
          go_wp2_with fail
          refine HFl.out.mono ?_
          rintro r w2 ⟨rfl, hq2, hf2⟩
          have d3 := hq2.c3
          have d4 := hq2.c4
          have hb2 : Below P w w2 := HB.out.trans (hf2.below (Nat.le_of_lt hPw) (Nat.le_refl _))
          clear HFl hf2
          go_wp2
          go_quiet (fail)
          go_wp2
          go_ret3
          exact HFin.out _ (below_drewN hb2 _)
      · have tn : decide (0 < n') = false := by simp; omega
        clear hq hp he HPq hfin
        rcases htl with ti | ti
        all_goals
          go_wp2
          go_quiet (fail)
          go_wp2
          go_ret3
          exact HFin.out _ (below_drewN HB.out _)
    · have c4 := hq.c4
      have c1 := hq.c1
      have z1 := hq.z1
      have hlt := hq.lt
      obtain ⟨Ac, cc, hvc, hcc⟩ := row_shape hj.oc
      by_cases hi : ir < L.length
      · obtain ⟨b, o, hAe, hbP, hcl⟩ := hq.tl (by omega)
        obtain ⟨g0, g1, g2, g3⟩ := hcl ir hi
        have hbw : b < wr.heap.size := by omega
        have ti : decide (ir < L.length) = true := by simp; omega
        have hwordE := @items_word L en acc ir hi
        have hopenE := @items_open L en op acc ir hi
        have hcloseE := @items_close L en op acc ir hi
        have hskipE := @items_skip L en op acc ir hi
        have hsm := fun (h0 : op = []) (hk : (tg L ir).kind = 3) => Jv.sm (i := ir) (by rw [← h0]; exact hJ) hi hk
        have hjw := fun (h0 : op = []) (hk : (tg L ir).kind = 3) (j : Nat) => Jv.word (i := ir) (by rw [← h0]; exact hJ) hi hk j
        have hjs := hJ.skip hi
        have hjp := fun (k : Int) => hJ.push k
        have hjc := fun (op' : List Int) => hJ.pop (op' := op') hi
        have hpw := fun (h0 : Sm L ∨ Idle (tg L ir).s) => pword_any (hq.alloc (.cells #[.int .i64 (tg L ir).kind, .int .i64 (tg L ir).at_, .int .i64 (tg L ir).n, .string (str (tg L ir).s)] 42)) hi hL1 h0
        subst hAe
        generalize htg : tg L ir = t at *
        obtain ⟨tk, tt, tn, ts⟩ := t
        unfold tv at *
        simp only at *
        have hfa : Fr wr (wr.alloc (.cells #[.int .i64 tk, .int .i64 tt, .int .i64 tn, .string (str ts)] 42)) P := (Fr.refl wr P).alloc _
        have hqa := hq.alloc (.cells #[.int .i64 tk, .int .i64 tt, .int .i64 tn, .string (str ts)] 42)
        have hja := hj.fr hfa
        have hTa := Tc.new wr tk tt tn ts 42
        have hqs := hq.next (ir + 1)
        have eir : (((ir + 1 : Nat) : Int)) = (ir : Int) + 1 := by omega
        rw [eir] at hqs
        have hfb : Fr wr ((wr.setCell ⟨P, 1, none⟩ (.int .i64 ((ir : Int) + 1))).alloc (.cells #[.int .i64 tk, .int .i64 tt, .int .i64 tn, .string (str ts)] 42)) P := ((Fr.refl wr P).set 1 _).alloc _
        have hqb := hqs.alloc (.cells #[.int .i64 tk, .int .i64 tt, .int .i64 tn, .string (str ts)] 42)
        have hjb := hj.fr hfb
        have hsS : (wr.setCell ⟨P, 1, none⟩ (.int .i64 ((ir : Int) + 1))).heap.size = wr.heap.size := by simp
        have hTb := Tc.new (wr.setCell ⟨P, 1, none⟩ (.int .i64 ((ir : Int) + 1))) tk tt tn ts 42
        rw [hsS] at hTb
        have hbA : Below P w (wr.alloc (.cells #[.int .i64 tk, .int .i64 tt, .int .i64 tn, .string (str ts)] 42)) := HB.out.trans (hfa.below (Nat.le_of_lt hlt) (Nat.le_refl _))
        have hbB : Below P w ((wr.setCell ⟨P, 1, none⟩ (.int .i64 ((ir : Int) + 1))).alloc (.cells #[.int .i64 tk, .int .i64 tt, .int .i64 tn, .string (str ts)] 42)) := HB.out.trans (hfb.below (Nat.le_of_lt hlt) (Nat.le_refl _))
        have HVl : Hid (∀ k, u9.ownBlock = some k → k < wr.heap.size) := Lib.hid (fun k hk => (hj.oc.lt k hk).2)
        have hmq := hq.mp L.length
        rw [if_pos rfl] at hmq
        have k0 := hTa.c0
        have k1 := hTa.c1
        have k2 := hTa.c2
        have k3 := hTa.c3
        have m0 := hTb.c0
        have m1 := hTb.c1
        have e1 := hqa.c1
        have ez1 := hqa.z1
        have hsB : ((wr.setCell ⟨P, 1, none⟩ (.int .i64 ((ir : Int) + 1))).alloc (.cells #[.int .i64 tk, .int .i64 tt, .int .i64 tn, .string (str ts)] 42)).heap.size = wr.heap.size + 1 := by simp
        have nPw : P ≠ wr.heap.size := by omega
        have HQa := Lib.hid hqa
        have HQb := Lib.hid hqb
        have HJa := Lib.hid hja
        have HJb := Lib.hid hjb
        have HTb := Lib.hid hTb
        have HbA := Lib.hid hbA
        have HbB := Lib.hid hbB
        have Hmq := Lib.hid hmq
        have Hp := Lib.hid hp
        have HW := Lib.hid hwordE
        have HOp := Lib.hid hopenE
        have HCl := Lib.hid hcloseE
        have HSk := Lib.hid hskipE
        have HSm := Lib.hid hsm
        have HJw := Lib.hid hjw
        have HJs := Lib.hid hjs
        have HJp := Lib.hid hjp
        have HJc := Lib.hid hjc
        have HPw := Lib.hid hpw
        have Htg := Lib.hid htg
        clear hwordE hopenE hcloseE hskipE hsm hjw hjs hjp hjc hpw hqa hqb hja hjb hTa hTb hbA hbB hmq hfa hp htg hcl hq hj hJ HPq z1
        by_cases hk3 : tk = 3 ∧ op = []
        · obtain ⟨hk3, ho⟩ := hk3
          subst hk3
          subst ho
          simp only [List.length_nil] at *
          subst hvc
          have hPw := HPw.out (HSm.out (by trivial) (by trivial))
          have HPw2 := Lib.hid hPw
          have hW := HW.out (by trivial)
          have HW2 := Lib.hid hW
          clear hPw hW
          go_wp2_with fail
          refine HPw2.out.mono ?_
          rintro r w2 ⟨v, x, i2, a2, e2, rfl, hx1, hx0, hix, hp2, hi2, hf2, hres⟩
          have hb2 : Below P w w2 := HbA.out.trans (hf2.below (by simp; omega) (Nat.le_refl _))
          have hj2 := HJa.out.fr hf2
          obtain ⟨d, hacc, hod, hnd⟩ := HJa.out.oi
          have hdl : d.length ≤ 1048576 := by rw [hacc, List.length_map] at hal; omega
          have hlt2 : P < (wr.alloc (.cells #[.int .i64 3, .int .i64 tt, .int .i64 tn, .string (str ts)] 42)).heap.size := by simp; omega
          have hstep : ∀ (w4 : World) (vo : Value), Ps w4 P (some ⟨b, o, none⟩) c L i2 en a2 e2 → (e2 = 0 → Jr w4 P (.slice Ac 0 cc) vo [] (acc ++ x)) → Pq L en P (some ⟨b, o, none⟩) c vo (.slice Ac 0 cc) w4 := fun w4 vo hp4 hj4 => by
            rcases hres with ⟨h1, h2⟩ | ⟨h1, h2, h3⟩
            · exact .inl ⟨i2, a2, e2, Ac, 0, cc, hp4, hi2, rfl, h1, by rw [Hp.out, HW2.out, h2, then_no]⟩
            · subst h1 h2
              have hw := word_ok h3
              exact .inr ⟨[], acc ++ x, i2, hp4, hj4 rfl, HJw.out (by trivial) (by trivial) i2, hi2, by rw [List.length_append]; omega, by decide, by rw [Hp.out, HW2.out, h3, then_ok]⟩
          have hmeas : ∀ w4, Ps w4 P (some ⟨b, o, none⟩) c L i2 en a2 e2 → mP w4 P L.length < L.length + 1 - ir := fun w4 hp4 => by
            rw [hp4.mp]
            by_cases he : e2 = 0
            · rw [if_pos he]
              rcases hres with ⟨h1, _⟩ | ⟨_, _, h3⟩
              · exact absurd he h1
              · have := (word_ok h3).1; omega
            · rw [if_neg he]; omega
          have HSt := Lib.hid hstep
          have HMe := Lib.hid hmeas
          clear hres hstep hmeas
          have hown2 := own_fr hod hf2 (Nat.lt_succ_self P)
          have hszA := hf2.size
          match x, hx1 with
          | [], _ =>
            have hv0 := hx0 rfl
            subst hv0
            go_wp2_with (at_builtin; refine wpList_append_own_none rfl _ _ _ rfl (P + 1) 61 i0 8 Tryz.underlying29 hi0 _ _ _ rfl hown2 rfl ?_)
            refine ⟨⟨Lib.hid (HSt.out _ _ hp2 (fun _ => by rw [List.append_nil]; exact hj2)), Lib.hid hb2⟩, ?_⟩
            rw [Hmq.out]; exact HMe.out _ hp2
          | [im], _ =>
            obtain ⟨dx, hdx, ⟨Ax, cx, hvx, _, hclx⟩, hexx⟩ := hix
            match dx, hdx with
            | [(im', ve)], hdx =>
              obtain rfl : im = im' := by simpa using hdx
              obtain ⟨gx, ox, hAx, hgx, hnx, hcx⟩ := hclx (by simp)
              have hex := hexx _ (List.mem_cons_self)
              simp only at hvx hex
              subst hAx
              subst hvx
              obtain ⟨Ae, ne, ce, hve⟩ := hex.shape
              subst hve
              have hnews : ∀ j u, (iq (im, Value.slice Ae ne ce))[j]? = some u → w2.cell? ((⟨gx, ox, none⟩ : Addr).add j) = some u := fun j u hu => by
                have := hcx 0 _ rfl j u hu
                rw [addr_add]
                simpa using this
              clear hclx hcx hx0
              go_wp2_with (at_builtin; refine wpList_append_lies _ rfl _ _ _ rfl (P + 1) 61 i0 (.agg #[.int .i64 0, .int .i64 0, .string ⟨#[]⟩, .int .i64 0, .int .i64 0, .int .i64 0, .string ⟨#[]⟩, .slice none 0 0]) 8 96 Tryz.underlying29 hi0 hz0 hz1 hz2 rfl (by omega) _ _ _ rfl hown2 ⟨gx, ox, none⟩ 1 cx (iq (im, .slice Ae ne ce)) rfl rfl hnews (iq_one' _ rfl) (by omega) (by unfold maxLen; omega) (by omega) (by have := hp2.lt; omega) _ rfl ?_; intro g cap w4 hown4 hgrow hat4 hgl)
              have hvi : ∀ k, u8.ownBlock = some k → P + 1 ≤ k ∧ k < (wr.alloc (.cells #[.int .i64 3, .int .i64 tt, .int .i64 tn, .string (str ts)] 42)).heap.size := hod.lt
              have hbel : Below (P + 1) w2 w4 := (Below.refl _ _).grown hgrow (by have := hp2.lt; omega) (fun k hk => (hvi k hk).1)
              have hp4 := hp2.bel (Nat.lt_succ_self P) hbel
              have hj4 := Jr.item HJa.out hlt2 hf2 hex hgrow hat4 d hacc hod hnd hown4
              refine ⟨⟨Lib.hid (HSt.out _ _ hp4 (fun _ => hj4)), Lib.hid (hb2.trans (hbel.mono (by omega)))⟩, ?_⟩
              rw [Hmq.out]; exact HMe.out _ hp4
        · have hg3 : (tk == 3) = false ∨ ((tk == 3) = true ∧ ((op.length : Int) == 0) = false) := by
            by_cases h3 : tk = 3
            · right
              refine ⟨by simpa using h3, ?_⟩
              have hne : op ≠ [] := fun h => hk3 ⟨h3, h⟩
              have := List.length_pos_iff.2 hne
              rw [beq_eq_false_iff_ne]; omega
            · left; rw [beq_eq_false_iff_ne]; exact h3
          have hmB : ∀ w4 a4 e4, Ps w4 P (some ⟨b, o, none⟩) c L (ir + 1) en a4 e4 → mP w4 P L.length < L.length + 1 - ir := fun w4 a4 e4 hp4 => by
            rw [hp4.mp]
            split <;> omega
          have HMB := Lib.hid hmB
          clear hmB
          subst hvc
          by_cases ho : tk = 6 ∨ tk = 8 ∨ tk = 10
          · have tks : (tk == 3) = false := by rcases ho with h | h | h <;> subst h <;> rfl
            have tkc : (tk == 7) = false ∧ (tk == 9) = false ∧ (tk == 11) = false := by rcases ho with h | h | h <;> subst h <;> exact ⟨rfl, rfl, rfl⟩
            obtain ⟨u7, u9, u11⟩ := tkc
            have tko : (tk == 6) = true ∨ ((tk == 6) = false ∧ (tk == 8) = true) ∨ ((tk == 6) = false ∧ (tk == 8) = false ∧ (tk == 10) = true) := by
              rcases ho with h | h | h <;> subst h
              · exact .inl rfl
              · exact .inr (.inl ⟨rfl, rfl⟩)
              · exact .inr (.inr ⟨rfl, rfl, rfl⟩)
            have hwk : 0 ≤ tk ∧ tk ≤ 11 := by omega
            have hO := HOp.out ho
            have HO2 := Lib.hid hO
            clear hO hg3
            by_cases h32 : op.length = 32
            · have d1 : ((op.length : Int) == 32) = true := by rw [beq_iff_eq]; omega
              have hFl := pfail_any HQb.out tt 5
              rw [if_pos rfl, if_pos rfl] at hFl
              have HFl := Lib.hid hFl
              have H32 := Lib.hid h32
              clear hFl ho h32
              rcases tko with v1 | ⟨v1, v2⟩ | ⟨v1, v2, v3⟩
              all_goals
                go_wp2_with fail
                refine HFl.out.mono ?_
                rintro r w2 ⟨rfl, hp2, hf2⟩
                have n0 := (HTb.out.fr hf2 (show wr.heap.size ≠ P by omega)).c0
                have hb2 : Below P w w2 := HbB.out.trans (hf2.below (by rw [hsB]; omega) (Nat.le_refl _))
                have hown2 := own_fr HJb.out.oc hf2 (Nat.lt_succ_self P)
                have hp2l := hp2.lt
                have hTl := (HTb.out.fr hf2 (show wr.heap.size ≠ P by omega)).lt
                go_wp2_with (at_builtin; refine wpList_append_lies _ rfl _ _ _ rfl (P + 1) 3 j0 (.int .i64 0) 1 8 Tryz.underlying48 hj0 hy0 hy1 hy2 rfl (by omega) _ _ _ rfl (hown2.alloc _) ⟨w2.heap.size, 0, none⟩ 1 1 (uq (tk + 1)) rfl rfl (World.news_of_block (heap_alloc_new w2 _)) (by intro u hu; simp [uq] at hu; subst hu; rfl) (by omega) (by unfold maxLen; omega) (by omega) (by simp; omega) _ rfl ?_; intro g cap w4 hown4 hgrow hat4 hgl; have n4 := ((Kp.of_grown (X := fun q => (Value.slice Ac op.length cc).ownBlock = some q) hgrow (fun _ h => h)).cell (b := wr.heap.size) (o := 0) (by simp; omega) (fun h => by have := HVl.out _ h; omega)).trans (cell_more n0 _))
                have hvi : ∀ k, (Value.slice Ac op.length cc).ownBlock = some k → P + 1 ≤ k ∧ k < w2.heap.size := hown2.lt
                have hbel : Below (P + 1) (w2.alloc (.cells #[.int .i64 (tk + 1)] 3)) w4 := (Below.refl _ _).grown hgrow (by simp; omega) (fun k hk => (hvi k hk).1)
                have hp4 := (hp2.alloc (.cells #[.int .i64 (tk + 1)] 3)).bel (Nat.lt_succ_self P) hbel
                refine ⟨⟨Lib.hid (.inl ⟨ir + 1, tt, 5, some ⟨g, 0, none⟩, _, cap, hp4, hi, rfl, by decide, by rw [Hp.out, HO2.out, if_pos H32.out]⟩), Lib.hid ((hb2.alloc (by omega) _).trans (hbel.mono (by omega)))⟩, ?_⟩
                rw [Hmq.out]; exact HMB.out _ _ _ hp4
            · have d1 : ((op.length : Int) == 32) = false := by rw [beq_eq_false_iff_ne]; omega
              clear ho
              have hbBs := HbB.out.size
              rcases tko with v1 | ⟨v1, v2⟩ | ⟨v1, v2, v3⟩
              all_goals
                go_wp2_with (at_builtin; refine wpList_append_lies _ rfl _ _ _ rfl (P + 1) 3 j0 (.int .i64 0) 1 8 Tryz.underlying48 hj0 hy0 hy1 hy2 rfl (by omega) _ _ _ rfl (HJb.out.oc.alloc _) ⟨wr.heap.size + 1, 0, none⟩ 1 1 (uq (tk + 1)) rfl rfl (World.news_of_block (by rw [← hsB]; exact heap_alloc_new ((wr.setCell ⟨P, 1, none⟩ (.int .i64 ((ir : Int) + 1))).alloc (.cells #[.int .i64 tk, .int .i64 tt, .int .i64 tn, .string (str ts)] 42)) _)) (by intro u hu; simp [uq] at hu; subst hu; rfl) (by omega) (by unfold maxLen; omega) (by omega) (by simp; omega) _ rfl ?_; intro g cap w4 hown4 hgrow hat4 hgl; have n4 := ((Kp.of_grown (X := fun q => (Value.slice Ac op.length cc).ownBlock = some q) hgrow (fun _ h => h)).cell (b := wr.heap.size) (o := 0) (by simp; omega) (fun h => by have := HVl.out _ h; omega)).trans (cell_more m0 _))
                have hvi : ∀ k, (Value.slice Ac op.length cc).ownBlock = some k → P + 1 ≤ k ∧ k < ((wr.setCell ⟨P, 1, none⟩ (.int .i64 ((ir : Int) + 1))).alloc (.cells #[.int .i64 tk, .int .i64 tt, .int .i64 tn, .string (str ts)] 42)).heap.size := HJb.out.oc.lt
                have hbel : Below (P + 1) (((wr.setCell ⟨P, 1, none⟩ (.int .i64 ((ir : Int) + 1))).alloc (.cells #[.int .i64 tk, .int .i64 tt, .int .i64 tn, .string (str ts)] 42)).alloc (.cells #[.int .i64 (tk + 1)] 3)) w4 := (Below.refl _ _).grown hgrow (by simp; omega) (fun k hk => (hvi k hk).1)
                have hp4 := (HQb.out.alloc (.cells #[.int .i64 (tk + 1)] 3)).bel (Nat.lt_succ_self P) hbel
                have hj4 := Jr.open HJb.out ((Fr.refl _ P).alloc (.cells #[.int .i64 (tk + 1)] 3)) hgrow hat4 hown4
                refine ⟨⟨Lib.hid (.inr ⟨(tk + 1) :: op, acc, ir + 1, hp4, hj4, HJp.out _, hi, by omega, by simp only [List.length_cons]; omega, by rw [Hp.out, HO2.out, if_neg h32]⟩), Lib.hid ((HbB.out.alloc (by rw [hsB]; omega) _).trans (hbel.mono (by omega)))⟩, ?_⟩
                rw [Hmq.out]; exact HMB.out _ _ _ hp4
          · have tko : (tk == 6) = false ∧ (tk == 8) = false ∧ (tk == 10) = false := ⟨by rw [beq_eq_false_iff_ne]; exact fun h => ho (.inl h), by rw [beq_eq_false_iff_ne]; exact fun h => ho (.inr (.inl h)), by rw [beq_eq_false_iff_ne]; exact fun h => ho (.inr (.inr h))⟩
            obtain ⟨u6, u8', u10⟩ := tko
            by_cases hc : tk = 7 ∨ tk = 9 ∨ tk = 11
            · have tks : (tk == 3) = false := by rcases hc with h | h | h <;> subst h <;> rfl
              have tkc : (tk == 7) = true ∨ ((tk == 7) = false ∧ (tk == 9) = true) ∨ ((tk == 7) = false ∧ (tk == 9) = false ∧ (tk == 11) = true) := by
                rcases hc with h | h | h <;> subst h
                · exact .inl rfl
                · exact .inr (.inl ⟨rfl, rfl⟩)
                · exact .inr (.inr ⟨rfl, rfl, rfl⟩)
              have hO := HCl.out hc
              have HO2 := Lib.hid hO
              have HJc2 := Lib.hid (fun op' => HJc.out op' hc)
              clear hO hg3 hc ho
              rcases op with _ | ⟨k, op'⟩
              · simp only [List.length_nil] at *
                have hFl : ∀ m, Calls Tryz.prog 19 #[.pointer (some ⟨P, 0, none⟩), .int .i64 tt, .int .i64 3] (((wr.setCell ⟨P, 1, none⟩ (.int .i64 ((ir : Int) + 1))).alloc (.cells #[.int .i64 tk, .int .i64 tt, .int .i64 tn, .string (str ts)] 42)).drewN m) fun r w' => r = .returned (.tuple #[]) ∧ Ps w' P (some ⟨b, o, none⟩) c L (ir + 1) en tt 3 ∧ Fr (((wr.setCell ⟨P, 1, none⟩ (.int .i64 ((ir : Int) + 1))).alloc (.cells #[.int .i64 tk, .int .i64 tt, .int .i64 tn, .string (str ts)] 42)).drewN m) w' P := fun m => by
                  have := pfail_any (HQb.out.drewN m) tt 3
                  rwa [if_pos rfl, if_pos rfl] at this
                have HFl := Lib.hid hFl
                clear hFl
                rcases tkc with v1 | ⟨v1, v2⟩ | ⟨v1, v2, v3⟩
                all_goals
                  go_wp2
                  go_quiet (fail)
                  go_wp2_with fail
                  refine (HFl.out _).mono ?_
                  rintro r w2 ⟨rfl, hp2, hf2⟩
                  have hb2 : Below P w w2 := (below_drewN HbB.out _).trans (hf2.below (by show P ≤ ((wr.setCell ⟨P, 1, none⟩ (.int .i64 ((ir : Int) + 1))).alloc (.cells #[.int .i64 tk, .int .i64 tt, .int .i64 tn, .string (str ts)] 42)).heap.size; omega) (Nat.le_refl _))
                  go_wp2
                  refine ⟨⟨Lib.hid (.inl ⟨ir + 1, tt, 3, Ac, 0, cc, hp2, hi, rfl, by decide, by rw [Hp.out, HO2.out, if_neg (by simp)]⟩), Lib.hid hb2⟩, ?_⟩
                  rw [Hmq.out]; exact HMB.out _ _ _ hp2
              · obtain ⟨g, cap, hve, hgl, hgP, hgc, hkl, hrow⟩ := row_last HJb.out.oc
                simp only [List.length_cons] at *
                injection hve with e1' _ e3'
                subst e1' e3'
                have d0 : (((op'.length : Int) + 1) == 0) = false := by rw [beq_eq_false_iff_ne]; omega
                have hlo : op'.length < op'.length + 1 := Nat.lt_succ_self _
                have hlo' : ((op'.length : Int)) < (op'.length : Int) + 1 := by omega
                by_cases hkk : k = tk
                · have d1 : (k != tk) = false := by simpa using hkk
                  have HRow := Lib.hid hrow
                  have HKk := Lib.hid hkk
                  clear hrow hkk
                  rcases tkc with v1 | ⟨v1, v2⟩ | ⟨v1, v2, v3⟩
                  all_goals
                    go_wp2
                    go_quiet (fail)
                    generalize hwq : ((wr.setCell ⟨P, 1, none⟩ (.int .i64 ((ir : Int) + 1))).alloc (.cells #[.int .i64 tk, .int .i64 tt, .int .i64 tn, .string (str ts)] 42)).drewN nq = wq at *
                    have Hszq : Hid (wq.heap.size = ((wr.setCell ⟨P, 1, none⟩ (.int .i64 ((ir : Int) + 1))).alloc (.cells #[.int .i64 tk, .int .i64 tt, .int .i64 tn, .string (str ts)] 42)).heap.size) := Lib.hid (by rw [← hwq]; rfl)
                    have hgq : g < wq.heap.size := by have := Hszq.out; omega
                    have hPq : P < wq.heap.size := by have := Hszq.out; omega
                    have hrq : ∀ j u, (ivs op'.reverse)[j]? = some u → wq.cell? ((⟨g, 0, none⟩ : Addr).add j) = some u := fun j u hu => by rw [← hwq]; exact HRow.out j u hu
                    have hQq : Ps wq P (some ⟨b, o, none⟩) c L (ir + 1) en 0 0 := by rw [← hwq]; exact HQb.out.drewN _
                    have hFq : Fr ((wr.setCell ⟨P, 1, none⟩ (.int .i64 ((ir : Int) + 1))).alloc (.cells #[.int .i64 tk, .int .i64 tt, .int .i64 tn, .string (str ts)] 42)) wq P := by rw [← hwq]; exact (Fr.refl ((wr.setCell ⟨P, 1, none⟩ (.int .i64 ((ir : Int) + 1))).alloc (.cells #[.int .i64 tk, .int .i64 tt, .int .i64 tn, .string (str ts)] 42)) P).drewN _
                    have HCq : Hid (∀ j u, (ivs op'.reverse)[j]? = some u → (wq.alloc (.cells #[] 3)).cell? ((⟨g, 0, none⟩ : Addr).add j) = some u) := Lib.hid (fun j u hu => (World.cell?_alloc_lt _ _ _ (by rw [addr_add]; exact hgq)).trans (hrq j u hu))
                    have HQq := Lib.hid hQq
                    have HFq := Lib.hid hFq
                    have HWq := Lib.hid hwq
                    clear hrq hQq hFq hwq
                    go_wp2_with (at_builtin; refine app_list rfl _ _ _ rfl wq.heap.size 3 j0 Tryz.underlying48 hj0 hy0 hy1 hy2 _ [] rfl (own_empty wq _ _ (Nat.le_refl _)) ⟨g, 0, none⟩ op'.length _ op'.reverse (by simp) rfl HCq.out (by simp; omega) (by simp) ?_; intro v5 w5 hown5 hgrow5)
                    have hbel5 : Below wq.heap.size (wq.alloc (.cells #[] 3)) w5 := (Below.refl _ _).grown hgrow5 (by simp) (fun k hk => Nat.le_of_eq (Option.some.inj hk))
                    have hf5 : Fr ((wr.setCell ⟨P, 1, none⟩ (.int .i64 ((ir : Int) + 1))).alloc (.cells #[.int .i64 tk, .int .i64 tt, .int .i64 tn, .string (str ts)] 42)) w5 P := (HFq.out.alloc _).bel (Nat.le_of_eq Hszq.out.symm) hbel5
                    have hp5 := (HQq.out.alloc (.cells #[] 3)).bel hPq hbel5
                    have hown6 : w5.ownsRow ((wr.setCell ⟨P, 1, none⟩ (.int .i64 ((ir : Int) + 1))).alloc (.cells #[.int .i64 tk, .int .i64 tt, .int .i64 tn, .string (str ts)] 42)).heap.size 3 1 v5 op'.length (op'.reverse.flatMap uq) := by
                      rw [List.nil_append, List.length_reverse, ivs_flat, Hszq.out] at hown5
                      exact hown5
                    have hj5 := Jr.close HJb.out hf5 hown6 (by omega)
                    have hb5 : Below P w w5 := HbB.out.trans (hf5.below (by omega) (Nat.le_refl _))
                    refine ⟨⟨Lib.hid (.inr ⟨op', acc, ir + 1, hp5, hj5, HJc2.out op', hi, by omega, by omega, by rw [Hp.out, HO2.out, if_pos (by rw [HKk.out]; rfl)]; rfl⟩), Lib.hid hb5⟩, ?_⟩
                    rw [Hmq.out]; exact HMB.out _ _ _ hp5
                · have d1 : (k != tk) = true := by simpa using hkk
                  have hFl : ∀ m, Calls Tryz.prog 19 #[.pointer (some ⟨P, 0, none⟩), .int .i64 tt, .int .i64 3] (((wr.setCell ⟨P, 1, none⟩ (.int .i64 ((ir : Int) + 1))).alloc (.cells #[.int .i64 tk, .int .i64 tt, .int .i64 tn, .string (str ts)] 42)).drewN m) fun r w' => r = .returned (.tuple #[]) ∧ Ps w' P (some ⟨b, o, none⟩) c L (ir + 1) en tt 3 ∧ Fr (((wr.setCell ⟨P, 1, none⟩ (.int .i64 ((ir : Int) + 1))).alloc (.cells #[.int .i64 tk, .int .i64 tt, .int .i64 tn, .string (str ts)] 42)).drewN m) w' P := fun m => by
                    have := pfail_any (HQb.out.drewN m) tt 3
                    rwa [if_pos rfl, if_pos rfl] at this
                  have HFl := Lib.hid hFl
                  clear hFl hrow
                  rcases tkc with v1 | ⟨v1, v2⟩ | ⟨v1, v2, v3⟩
                  all_goals
                    go_wp2
                    go_quiet (fail)
                    go_wp2_with fail
                    refine (HFl.out _).mono ?_
                    rintro r w2 ⟨rfl, hp2, hf2⟩
                    have hb2 : Below P w w2 := (below_drewN HbB.out _).trans (hf2.below (by show P ≤ ((wr.setCell ⟨P, 1, none⟩ (.int .i64 ((ir : Int) + 1))).alloc (.cells #[.int .i64 tk, .int .i64 tt, .int .i64 tn, .string (str ts)] 42)).heap.size; omega) (Nat.le_refl _))
                    go_wp2
                    refine ⟨⟨Lib.hid (.inl ⟨ir + 1, tt, 3, _, _, _, hp2, hi, rfl, by decide, by rw [Hp.out, HO2.out, if_neg (by simpa using hkk)]⟩), Lib.hid hb2⟩, ?_⟩
                    rw [Hmq.out]; exact HMB.out _ _ _ hp2
            · have tkc : (tk == 7) = false ∧ (tk == 9) = false ∧ (tk == 11) = false := ⟨by rw [beq_eq_false_iff_ne]; exact fun h => hc (.inl h), by rw [beq_eq_false_iff_ne]; exact fun h => hc (.inr (.inl h)), by rw [beq_eq_false_iff_ne]; exact fun h => hc (.inr (.inr h))⟩
              obtain ⟨u7, u9, u11⟩ := tkc
              have hO := HSk.out hk3 ho hc
              have HJ2 := Lib.hid (HJs.out ho)
              have HFin : Hid (Pq L en P (some ⟨b, o, none⟩) c u8 (.slice Ac op.length cc) ((wr.setCell ⟨P, 1, none⟩ (.int .i64 ((ir : Int) + 1))).alloc (.cells #[.int .i64 tk, .int .i64 tt, .int .i64 tn, .string (str ts)] 42))) := Lib.hid (.inr ⟨op, acc, ir + 1, HQb.out, HJb.out, HJ2.out, hi, by omega, hop, by rw [Hp.out, hO]⟩)
              clear hO hk3 ho hc
              rcases hg3 with v3 | ⟨v3, v0⟩
              all_goals
                go_wp2
                refine ⟨⟨HFin, HbB⟩, ?_⟩
                rw [Hmq.out]; exact HMB.out _ _ _ HQb.out
      · have ti : decide (ir < L.length) = false := by simp; omega
        rw [items_end hi] at hp
        have hix := hj.ix
        by_cases ho : op = []
        · rw [if_pos ho] at hp
          obtain ⟨d, hd, ⟨Ai, ci, hvi, _⟩, _⟩ := id hix
          have hdl : d.length = acc.length := by rw [hd]; simp
          rw [hdl] at hvi
          have hfin : RetP w L en (.returned (.tuple #[.slice Ai acc.length ci, .int .i64 en, .int .i64 0])) wr := ⟨by rw [HPe.out]; exact HB.out, .inr ⟨acc, ir, Ai, ci, hp, rfl, by rw [← hvi, HPe.out]; exact hix⟩⟩
          have HFin := Lib.hid hfin
          subst hvc
          subst hvi
          clear hfin hix hp hq hj hJ HPq hd hdl
          subst ho
          simp only [List.length_nil] at *
          go_wp2
          go_ret3
          exact HFin.out
        · rw [if_neg ho] at hp
          have hol : 0 < op.length := List.length_pos_iff.2 ho
          have tn : decide (0 < op.length) = true := by simp; omega
          subst hvc
          have hFl := pfail_any hq en 2
          rw [if_pos rfl, if_pos rfl] at hFl
          have HFl := Lib.hid hFl
          have hfin : ∀ w', Below P w w' → RetP w L en (.returned (.tuple #[.slice none 0 0, .int .i64 en, .int .i64 2])) w' := fun w' hb => ⟨by rw [HPe.out]; exact hb, .inl ⟨en, 2, hp, by decide, rfl⟩⟩
          have HFin := Lib.hid hfin
          clear hFl hfin hp hq hj hJ HPq ho hix
          go_wp2_with fail
          refine HFl.out.mono ?_
          rintro r w2 ⟨rfl, hq2, hf2⟩
          have d3 := hq2.c3
          have d4 := hq2.c4
          have hb2 : Below P w w2 := HB.out.trans (hf2.below (Nat.le_of_lt hlt) (Nat.le_refl _))
          clear HFl hf2
          go_wp2
          go_quiet (fail)
          go_wp2
          go_ret3
          exact HFin.out _ (below_drewN hb2 _)
end
end Go.Proofs.YthcnjiigkmljnaaGreatDoor
