/-
  syn.Parse: what any tokens come to, put together.
-/
import Derived.Test.YthcnjiigkmljnaaGreatDoorSynStep
namespace Go.Proofs.YthcnjiigkmljnaaGreatDoor
open Go.RowKit

/-- Three results: items, a place, an error. -/
def RetP (w : World) (L : List Tk) (en : Int) (r : Ending) (w' : World) : Prop :=
  Below w.heap.size w w' ∧ ((∃ a e', parseT L en = .no a e' ∧ e' ≠ 0 ∧ r = .returned (.tuple #[.slice none 0 0, .int .i64 a, .int .i64 e'])) ∨
    (∃ x j A' c', parseT L en = .ok x j ∧ r = .returned (.tuple #[.slice A' x.length c', .int .i64 en, .int .i64 0]) ∧ Ix w' (fun b => b < w.heap.size) (.slice A' x.length c') x))
theorem Js.ix {w : World} {P : Nat} {vc vi : Value} {op : List Int} {acc : List Im} (h : Js w P vc vi op acc) : Ix w (fun b => b < P) vi acc := by
  obtain ⟨d, e, ho, hn⟩ := h.oi
  exact ⟨d, e, (Rw.of_own iq_len (by decide) ho (fun b hb _ => by have := (ho.lt b hb).1; show ¬ b < P; omega)).2, fun p hp => (hn p hp).to (Kp.refl _ _) (fun b _ hb => .inl (by show b < P + 1; have : b < P := hb; omega))⟩
section
variable {w : World} {A : Option Addr} {c : Nat} {L : List Tk} {en : Int}
/-- Where the loop of Parse is. -/
def Pr (L : List Tk) (en : Int) (P : Nat) (A : Option Addr) (c : Nat) (wr : World) : Prop :=
  (∃ ir ar er A' n' c' vi, Qs wr P A c L ir en (.slice A' n' c') vi ar er ∧ er ≠ 0 ∧ parseT L en = .no ar er) ∨
  (∃ op acc ir vc vi, Qs wr P A c L ir en vc vi 0 0 ∧ Js wr P vc vi op acc ∧ Jv L op ir ∧ ir ≤ L.length ∧ acc.length ≤ ir ∧ op.length ≤ 32 ∧ parseT L en = itemsT L en op acc ir)
set_option maxRecDepth 100000 in
set_option maxHeartbeats 2000000 in
theorem Parse_any (w : World) (hst : St w w.heap.size A L) (hs : Sec w) (hJ : Jv L [] 0) :
    Calls Tryz.prog 7 #[.slice A L.length c, .int .i64 en] w fun r w' => RetP w L en r w' := by
  have hgP := hs.pos
  have hq0 : Qs (w.alloc (.cells #[.slice A L.length c, .int .i64 en, .int .i64 0, .slice none 0 0, .slice none 0 0, .int .i64 0, .int .i64 0] 53)) w.heap.size A c L 0 en (.slice none 0 0) (.slice none 0 0) 0 0 :=
    ⟨by simp, by simp, by simp, by simp, by simp, by simp, by simp, by simp, by simp, by simp, by simp, by simp, by simp, hst.keep fun p hp => World.cell?_alloc_lt w _ p hp⟩
  have hj0 : Js (w.alloc (.cells #[.slice A L.length c, .int .i64 en, .int .i64 0, .slice none 0 0, .slice none 0 0, .int .i64 0, .int .i64 0] 53)) w.heap.size (.slice none 0 0) (.slice none 0 0) [] [] :=
    ⟨World.ownsRow_nil _ _ _ _, [], rfl, World.ownsRow_nil _ _ _ _, fun _ h => by cases h⟩
  have H0 : Hid (Pr L en w.heap.size A c (w.alloc (.cells #[.slice A L.length c, .int .i64 en, .int .i64 0, .slice none 0 0, .slice none 0 0, .int .i64 0, .int .i64 0] 53))) := Lib.hid (.inr ⟨[], [], 0, _, _, hq0, hj0, hJ, Nat.zero_le _, Nat.le_refl _, by decide, rfl⟩)
  have hL1 := hJ.len
  have HS := Lib.hid hs
  have hb0 : Below w.heap.size w (w.alloc (.cells #[.slice A L.length c, .int .i64 en, .int .i64 0, .slice none 0 0, .slice none 0 0, .int .i64 0, .int .i64 0] 53)) := (Below.refl _ _).alloc (Nat.le_refl _) _
  have HB0 := Lib.hid hb0
  clear hq0 hj0 hs hst hJ hb0
  go_enter Tryz.func7, Tryz.ntmps7
  go_wp2
  go_loopw [] (fun wr => Hid (Pr L en w.heap.size A c wr) ∧ Hid (Below w.heap.size w wr)) (fun wr => mQ wr w.heap.size L.length)
  case atStart => exact ⟨H0, HB0⟩
  case round =>
    obtain ⟨HP, HB⟩ := hrel
    rcases HP.out with ⟨ir, ar, er, A', n', c', vi, hq, he, hp⟩ | ⟨op, acc, ir, vc, vi, hq, hj, hJ, hir, hal, hop, hp⟩
    · have c6 := hq.c6
      have c3 := hq.c3
      have te : (er == 0) = false := by rw [beq_eq_false_iff_ne]; exact he
      have te2 : (er != 0) = true := by rw [bne_iff_ne]; exact he
      have HQ := Lib.hid hq
      have hfin : ∀ w', Below w.heap.size w w' → RetP w L en (.returned (.tuple #[.slice none 0 0, .int .i64 ar, .int .i64 er])) w' := fun w' hb => ⟨hb, .inl ⟨ar, er, hp, he, rfl⟩⟩
      have HFin := Lib.hid hfin
      by_cases hn : 0 < n'
      · have tn : decide ((0 : Int) < (n' : Int)) = true := by simp; omega
        have hFl := qfail_any hq en 2
        rw [if_neg he, if_neg he] at hFl
        have HFl := Lib.hid hFl
        clear hFl hq hp he HP hfin
        go_wp2_with fail
        refine HFl.out.mono ?_
        rintro r w2 ⟨rfl, hq2, hf2⟩
        have d5 := hq2.c5
        have d6 := hq2.c6
        have hb2 : Below w.heap.size w w2 := HB.out.trans (hf2.below HB.out.size (Nat.le_refl _))
        clear HFl hf2
        go_wp2
        go_quiet (fail)
        go_wp2
        go_ret3
        exact HFin.out _ (below_drewN hb2 _)
      · have tn : decide ((0 : Int) < (n' : Int)) = false := by simp; omega
        have d5 := hq.c5
        clear hq hp he HP hfin
        go_wp2
        go_quiet (fail)
        go_wp2
        go_ret3
        exact HFin.out _ (below_drewN HB.out _)
    · have c6 := hq.c6
      have c2 := hq.c2
      have c3 := hq.c3
      have c4 := hq.c4
      have c5 := hq.c5
      by_cases hi : ir < L.length
      · have ti : decide (ir < L.length) = true := by simp; omega
        have ti' : decide ((ir : Int) < (L.length : Int)) = true := by simp; omega
        have hS := qstep_any hq hj (HS.out.below' HB.out) hgP hi hJ hop hal
        have HSt := Lib.hid hS
        have HQ := Lib.hid hq
        have HPt := Lib.hid hp
        clear hS hq hj hJ hp HP
        go_wp2_with fail
        refine HSt.out.mono ?_
        rintro r w2 ⟨rfl, hb2, h3⟩
        have hb3 : Below w.heap.size w w2 := HB.out.trans (hb2.mono (Nat.le_refl _))
        clear HSt
        go_wp2
        refine ⟨⟨Lib.hid ?_, Lib.hid hb3⟩, ?_⟩
        · rcases h3 with ⟨a', e', i', A', n', c', vi', q1, q2, q3⟩ | ⟨op', acc', i', vc', vi', q1, q2, q3, q4, q5, q6, q7, q8⟩
          · exact .inl ⟨i', a', e', A', n', c', vi', q3, q2, HPt.out.trans q1⟩
          · exact .inr ⟨op', acc', i', vc', vi', q7, q8, q6, q3, q4, q5, HPt.out.trans q1⟩
        · rcases h3 with ⟨a', e', i', A', n', c', vi', q1, q2, q3⟩ | ⟨op', acc', i', vc', vi', q1, q2, q3, q4, q5, q6, q7, q8⟩
          · rw [q3.mq, HQ.out.mq, if_pos rfl, if_neg q2]; omega
          · rw [q7.mq, HQ.out.mq, if_pos rfl, if_pos rfl]; omega
      · have ti : decide (ir < L.length) = false := by simp; omega
        have ti' : decide ((ir : Int) < (L.length : Int)) = false := by simp; omega
        rw [items_end hi] at hp
        obtain ⟨Ac, cc, hvc, _⟩ := row_shape hj.oc
        by_cases ho : op = []
        · rw [if_pos ho] at hp
          have hix := hj.ix
          obtain ⟨d, hd, ⟨Ai, ci, hvi, _⟩, _⟩ := id hix
          have hdl : d.length = acc.length := by rw [hd]; simp
          rw [hdl] at hvi
          have hfin : RetP w L en (.returned (.tuple #[.slice Ai acc.length ci, .int .i64 en, .int .i64 0])) wr := ⟨HB.out, .inr ⟨acc, ir, Ai, ci, hp, rfl, by rw [← hvi]; exact hix⟩⟩
          have HFin := Lib.hid hfin
          subst hvc
          subst hvi
          clear hfin hix hp hq hj hJ HP hd hdl
          subst ho
          simp only [List.length_nil] at *
          go_wp2
          go_ret3
          exact HFin.out
        · rw [if_neg ho] at hp
          have hol : 0 < op.length := List.length_pos_iff.2 ho
          have tn : decide ((0 : Int) < (op.length : Int)) = true := by simp; omega
          subst hvc
          have hFl := qfail_ok hq en 2
          have HFl := Lib.hid hFl
          have hfin : ∀ w', Below w.heap.size w w' → RetP w L en (.returned (.tuple #[.slice none 0 0, .int .i64 en, .int .i64 2])) w' := fun w' hb => ⟨hb, .inl ⟨en, 2, hp, by decide, rfl⟩⟩
          have HFin := Lib.hid hfin
          clear hFl hfin hp hq hj hJ HP ho
          go_wp2_with fail
          refine HFl.out.mono ?_
          rintro r w2 ⟨rfl, hq2, hf2⟩
          have d5 := hq2.c5
          have d6 := hq2.c6
          have hb2 : Below w.heap.size w w2 := HB.out.trans (hf2.below HB.out.size (Nat.le_refl _))
          clear HFl hf2
          go_wp2
          go_quiet (fail)
          go_wp2
          go_ret3
          exact HFin.out _ (below_drewN hb2 _)
end
end Go.Proofs.YthcnjiigkmljnaaGreatDoor
