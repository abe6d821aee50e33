/-
  The program's parser: step.
-/
import Derived.Test.YthcnjiigkmljnaaGreatDoorSynItem0
import Derived.Test.YthcnjiigkmljnaaGreatDoorSynWord
namespace Go.Proofs.YthcnjiigkmljnaaGreatDoor
open Go.RowKit

/-- What a step leaves: an error, or the items from a later token on. -/
def Pp (w : World) (P : Nat) (A : Option Addr) (c : Nat) (L : List Tk) (en a : Int) (op : List Int) (acc : List Im) (i : Nat) (r : Ending) (w' : World) : Prop :=
  r = .returned (.tuple #[]) ∧ Below P w w' ∧ ((∃ a' e' i' A' n' c' vi', itemsT L en op acc i = .no a' e' ∧ e' ≠ 0 ∧ Qs w' P A c L i' en (.slice A' n' c') vi' a' e') ∨
    (∃ op' acc' i' vc' vi', itemsT L en op acc i = itemsT L en op' acc' i' ∧ i < i' ∧ i' ≤ L.length ∧ acc'.length ≤ i' ∧ op'.length ≤ 32 ∧ Jv L op' i' ∧ Qs w' P A c L i' en vc' vi' a 0 ∧ Js w' P vc' vi' op' acc'))
section
variable {w w1 : World} {P : Nat} {A : Option Addr} {c : Nat} {L : List Tk} {i : Nat} {en a e : Int} {vc vi : Value} {acc : List Im} {op : List Int}
theorem Pp.of_wp {r : Ending} {w' : World} (hb : Below P w w1) (hi : i < L.length) (hk : (tg L i).kind = 3) (hJ : Jv L [] i) (hal : acc.length ≤ i) (hv : ∃ A' n' c', vc = .slice A' n' c') (h : Wp w1 P A c L en vc a acc (wordT L en i) r w') : Pp w P A c L en a [] acc i r w' := by
  obtain ⟨h1, h2, h3⟩ := h
  obtain ⟨A', n', c', hv⟩ := hv
  subst hv
  refine ⟨h1, hb.trans h2, ?_⟩
  rcases h3 with ⟨a', e', i', vi', q1, q2, q3⟩ | ⟨x, j, vi', q1, q2, q3, q4⟩
  · exact .inl ⟨a', e', i', A', n', c', vi', by rw [items_word hi hk, q1, then_no], q2, q3⟩
  · obtain ⟨k1, k2⟩ := word_ok q1
    exact .inr ⟨[], acc ++ x, j, _, vi', by rw [items_word hi hk, q1, then_ok], k1, q2, by rw [List.length_append]; omega, by simp, hJ.word hi hk j, q3, q4⟩
theorem Pp.of_open {r : Ending} {w' : World} (hb : Below P w w1) (hi : i < L.length) (hk : (tg L i).kind = 6 ∨ (tg L i).kind = 8 ∨ (tg L i).kind = 10) (hJ : Jv L op i) (hop : op.length ≤ 32) (hal : acc.length ≤ i) (h : Cp w1 P A c L (i + 1) en vi a acc (op.length == 32) (tg L i).at_ 5 (((tg L i).kind + 1) :: op) r w') : Pp w P A c L en a op acc i r w' := by
  obtain ⟨h1, h2, h3⟩ := h
  refine ⟨h1, hb.trans h2, ?_⟩
  by_cases hl : op.length = 32
  · rw [if_pos (by simp [hl])] at h3
    obtain ⟨A', n', c', q⟩ := h3
    exact .inl ⟨_, 5, i + 1, A', n', c', vi, by rw [items_open hi hk, if_pos hl], by decide, q⟩
  · rw [if_neg (by simp [hl])] at h3
    obtain ⟨vc', q1, q2⟩ := h3
    exact .inr ⟨_, acc, i + 1, vc', vi, by rw [items_open hi hk, if_neg hl], by omega, by omega, by omega, by simp; omega, hJ.push _, q1, q2⟩
theorem Pp.of_close {r : Ending} {w' : World} (hb : Below P w w1) (hi : i < L.length) (hk : (tg L i).kind = 7 ∨ (tg L i).kind = 9 ∨ (tg L i).kind = 11) (hJ : Jv L op i) (hop : op.length ≤ 32) (hal : acc.length ≤ i) (h : Cp w1 P A c L (i + 1) en vi a acc (!(op.head? == some (tg L i).kind)) (tg L i).at_ 3 op.tail r w') : Pp w P A c L en a op acc i r w' := by
  obtain ⟨h1, h2, h3⟩ := h
  refine ⟨h1, hb.trans h2, ?_⟩
  by_cases hl : op.head? = some (tg L i).kind
  · rw [if_neg (by simp [hl])] at h3
    obtain ⟨vc', q1, q2⟩ := h3
    exact .inr ⟨_, acc, i + 1, vc', vi, by rw [items_close hi hk, if_pos hl], by omega, by omega, by omega, by simp; omega, hJ.pop hi hk, q1, q2⟩
  · rw [if_pos (by simp [hl])] at h3
    obtain ⟨A', n', c', q⟩ := h3
    exact .inl ⟨_, 3, i + 1, A', n', c', vi, by rw [items_close hi hk, if_neg hl], by decide, q⟩
set_option maxRecDepth 100000 in
set_option maxHeartbeats 2000000 in
theorem qstep_any (h : Qs w P A c L i en vc vi a 0) (hj : Js w P vc vi op acc) (hs : Sec w) (hgP : 0 < P) (hi : i < L.length) (hJ : Jv L op i) (hop : op.length ≤ 32) (hal : acc.length ≤ i) :
    Calls Tryz.prog 16 #[.pointer (some ⟨P, 0, none⟩)] w (Pp w P A c L en a op acc i) := by
  have hlt := h.lt
  have hL1 := hJ.len
  have c0 := h.c0
  have c2 := h.c2
  have z2 := h.z2
  obtain ⟨b, o, hAe, hbP, hcl⟩ := h.tl (by omega)
  obtain ⟨g0, g1, g2, g3⟩ := hcl i hi
  have hbw : b < w.heap.size := by omega
  have hPw : P ≠ w.heap.size := by omega
  have hbP' : b ≠ P := by omega
  have hPb' : P ≠ b := by omega
  have hshape : ∃ A' n' c', vc = .slice A' n' c' := by obtain ⟨A', c', h, _⟩ := row_shape hj.oc; exact ⟨A', _, c', h⟩
  obtain ⟨Ac, cc, hvc, _⟩ := row_shape hj.oc
  have c3 := h.c3
  have ht : ∃ t, t = tg L i := ⟨_, rfl⟩
  obtain ⟨⟨tk, tt, tn, ts⟩, ht⟩ := ht
  rw [← ht] at g0 g1 g2 g3
  simp only at g0 g1 g2 g3
  subst hvc
  subst hAe
  have hq1 : Qs (((w.setCell ⟨P, 2, none⟩ (.int .i64 ((i : Int) + 1))).alloc (.cells #[.int .i64 tk, .int .i64 tt, .int .i64 tn, .string (str ts)] 42)).drew) P (some ⟨b, o, none⟩) c L (i + 1) en (.slice Ac op.length cc) vi a 0 := ((h.next (i + 1)).alloc (.cells #[.int .i64 tk, .int .i64 tt, .int .i64 tn, .string (str ts)] 42)).drew
  have hf1 : Fr w (((w.setCell ⟨P, 2, none⟩ (.int .i64 ((i : Int) + 1))).alloc (.cells #[.int .i64 tk, .int .i64 tt, .int .i64 tn, .string (str ts)] 42)).drew) P := (((Fr.refl w P).set 2 _).alloc _).drew
  have hj1 : Js (((w.setCell ⟨P, 2, none⟩ (.int .i64 ((i : Int) + 1))).alloc (.cells #[.int .i64 tk, .int .i64 tt, .int .i64 tn, .string (str ts)] 42)).drew) P (.slice Ac op.length cc) vi op acc := hj.fr hf1
  have hs1 : Sec (((w.setCell ⟨P, 2, none⟩ (.int .i64 ((i : Int) + 1))).alloc (.cells #[.int .i64 tk, .int .i64 tt, .int .i64 tn, .string (str ts)] 42)).drew) := hs.fr hf1 hgP
  have hb1 : Below P w (((w.setCell ⟨P, 2, none⟩ (.int .i64 ((i : Int) + 1))).alloc (.cells #[.int .i64 tk, .int .i64 tt, .int .i64 tn, .string (str ts)] 42)).drew) := hf1.below (Nat.le_of_lt hlt) (Nat.le_refl _)
  have HQ := Lib.hid hq1
  have HJ1 := Lib.hid hj1
  have HS := Lib.hid hs1
  have HB := Lib.hid hb1
  have HT := Lib.hid ht
  have HJv := Lib.hid hJ
  have HSh := Lib.hid hshape
  clear hq1 hf1 hj1 hs1 hb1 ht hJ hs hj h hcl hshape
  have nP1 : P ≠ w.heap.size + 1 := by omega
  have hkk : (tg L i).kind = tk := by rw [← HT.out]
  have HK := Lib.hid hkk
  clear hkk
  by_cases h6 : tk = 6 ∨ tk = 8 ∨ tk = 10
  · have hC := qdeeper_any HQ.out HJ1.out hop ⟨tk, tt, tn, ts⟩ (tk + 1)
    unfold tv at hC
    simp only at hC
    have hpp : ∀ (r : Ending) (w' : World), Cp (((w.setCell ⟨P, 2, none⟩ (.int .i64 ((i : Int) + 1))).alloc (.cells #[.int .i64 tk, .int .i64 tt, .int .i64 tn, .string (str ts)] 42)).drew) P (some ⟨b, o, none⟩) c L (i + 1) en vi a acc (op.length == 32) tt 5 ((tk + 1) :: op) r w' → Pp w P (some ⟨b, o, none⟩) c L en a op acc i r w' := fun r w' hc => Pp.of_open HB.out hi (by rw [HK.out]; exact h6) HJv.out hop hal (by rw [← HT.out]; exact hc)
    have HC := Lib.hid hC
    have HPP := Lib.hid hpp
    clear hC hpp
    rcases h6 with rfl | rfl | rfl
    all_goals
      go_enter Tryz.func16, Tryz.ntmps16
      go_wp2
      go_region
      go_wp2_with fail
      refine HC.out.mono ?_
      rintro r w3 hw3
      have hz := HPP.out r w3 hw3
      obtain ⟨rfl, _⟩ := id hz
      have HFin := Lib.hid hz
      clear hz hw3
      go_wp2_with (with_reducible exact end0 Tryz.results16 rfl HFin.out)
  · by_cases h7 : tk = 7 ∨ tk = 9 ∨ tk = 11
    · have hC := qshallower_any HQ.out HJ1.out hop ⟨tk, tt, tn, ts⟩
      unfold tv at hC
      simp only at hC
      have hpp : ∀ (r : Ending) (w' : World), Cp (((w.setCell ⟨P, 2, none⟩ (.int .i64 ((i : Int) + 1))).alloc (.cells #[.int .i64 tk, .int .i64 tt, .int .i64 tn, .string (str ts)] 42)).drew) P (some ⟨b, o, none⟩) c L (i + 1) en vi a acc (!(op.head? == some tk)) tt 3 op.tail r w' → Pp w P (some ⟨b, o, none⟩) c L en a op acc i r w' := fun r w' hc => Pp.of_close HB.out hi (by rw [HK.out]; exact h7) HJv.out hop hal (by rw [← HT.out]; exact hc)
      have HC := Lib.hid hC
      have HPP := Lib.hid hpp
      clear hC hpp h6
      rcases h7 with rfl | rfl | rfl
      all_goals
        go_enter Tryz.func16, Tryz.ntmps16
        go_wp2
        go_region
        go_wp2_with fail
        refine HC.out.mono ?_
        rintro r w3 hw3
        have hz := HPP.out r w3 hw3
        obtain ⟨rfl, _⟩ := id hz
        have HFin := Lib.hid hz
        clear hz hw3
        go_wp2_with (with_reducible exact end0 Tryz.results16 rfl HFin.out)
    · by_cases h3 : tk = 3 ∧ op = []
      · obtain ⟨h3, hop0⟩ := h3
        subst h3
        subst hop0
        simp only [List.length_nil] at *
        have hC := qword_any (i := i) HQ.out HJ1.out HS.out hgP hi hL1 (HJv.out.sm hi HK.out) (by omega)
        rw [← HT.out] at hC
        unfold tv at hC
        simp only at hC
        have hpp : ∀ (r : Ending) (w' : World), Wp (((w.setCell ⟨P, 2, none⟩ (.int .i64 ((i : Int) + 1))).alloc (.cells #[.int .i64 3, .int .i64 tt, .int .i64 tn, .string (str ts)] 42)).drew) P (some ⟨b, o, none⟩) c L en (.slice Ac 0 cc) a acc (wordT L en i) r w' → Pp w P (some ⟨b, o, none⟩) c L en a [] acc i r w' := fun r w' hc => Pp.of_wp HB.out hi HK.out HJv.out hal ⟨_, _, _, rfl⟩ hc
        have HC := Lib.hid hC
        have HPP := Lib.hid hpp
        clear hC hpp h6 h7
        go_enter Tryz.func16, Tryz.ntmps16
        go_wp2
        go_region
        go_wp2_with fail
        refine HC.out.mono ?_
        rintro r w3 hw3
        have hz := HPP.out r w3 hw3
        obtain ⟨rfl, _⟩ := id hz
        have HFin := Lib.hid hz
        clear hz hw3
        go_wp2_with (with_reducible exact end0 Tryz.results16 rfl HFin.out)
      · have hfin : Pp w P (some ⟨b, o, none⟩) c L en a op acc i (.returned (.tuple #[])) (((w.setCell ⟨P, 2, none⟩ (.int .i64 ((i : Int) + 1))).alloc (.cells #[.int .i64 tk, .int .i64 tt, .int .i64 tn, .string (str ts)] 42)).drew) := ⟨rfl, HB.out, .inr ⟨op, acc, i + 1, _, vi, items_skip hi (by rw [HK.out]; exact h3) (by rw [HK.out]; exact h6) (by rw [HK.out]; exact h7), by omega, by omega, by omega, hop, HJv.out.skip hi (by rw [HK.out]; exact h6), HQ.out, HJ1.out⟩⟩
        have HFin := Lib.hid hfin
        clear hfin
        have b6 : (tk == 6) = false := by rw [beq_eq_false_iff_ne]; omega
        have b8 : (tk == 8) = false := by rw [beq_eq_false_iff_ne]; omega
        have b10 : (tk == 10) = false := by rw [beq_eq_false_iff_ne]; omega
        have b7 : (tk == 7) = false := by rw [beq_eq_false_iff_ne]; omega
        have b9 : (tk == 9) = false := by rw [beq_eq_false_iff_ne]; omega
        have b11 : (tk == 11) = false := by rw [beq_eq_false_iff_ne]; omega
        have hcs : (tk == 3) = false ∨ ((tk == 3) = true ∧ ((op.length : Int) == 0) = false) := by
          by_cases hk3 : tk = 3
          · right
            refine ⟨by simp [hk3], ?_⟩
            rw [beq_eq_false_iff_ne]
            intro hl
            exact h3 ⟨hk3, List.eq_nil_of_length_eq_zero (by omega)⟩
          · left; simp [hk3]
        clear h6 h7 h3
        rcases hcs with b3 | ⟨b3, bl⟩
        all_goals
          go_enter Tryz.func16, Tryz.ntmps16
          go_wp2
          go_region
          go_wp2_with (with_reducible exact end0 Tryz.results16 rfl HFin.out)
end
end Go.Proofs.YthcnjiigkmljnaaGreatDoor
