/-
  The document's own Int.
-/
import Derived.Test.YtpobiaibkmmjpaaDoorLexInt
namespace Go.Proofs.YtpobiaibkmmjpaaDoor
open Go.RowKit

theorem bd_drop (l : List UInt8) : ∃ i : Nat, i ≤ 1 ∧ i ≤ l.length ∧ bd l = l.drop i ∧ ((i = 1 ∧ 0 < l.length ∧ ((l[0]?.getD 0) = 43 ∨ (l[0]?.getD 0) = 45)) ∨ (i = 0 ∧ (0 < l.length → (l[0]?.getD 0) ≠ 43 ∧ (l[0]?.getD 0) ≠ 45))) := by
  cases l with
  | nil => exact ⟨0, by omega, by simp, rfl, .inr ⟨rfl, fun h => by simp at h⟩⟩
  | cons b t =>
    by_cases h : b = 45 ∨ b = 43
    · refine ⟨1, by omega, by simp, ?_, .inl ⟨rfl, by simp, ?_⟩⟩
      · rcases h with rfl | rfl <;> simp [bd]
      · rcases h with rfl | rfl <;> simp
    · have h1 : b ≠ 45 := fun e => h (.inl e)
      have h2 : b ≠ 43 := fun e => h (.inr e)
      exact ⟨0, by omega, by simp, by simp [bd, h1, h2], .inr ⟨rfl, fun _ => ⟨by simpa using h2, by simpa using h1⟩⟩⟩
theorem ng_at {l : List UInt8} (h : 0 < l.length) : ng l = ((l[0]?.getD 0) == 45) := by
  cases l with
  | nil => simp at h
  | cons b t => rfl
theorem byte_eq (x y : UInt8) : ((x.toNat : Int) == (y.toNat : Int)) = (x == y) := by
  cases h : x == y with
  | true => rw [beq_iff_eq] at h; subst h; simp
  | false => rw [beq_eq_false_iff_ne] at h ⊢; intro e; exact h (eq_of_toNat (by omega))
theorem inR_min {v : Nat} {s : Int} (hs : s = 1 ∨ s = -1) : inR (s * (min v 1099511627776 : Nat)) = inR (s * (v : Int)) ∧ (inR (s * (v : Int)) = true → s * (min v 1099511627776 : Nat) = s * (v : Int)) := by
  rcases Nat.lt_or_ge 1099511627776 v with h | h
  · have e : min v 1099511627776 = 1099511627776 := by omega
    rw [e]
    have h1 : inR (s * ((1099511627776 : Nat) : Int)) = false := by rw [inR_false]; rcases hs with rfl | rfl <;> omega
    have h2 : inR (s * (v : Int)) = false := by rw [inR_false]; rcases hs with rfl | rfl <;> omega
    exact ⟨by rw [h1, h2], fun h => by rw [h2] at h; cases h⟩
  · have e : min v 1099511627776 = v := by omega
    rw [e]
    exact ⟨rfl, fun _ => rfl⟩

set_option maxHeartbeats 2000000 in
theorem rInt_any (l : List UInt8) (w : World) (hl : l.length ≤ 4294967296) :
    Calls Tryd.prog 14 #[.string (str l)] w fun e w' => e = .returned (.tuple #[.int .i64 (inN l), .int .i64 (inE l)]) ∧ w = w' := by
  obtain ⟨i, hi1, hil, hbd, hcase⟩ := bd_drop l
  have hform : okD (bd l) = false → inN l = 0 ∧ inE l = 3 := in_form
  have hbig : okD (bd l) = true → inR (sgn l * (val (bd l) : Int)) = false → inN l = 0 ∧ inE l = 4 := in_big
  have hok : okD (bd l) = true → inR (sgn l * (val (bd l) : Int)) = true → inN l = sgn l * (val (bd l) : Int) ∧ inE l = 0 := in_ok
  have hsg := sgn_cases l
  have hng : 0 < l.length → sgn l = if (l[0]?.getD 0) == 45 then -1 else 1 := fun h => by unfold sgn; rw [ng_at h]
  obtain ⟨z, hz⟩ : ∃ z, z = l[0]?.getD 0 := ⟨_, rfl⟩
  rw [← hz] at hcase hng
  have g0 : ∀ h, (str l)[0]'h = z := fun h => (get_str l 0 h).trans hz.symm
  have hz1 := z.toNat_lt
  generalize inN l = rN at *
  generalize inE l = rE at *
  generalize sgn l = sg at *
  obtain ⟨d, hd⟩ : ∃ d, d = bd l := ⟨_, rfl⟩
  rw [← hd] at hform hbig hok hbd
  have hdl : i + d.length = l.length := by rw [hbd, List.length_drop]; omega
  have hget : ∀ j, d[j]?.getD 0 = l[i + j]?.getD 0 := fun j => by rw [hbd, List.getElem?_drop]
  have HF := Lib.hid hform
  have HG := Lib.hid hbig
  have HO := Lib.hid hok
  have HS := Lib.hid hsg
  have HN := Lib.hid hng
  have HGE := Lib.hid hget
  clear hform hbig hok hsg hd hng hget hz hbd
  have hsign : (i = 1 ∧ decide ((0 : Int) < (l.length : Int)) = true ∧ ((((z.toNat : Int) == 43) = true ∧ ((z.toNat : Int) == 45) = false) ∨ (((z.toNat : Int) == 43) = false ∧ ((z.toNat : Int) == 45) = true))) ∨ (i = 0 ∧ (decide ((0 : Int) < (l.length : Int)) = false ∨ (decide ((0 : Int) < (l.length : Int)) = true ∧ ((z.toNat : Int) == 43) = false ∧ ((z.toNat : Int) == 45) = false))) := by
    have e43 : ((z.toNat : Int) == 43) = (z == 43) := byte_eq z 43
    have e45 : ((z.toNat : Int) == 45) = (z == 45) := byte_eq z 45
    rw [e43, e45]
    rcases hcase with ⟨h1, h2, h3⟩ | ⟨h1, h2⟩
    · refine .inl ⟨h1, by simp; omega, ?_⟩
      rcases h3 with rfl | rfl
      · exact .inl (by decide)
      · exact .inr (by decide)
    · refine .inr ⟨h1, ?_⟩
      by_cases h : 0 < l.length
      · exact .inr ⟨by simp; omega, by simpa using (h2 h).1, by simpa using (h2 h).2⟩
      · exact .inl (decide_eq_false (by omega))
  clear hcase
  rcases hsign with ⟨rfl, hs⟩ | ⟨rfl, hs⟩
  · have hdl1 : 1 + d.length = l.length := hdl
    have HDL := Lib.hid hdl1
    clear hdl hdl1 hil hi1
    by_cases hne : d = []
    · have e := HF.out (by rw [hne]; rfl)
      have t9 : ((1 : Int) == (l.length : Int)) = true := by have := HDL.out; rw [hne] at this; simp at this; simp; omega
      rw [e.1, e.2]
      clear e hne
      rcases hs with ⟨t1, ⟨t2, t3⟩ | ⟨t2, t3⟩⟩
      all_goals
        go_enter Tryd.func14, Tryd.ntmps14
        go_wp2
        all_goals
          go_ret2
          exact ⟨rfl, rfl⟩
    · have hd0 : 0 < d.length := List.length_pos_iff.2 hne
      have t9 : ((1 : Int) == (l.length : Int)) = false := by have := HDL.out; rw [beq_eq_false_iff_ne]; omega
      have h0l : (0 : Int) < (l.length : Int) := by have := HDL.out; omega
      have HNE := Lib.hid hne
      have hsg2 := HN.out (by omega)
      have HSG := Lib.hid hsg2
      have e45 : ((z.toNat : Int) == 45) = (z == 45) := byte_eq z 45
      have HE45 := Lib.hid e45
      clear hne hsg2 e45
      rcases hs with ⟨t1, ⟨t2, t3⟩ | ⟨t2, t3⟩⟩
      all_goals
        go_enter Tryd.func14, Tryd.ntmps14
        go_wp2
        go_loop [5, 6] (fun v k => ∃ (j V : Nat), j ≤ d.length ∧ k = .int .i64 ((j : Int) + 1) ∧ v = .int .i64 (V : Int) ∧ V ≤ 1099511627776 ∧ Hid (V = min (val (d.take j)) 1099511627776) ∧ Hid ((d.take j).all dg = true)) (fun _ k => l.length - (intOf k).toNat)
        case atStart => exact ⟨0, 0, Nat.zero_le _, rfl, rfl, by omega, Lib.hid (by simp [val, valF]), Lib.hid (by rfl)⟩
        case round =>
          obtain ⟨j, V, hj, rfl, rfl, hV, HV, HA⟩ := hrel
          by_cases hlt : j < d.length
          · have hjl : (j : Int) + 1 < (l.length : Int) := by have := HDL.out; omega
            have hj0 : (0 : Int) ≤ (j : Int) + 1 := by omega
            have hjn : ((j : Int) + 1).toNat = j + 1 := by omega
            obtain ⟨x, hx⟩ : ∃ x, x = d[j]?.getD 0 := ⟨_, rfl⟩
            have hgs : ∀ h, (str l)[j + 1]'h = x := fun h => (get_str l (j + 1) h).trans (by rw [hx, HGE.out j, Nat.add_comm])
            have hx1 := x.toNat_lt
            cases hg : dg x with
            | false =>
              have e := HF.out (all_bad hlt hx hg)
              have E := Lib.hid e
              have hx48 : decide ((x.toNat : Int) < 48) = true ∨ (decide ((x.toNat : Int) < 48) = false ∧ decide ((57 : Int) < (x.toNat : Int)) = true) := by
                have : ¬ (48 ≤ x.toNat ∧ x.toNat ≤ 57) := fun h => by rw [dg_iff.2 h] at hg; cases hg
                simp; omega
              clear hx e
              rcases hx48 with q2 | ⟨q2, q3⟩
              · go_wp2
                go_ret2
                rw [E.out.1, E.out.2]
                exact ⟨rfl, rfl⟩
              · go_wp2
                go_ret2
                rw [E.out.1, E.out.2]
                exact ⟨rfl, rfl⟩
            | true =>
              have hd1 := (dg_iff.1 hg).1
              have hd2 := (dg_iff.1 hg).2
              have q2 : decide ((x.toNat : Int) < 48) = false := by simp; omega
              have q3 : decide ((57 : Int) < (x.toNat : Int)) = false := by simp; omega
              have hat := all_take hlt hx HA.out hg
              have hvt := val_take hlt hx
              have HA2 := Lib.hid hat
              obtain ⟨M, hM⟩ : ∃ M : Nat, M = V * 10 + (x.toNat - 48) := ⟨_, rfl⟩
              have hMM : (V : Int) * 10 + ((x.toNat : Int) - 48) = (M : Int) := by omega
              have hMb : M ≤ 10995116277769 := by omega
              have hmin : min M 1099511627776 = min (val (d.take (j + 1))) 1099511627776 := by have := HV.out; rw [hvt, hM]; omega
              have HM := Lib.hid hmin
              clear hat hvt hg hx hM hmin
              by_cases hc : ¬ 1099511627776 < M
              · have hc1 : ¬ (1099511627776 : Int) < (M : Int) := by omega
                go_wp2
                go_round
                case rel => exact ⟨j + 1, M, by omega, by go_num, rfl, by omega, Lib.hid (by have := HM.out; omega), HA2⟩
                case measure => simp [intOf]; omega
              · have hc1 : (1099511627776 : Int) < (M : Int) := by omega
                go_wp2
                go_round
                case rel => exact ⟨j + 1, 1099511627776, by omega, by go_num, rfl, by omega, Lib.hid (by have := HM.out; omega), HA2⟩
                case measure => simp [intOf]; omega
          · have hjd : j = d.length := by omega
            have hall := HA.out
            have hVm := HV.out
            rw [hjd, List.take_of_length_le (Nat.le_refl _)] at hall hVm
            have hokd : okD d = true := okD_iff.2 ⟨HNE.out, List.all_eq_true.1 hall⟩
            have hjl : ¬ (j : Int) + 1 < (l.length : Int) := by have := HDL.out; omega
            obtain ⟨hr1, hr2⟩ := inR_min (v := val d) HS.out
            rw [← hVm] at hr1 hr2
            have hres : (inR (sg * (V : Int)) = false ∧ rN = 0 ∧ rE = 4) ∨ (inR (sg * (V : Int)) = true ∧ rN = sg * (V : Int) ∧ rE = 0) := by
              cases hr : inR (sg * (val d : Int)) with
              | false => exact .inl ⟨by rw [hr1, hr], HG.out hokd hr⟩
              | true =>
                have e := HO.out hokd hr
                rw [← hr2 hr] at e
                exact .inr ⟨by rw [hr1, hr], e⟩
            have HRES := Lib.hid hres
            clear hall hVm hokd hr1 hr2 hres
            first
            | (have r2 : sg = -1 := by rw [HSG.out, ← HE45.out, t3]; rfl
               subst r2
               obtain ⟨U, hU⟩ : ∃ U : Int, -(V : Int) = U := ⟨_, rfl⟩
               have hU0 : U ≤ 0 := by omega
               have hUb : -1099511627776 ≤ U := by omega
               have hUs : (-1 : Int) * (V : Int) = U := by omega
               rcases HRES.out with ⟨p1, p2, p3⟩ | ⟨p1, p2, p3⟩
               · rw [hUs, inR_false] at p1
                 have q1 : U < -2147483648 := by omega
                 have P := Lib.hid (And.intro p2 p3)
                 clear p1 p2 p3 HRES hUs
                 go_wp2
                 all_goals
                   go_ret2
                   rw [P.out.1, P.out.2]
                   exact ⟨rfl, rfl⟩
               · rw [hUs, inR_true] at p1
                 rw [hUs] at p2
                 have q1 : ¬ U < -2147483648 := by omega
                 have q2 : ¬ 2147483647 < U := by omega
                 have P := Lib.hid (And.intro p2 p3)
                 clear p1 p2 p3 HRES hUs
                 go_wp2
                 all_goals
                   go_ret2
                   rw [P.out.1, P.out.2]
                   exact ⟨rfl, rfl⟩)
            | (have r2 : sg = 1 := by rw [HSG.out, ← HE45.out, t3]; rfl
               subst r2
               have hUs : (1 : Int) * (V : Int) = (V : Int) := by omega
               rcases HRES.out with ⟨p1, p2, p3⟩ | ⟨p1, p2, p3⟩
               · rw [hUs, inR_false] at p1
                 have q1 : ¬ (V : Int) < -2147483648 := by omega
                 have q2 : 2147483647 < (V : Int) := by omega
                 have P := Lib.hid (And.intro p2 p3)
                 clear p1 p2 p3 HRES hUs
                 go_wp2
                 all_goals
                   go_ret2
                   rw [P.out.1, P.out.2]
                   exact ⟨rfl, rfl⟩
               · rw [hUs, inR_true] at p1
                 rw [hUs] at p2
                 have q1 : ¬ (V : Int) < -2147483648 := by omega
                 have q2 : ¬ 2147483647 < (V : Int) := by omega
                 have P := Lib.hid (And.intro p2 p3)
                 clear p1 p2 p3 HRES hUs
                 go_wp2
                 all_goals
                   go_ret2
                   rw [P.out.1, P.out.2]
                   exact ⟨rfl, rfl⟩)
  · have hdl0 : 0 + d.length = l.length := hdl
    have HDL := Lib.hid hdl0
    clear hdl hdl0 hil hi1
    by_cases hne : d = []
    · have e := HF.out (by rw [hne]; rfl)
      have t9 : ((0 : Int) == (l.length : Int)) = true := by have := HDL.out; rw [hne] at this; simp at this; simp; omega
      rw [e.1, e.2]
      clear e hne
      rcases hs with t1 | ⟨t1, t2, t3⟩
      all_goals
        go_enter Tryd.func14, Tryd.ntmps14
        go_wp2
        all_goals
          go_ret2
          exact ⟨rfl, rfl⟩
    · have hd0 : 0 < d.length := List.length_pos_iff.2 hne
      have t9 : ((0 : Int) == (l.length : Int)) = false := by have := HDL.out; rw [beq_eq_false_iff_ne]; omega
      have h0l : (0 : Int) < (l.length : Int) := by have := HDL.out; omega
      have HNE := Lib.hid hne
      have hsg2 := HN.out (by omega)
      have HSG := Lib.hid hsg2
      have e45 : ((z.toNat : Int) == 45) = (z == 45) := byte_eq z 45
      have HE45 := Lib.hid e45
      clear hne hsg2 e45
      obtain ⟨t1, t2, t3⟩ : decide ((0 : Int) < (l.length : Int)) = true ∧ ((z.toNat : Int) == 43) = false ∧ ((z.toNat : Int) == 45) = false := by
        rcases hs with h | h
        · exact absurd h0l (of_decide_eq_false h)
        · exact h
      clear hs
      all_goals
        go_enter Tryd.func14, Tryd.ntmps14
        go_wp2
        go_loop [5, 6] (fun v k => ∃ (j V : Nat), j ≤ d.length ∧ k = .int .i64 ((j : Int)) ∧ v = .int .i64 (V : Int) ∧ V ≤ 1099511627776 ∧ Hid (V = min (val (d.take j)) 1099511627776) ∧ Hid ((d.take j).all dg = true)) (fun _ k => l.length - (intOf k).toNat)
        case atStart => exact ⟨0, 0, Nat.zero_le _, rfl, rfl, by omega, Lib.hid (by simp [val, valF]), Lib.hid (by rfl)⟩
        case round =>
          obtain ⟨j, V, hj, rfl, rfl, hV, HV, HA⟩ := hrel
          by_cases hlt : j < d.length
          · have hjl : (j : Int) < (l.length : Int) := by have := HDL.out; omega
            have hj0 : (0 : Int) ≤ (j : Int) := by omega
            have hjn : ((j : Int)).toNat = j := by omega
            obtain ⟨x, hx⟩ : ∃ x, x = d[j]?.getD 0 := ⟨_, rfl⟩
            have hgs : ∀ h, (str l)[j]'h = x := fun h => (get_str l (j) h).trans (by rw [hx, HGE.out j, Nat.zero_add])
            have hx1 := x.toNat_lt
            cases hg : dg x with
            | false =>
              have e := HF.out (all_bad hlt hx hg)
              have E := Lib.hid e
              have hx48 : decide ((x.toNat : Int) < 48) = true ∨ (decide ((x.toNat : Int) < 48) = false ∧ decide ((57 : Int) < (x.toNat : Int)) = true) := by
                have : ¬ (48 ≤ x.toNat ∧ x.toNat ≤ 57) := fun h => by rw [dg_iff.2 h] at hg; cases hg
                simp; omega
              clear hx e
              rcases hx48 with q2 | ⟨q2, q3⟩
              · go_wp2
                go_ret2
                rw [E.out.1, E.out.2]
                exact ⟨rfl, rfl⟩
              · go_wp2
                go_ret2
                rw [E.out.1, E.out.2]
                exact ⟨rfl, rfl⟩
            | true =>
              have hd1 := (dg_iff.1 hg).1
              have hd2 := (dg_iff.1 hg).2
              have q2 : decide ((x.toNat : Int) < 48) = false := by simp; omega
              have q3 : decide ((57 : Int) < (x.toNat : Int)) = false := by simp; omega
              have hat := all_take hlt hx HA.out hg
              have hvt := val_take hlt hx
              have HA2 := Lib.hid hat
              obtain ⟨M, hM⟩ : ∃ M : Nat, M = V * 10 + (x.toNat - 48) := ⟨_, rfl⟩
              have hMM : (V : Int) * 10 + ((x.toNat : Int) - 48) = (M : Int) := by omega
              have hMb : M ≤ 10995116277769 := by omega
              have hmin : min M 1099511627776 = min (val (d.take (j + 1))) 1099511627776 := by have := HV.out; rw [hvt, hM]; omega
              have HM := Lib.hid hmin
              clear hat hvt hg hx hM hmin
              by_cases hc : ¬ 1099511627776 < M
              · have hc1 : ¬ (1099511627776 : Int) < (M : Int) := by omega
                go_wp2
                go_round
                case rel => exact ⟨j + 1, M, by omega, by go_num, rfl, by omega, Lib.hid (by have := HM.out; omega), HA2⟩
                case measure => simp [intOf]; omega
              · have hc1 : (1099511627776 : Int) < (M : Int) := by omega
                go_wp2
                go_round
                case rel => exact ⟨j + 1, 1099511627776, by omega, by go_num, rfl, by omega, Lib.hid (by have := HM.out; omega), HA2⟩
                case measure => simp [intOf]; omega
          · have hjd : j = d.length := by omega
            have hall := HA.out
            have hVm := HV.out
            rw [hjd, List.take_of_length_le (Nat.le_refl _)] at hall hVm
            have hokd : okD d = true := okD_iff.2 ⟨HNE.out, List.all_eq_true.1 hall⟩
            have hjl : ¬ (j : Int) < (l.length : Int) := by have := HDL.out; omega
            obtain ⟨hr1, hr2⟩ := inR_min (v := val d) HS.out
            rw [← hVm] at hr1 hr2
            have hres : (inR (sg * (V : Int)) = false ∧ rN = 0 ∧ rE = 4) ∨ (inR (sg * (V : Int)) = true ∧ rN = sg * (V : Int) ∧ rE = 0) := by
              cases hr : inR (sg * (val d : Int)) with
              | false => exact .inl ⟨by rw [hr1, hr], HG.out hokd hr⟩
              | true =>
                have e := HO.out hokd hr
                rw [← hr2 hr] at e
                exact .inr ⟨by rw [hr1, hr], e⟩
            have HRES := Lib.hid hres
            clear hall hVm hokd hr1 hr2 hres
            first
            | (have r2 : sg = -1 := by rw [HSG.out, ← HE45.out, t3]; rfl
               subst r2
               obtain ⟨U, hU⟩ : ∃ U : Int, -(V : Int) = U := ⟨_, rfl⟩
               have hU0 : U ≤ 0 := by omega
               have hUb : -1099511627776 ≤ U := by omega
               have hUs : (-1 : Int) * (V : Int) = U := by omega
               rcases HRES.out with ⟨p1, p2, p3⟩ | ⟨p1, p2, p3⟩
               · rw [hUs, inR_false] at p1
                 have q1 : U < -2147483648 := by omega
                 have P := Lib.hid (And.intro p2 p3)
                 clear p1 p2 p3 HRES hUs
                 go_wp2
                 all_goals
                   go_ret2
                   rw [P.out.1, P.out.2]
                   exact ⟨rfl, rfl⟩
               · rw [hUs, inR_true] at p1
                 rw [hUs] at p2
                 have q1 : ¬ U < -2147483648 := by omega
                 have q2 : ¬ 2147483647 < U := by omega
                 have P := Lib.hid (And.intro p2 p3)
                 clear p1 p2 p3 HRES hUs
                 go_wp2
                 all_goals
                   go_ret2
                   rw [P.out.1, P.out.2]
                   exact ⟨rfl, rfl⟩)
            | (have r2 : sg = 1 := by rw [HSG.out, ← HE45.out, t3]; rfl
               subst r2
               have hUs : (1 : Int) * (V : Int) = (V : Int) := by omega
               rcases HRES.out with ⟨p1, p2, p3⟩ | ⟨p1, p2, p3⟩
               · rw [hUs, inR_false] at p1
                 have q1 : ¬ (V : Int) < -2147483648 := by omega
                 have q2 : 2147483647 < (V : Int) := by omega
                 have P := Lib.hid (And.intro p2 p3)
                 clear p1 p2 p3 HRES hUs
                 go_wp2
                 all_goals
                   go_ret2
                   rw [P.out.1, P.out.2]
                   exact ⟨rfl, rfl⟩
               · rw [hUs, inR_true] at p1
                 rw [hUs] at p2
                 have q1 : ¬ (V : Int) < -2147483648 := by omega
                 have q2 : ¬ 2147483647 < (V : Int) := by omega
                 have P := Lib.hid (And.intro p2 p3)
                 clear p1 p2 p3 HRES hUs
                 go_wp2
                 all_goals
                   go_ret2
                   rw [P.out.1, P.out.2]
                   exact ⟨rfl, rfl⟩)
end Go.Proofs.YtpobiaibkmmjpaaDoor
