/-
  Parts of this proof, one behind the other: RefInt, RefTok2, RefTok3, RefSkip, RefName.
-/
import Derived.Test.YthcnjiigkmljnaaGreatDoorPart6
import Derived.Test.YthcnjiigkmljnaaGreatDoorPart7
import Derived.Test.YthcnjiigkmljnaaGreatDoorPart3
import Derived.Test.YthcnjiigkmljnaaGreatDoorPart5
import Derived.Laws.AppendOwnNone
/-
  The document's own Int.
-/
namespace Go.Proofs.YthcnjiigkmljnaaGreatDoor
open Go.RowKit

theorem bd_drop (l : List UInt8) : ∃ i : Nat, i ≤ 1 ∧ i ≤ l.length ∧ bd l = l.drop i ∧ ((i = 1 ∧ 0 < l.length ∧ ((l[0]?.getD 0) = 43 ∨ (l[0]?.getD 0) = 45)) ∨ (i = 0 ∧ (0 < l.length → (l[0]?.getD 0) ≠ 43 ∧ (l[0]?.getD 0) ≠ 45))) := by
  cases l with
  | nil => exact ⟨0, by omega, by simp, rfl, .inr ⟨rfl, fun h => by simp at h⟩⟩
  | cons b t =>
    by_cases h : b = 45 ∨ b = 43
    · refine ⟨1, by omega, by simp, ?_, .inl ⟨rfl, by simp, ?_⟩⟩
      · rcases h with rfl | rfl <;> simp [bd]
      · rcases h with rfl | rfl <;> simp
    · have h1 : b ≠ 45 := fun e => h (.inl e)
      have h2 : b ≠ 43 := fun e => h (.inr e)
      exact ⟨0, by omega, by simp, by simp [bd, h1, h2], .inr ⟨rfl, fun _ => ⟨by simpa using h2, by simpa using h1⟩⟩⟩
theorem ng_at {l : List UInt8} (h : 0 < l.length) : ng l = ((l[0]?.getD 0) == 45) := by
  cases l with
  | nil => simp at h
  | cons b t => rfl
theorem byte_eq (x y : UInt8) : ((x.toNat : Int) == (y.toNat : Int)) = (x == y) := by
  cases h : x == y with
  | true => rw [beq_iff_eq] at h; subst h; simp
  | false => rw [beq_eq_false_iff_ne] at h ⊢; intro e; exact h (eq_of_toNat (by omega))
theorem inR_min {v : Nat} {s : Int} (hs : s = 1 ∨ s = -1) : inR (s * (min v 1099511627776 : Nat)) = inR (s * (v : Int)) ∧ (inR (s * (v : Int)) = true → s * (min v 1099511627776 : Nat) = s * (v : Int)) := by
  rcases Nat.lt_or_ge 1099511627776 v with h | h
  · have e : min v 1099511627776 = 1099511627776 := by omega
    rw [e]
    have h1 : inR (s * ((1099511627776 : Nat) : Int)) = false := by rw [inR_false]; rcases hs with rfl | rfl <;> omega
    have h2 : inR (s * (v : Int)) = false := by rw [inR_false]; rcases hs with rfl | rfl <;> omega
    exact ⟨by rw [h1, h2], fun h => by rw [h2] at h; cases h⟩
  · have e : min v 1099511627776 = v := by omega
    rw [e]
    exact ⟨rfl, fun _ => rfl⟩

set_option maxHeartbeats 2000000 in
theorem rInt_any (l : List UInt8) (w : World) (hl : l.length ≤ 4294967296) :
    Calls Tryz.prog 69 #[.string (str l)] w fun e w' => e = .returned (.tuple #[.int .i64 (inN l), .int .i64 (inE l)]) ∧ w = w' := by
  obtain ⟨i, hi1, hil, hbd, hcase⟩ := bd_drop l
  have hform : okD (bd l) = false → inN l = 0 ∧ inE l = 3 := in_form
  have hbig : okD (bd l) = true → inR (sgn l * (val (bd l) : Int)) = false → inN l = 0 ∧ inE l = 4 := in_big
  have hok : okD (bd l) = true → inR (sgn l * (val (bd l) : Int)) = true → inN l = sgn l * (val (bd l) : Int) ∧ inE l = 0 := in_ok
  have hsg := sgn_cases l
  have hng : 0 < l.length → sgn l = if (l[0]?.getD 0) == 45 then -1 else 1 := fun h => by unfold sgn; rw [ng_at h]
  obtain ⟨z, hz⟩ : ∃ z, z = l[0]?.getD 0 := ⟨_, rfl⟩
  rw [← hz] at hcase hng
  have g0 : ∀ h, (str l)[0]'h = z := fun h => (get_str l 0 h).trans hz.symm
  have hz1 := z.toNat_lt
  generalize inN l = rN at *
  generalize inE l = rE at *
  generalize sgn l = sg at *
  obtain ⟨d, hd⟩ : ∃ d, d = bd l := ⟨_, rfl⟩
  rw [← hd] at hform hbig hok hbd
  have hdl : i + d.length = l.length := by rw [hbd, List.length_drop]; omega
  have hget : ∀ j, d[j]?.getD 0 = l[i + j]?.getD 0 := fun j => by rw [hbd, List.getElem?_drop]
  have HF := Lib.hid hform
  have HG := Lib.hid hbig
  have HO := Lib.hid hok
  have HS := Lib.hid hsg
  have HN := Lib.hid hng
  have HGE := Lib.hid hget
  clear hform hbig hok hsg hd hng hget hz hbd
  have hsign : (i = 1 ∧ decide ((0 : Int) < (l.length : Int)) = true ∧ ((((z.toNat : Int) == 43) = true ∧ ((z.toNat : Int) == 45) = false) ∨ (((z.toNat : Int) == 43) = false ∧ ((z.toNat : Int) == 45) = true))) ∨ (i = 0 ∧ (decide ((0 : Int) < (l.length : Int)) = false ∨ (decide ((0 : Int) < (l.length : Int)) = true ∧ ((z.toNat : Int) == 43) = false ∧ ((z.toNat : Int) == 45) = false))) := by
    have e43 : ((z.toNat : Int) == 43) = (z == 43) := byte_eq z 43
    have e45 : ((z.toNat : Int) == 45) = (z == 45) := byte_eq z 45
    rw [e43, e45]
    rcases hcase with ⟨h1, h2, h3⟩ | ⟨h1, h2⟩
    · refine .inl ⟨h1, by simp; omega, ?_⟩
      rcases h3 with rfl | rfl
      · exact .inl (by decide)
      · exact .inr (by decide)
    · refine .inr ⟨h1, ?_⟩
      by_cases h : 0 < l.length
      · exact .inr ⟨by simp; omega, by simpa using (h2 h).1, by simpa using (h2 h).2⟩
      · exact .inl (decide_eq_false (by omega))
  clear hcase
  rcases hsign with ⟨rfl, hs⟩ | ⟨rfl, hs⟩
  · have hdl1 : 1 + d.length = l.length := hdl
    have HDL := Lib.hid hdl1
    clear hdl hdl1 hil hi1
    by_cases hne : d = []
    · have e := HF.out (by rw [hne]; rfl)
      have t9 : ((1 : Int) == (l.length : Int)) = true := by have := HDL.out; rw [hne] at this; simp at this; simp; omega
      rw [e.1, e.2]
      clear e hne
      rcases hs with ⟨t1, ⟨t2, t3⟩ | ⟨t2, t3⟩⟩
      all_goals
        go_enter Tryz.func69, Tryz.ntmps69
        go_wp2
        all_goals
          go_ret2
          exact ⟨rfl, rfl⟩
    · have hd0 : 0 < d.length := List.length_pos_iff.2 hne
      have t9 : ((1 : Int) == (l.length : Int)) = false := by have := HDL.out; rw [beq_eq_false_iff_ne]; omega
      have h0l : (0 : Int) < (l.length : Int) := by have := HDL.out; omega
      have HNE := Lib.hid hne
      have hsg2 := HN.out (by omega)
      have HSG := Lib.hid hsg2
      have e45 : ((z.toNat : Int) == 45) = (z == 45) := byte_eq z 45
      have HE45 := Lib.hid e45
      clear hne hsg2 e45
      rcases hs with ⟨t1, ⟨t2, t3⟩ | ⟨t2, t3⟩⟩
      all_goals
        go_enter Tryz.func69, Tryz.ntmps69
        go_wp2
        go_loop [5, 6] (fun v k => ∃ (j V : Nat), j ≤ d.length ∧ k = .int .i64 ((j : Int) + 1) ∧ v = .int .i64 (V : Int) ∧ V ≤ 1099511627776 ∧ Hid (V = min (val (d.take j)) 1099511627776) ∧ Hid ((d.take j).all dg = true)) (fun _ k => l.length - (intOf k).toNat)
        case atStart => exact ⟨0, 0, Nat.zero_le _, rfl, rfl, by omega, Lib.hid (by simp [val, valF]), Lib.hid (by rfl)⟩
        case round =>
          obtain ⟨j, V, hj, rfl, rfl, hV, HV, HA⟩ := hrel
          by_cases hlt : j < d.length
          · have hjl : (j : Int) + 1 < (l.length : Int) := by have := HDL.out; omega
            have hj0 : (0 : Int) ≤ (j : Int) + 1 := by omega
            have hjn : ((j : Int) + 1).toNat = j + 1 := by omega
            obtain ⟨x, hx⟩ : ∃ x, x = d[j]?.getD 0 := ⟨_, rfl⟩
            have hgs : ∀ h, (str l)[j + 1]'h = x := fun h => (get_str l (j + 1) h).trans (by rw [hx, HGE.out j, Nat.add_comm])
            have hx1 := x.toNat_lt
            cases hg : dg x with
            | false =>
              have e := HF.out (all_bad hlt hx hg)
              have E := Lib.hid e
              have hx48 : decide ((x.toNat : Int) < 48) = true ∨ (decide ((x.toNat : Int) < 48) = false ∧ decide ((57 : Int) < (x.toNat : Int)) = true) := by
                have : ¬ (48 ≤ x.toNat ∧ x.toNat ≤ 57) := fun h => by rw [dg_iff.2 h] at hg; cases hg
                simp; omega
              clear hx e
              rcases hx48 with q2 | ⟨q2, q3⟩
              · go_wp2
                go_ret2
                rw [E.out.1, E.out.2]
                exact ⟨rfl, rfl⟩
              · go_wp2
                go_ret2
                rw [E.out.1, E.out.2]
                exact ⟨rfl, rfl⟩
            | true =>
              have hd1 := (dg_iff.1 hg).1
              have hd2 := (dg_iff.1 hg).2
              have q2 : decide ((x.toNat : Int) < 48) = false := by simp; omega
              have q3 : decide ((57 : Int) < (x.toNat : Int)) = false := by simp; omega
              have hat := all_take hlt hx HA.out hg
              have hvt := val_take hlt hx
              have HA2 := Lib.hid hat
              obtain ⟨M, hM⟩ : ∃ M : Nat, M = V * 10 + (x.toNat - 48) := ⟨_, rfl⟩
              have hMM : (V : Int) * 10 + ((x.toNat : Int) - 48) = (M : Int) := by omega
              have hMb : M ≤ 10995116277769 := by omega
              have hmin : min M 1099511627776 = min (val (d.take (j + 1))) 1099511627776 := by have := HV.out; rw [hvt, hM]; omega
              have HM := Lib.hid hmin
              clear hat hvt hg hx hM hmin
              by_cases hc : ¬ 1099511627776 < M
              · have hc1 : ¬ (1099511627776 : Int) < (M : Int) := by omega
                go_wp2
                go_round
                case rel => exact ⟨j + 1, M, by omega, by go_num, (by first | rfl | (congr 1; omega)), by omega, Lib.hid (by have := HM.out; omega), HA2⟩
                case measure => simp [intOf]; omega
              · have hc1 : (1099511627776 : Int) < (M : Int) := by omega
                go_wp2
                go_round
                case rel => exact ⟨j + 1, 1099511627776, by omega, by go_num, (by first | rfl | (congr 1; omega)), by omega, Lib.hid (by have := HM.out; omega), HA2⟩
                case measure => simp [intOf]; omega
          · have hjd : j = d.length := by omega
            have hall := HA.out
            have hVm := HV.out
            rw [hjd, List.take_of_length_le (Nat.le_refl _)] at hall hVm
            have hokd : okD d = true := okD_iff.2 ⟨HNE.out, List.all_eq_true.1 hall⟩
            have hjl : ¬ (j : Int) + 1 < (l.length : Int) := by have := HDL.out; omega
            obtain ⟨hr1, hr2⟩ := inR_min (v := val d) HS.out
            rw [← hVm] at hr1 hr2
            have hres : (inR (sg * (V : Int)) = false ∧ rN = 0 ∧ rE = 4) ∨ (inR (sg * (V : Int)) = true ∧ rN = sg * (V : Int) ∧ rE = 0) := by
              cases hr : inR (sg * (val d : Int)) with
              | false => exact .inl ⟨by rw [hr1, hr], HG.out hokd hr⟩
              | true =>
                have e := HO.out hokd hr
                rw [← hr2 hr] at e
                exact .inr ⟨by rw [hr1, hr], e⟩
            have HRES := Lib.hid hres
            clear hall hVm hokd hr1 hr2 hres
            first
            | (have r2 : sg = -1 := by rw [HSG.out, ← HE45.out, t3]; rfl
               subst r2
               obtain ⟨U, hU⟩ : ∃ U : Int, -(V : Int) = U := ⟨_, rfl⟩
               have hU0 : U ≤ 0 := by omega
               have hUb : -1099511627776 ≤ U := by omega
               have hUs : (-1 : Int) * (V : Int) = U := by omega
               rcases HRES.out with ⟨p1, p2, p3⟩ | ⟨p1, p2, p3⟩
               · rw [hUs, inR_false] at p1
                 have q1 : U < -2147483648 := by omega
                 have P := Lib.hid (And.intro p2 p3)
                 clear p1 p2 p3 HRES hUs
                 go_wp2
                 all_goals
                   go_ret2
                   rw [P.out.1, P.out.2]
                   exact ⟨rfl, rfl⟩
               · rw [hUs, inR_true] at p1
                 rw [hUs] at p2
                 have q1 : ¬ U < -2147483648 := by omega
                 have q2 : ¬ 2147483647 < U := by omega
                 have P := Lib.hid (And.intro p2 p3)
                 clear p1 p2 p3 HRES hUs
                 go_wp2
                 all_goals
                   go_ret2
                   rw [P.out.1, P.out.2]
                   exact ⟨rfl, rfl⟩)
            | (have r2 : sg = 1 := by rw [HSG.out, ← HE45.out, t3]; rfl
               subst r2
               have hUs : (1 : Int) * (V : Int) = (V : Int) := by omega
               rcases HRES.out with ⟨p1, p2, p3⟩ | ⟨p1, p2, p3⟩
               · rw [hUs, inR_false] at p1
                 have q1 : ¬ (V : Int) < -2147483648 := by omega
                 have q2 : 2147483647 < (V : Int) := by omega
                 have P := Lib.hid (And.intro p2 p3)
                 clear p1 p2 p3 HRES hUs
                 go_wp2
                 all_goals
                   go_ret2
                   rw [P.out.1, P.out.2]
                   exact ⟨rfl, rfl⟩
               · rw [hUs, inR_true] at p1
                 rw [hUs] at p2
                 have q1 : ¬ (V : Int) < -2147483648 := by omega
                 have q2 : ¬ 2147483647 < (V : Int) := by omega
                 have P := Lib.hid (And.intro p2 p3)
                 clear p1 p2 p3 HRES hUs
                 go_wp2
                 all_goals
                   go_ret2
                   rw [P.out.1, P.out.2]
                   exact ⟨rfl, rfl⟩)
  · have hdl0 : 0 + d.length = l.length := hdl
    have HDL := Lib.hid hdl0
    clear hdl hdl0 hil hi1
    by_cases hne : d = []
    · have e := HF.out (by rw [hne]; rfl)
      have t9 : ((0 : Int) == (l.length : Int)) = true := by have := HDL.out; rw [hne] at this; simp at this; simp; omega
      rw [e.1, e.2]
      clear e hne
      rcases hs with t1 | ⟨t1, t2, t3⟩
      all_goals
        go_enter Tryz.func69, Tryz.ntmps69
        go_wp2
        all_goals
          go_ret2
          exact ⟨rfl, rfl⟩
    · have hd0 : 0 < d.length := List.length_pos_iff.2 hne
      have t9 : ((0 : Int) == (l.length : Int)) = false := by have := HDL.out; rw [beq_eq_false_iff_ne]; omega
      have h0l : (0 : Int) < (l.length : Int) := by have := HDL.out; omega
      have HNE := Lib.hid hne
      have hsg2 := HN.out (by omega)
      have HSG := Lib.hid hsg2
      have e45 : ((z.toNat : Int) == 45) = (z == 45) := byte_eq z 45
      have HE45 := Lib.hid e45
      clear hne hsg2 e45
      obtain ⟨t1, t2, t3⟩ : decide ((0 : Int) < (l.length : Int)) = true ∧ ((z.toNat : Int) == 43) = false ∧ ((z.toNat : Int) == 45) = false := by
        rcases hs with h | h
        · exact absurd h0l (of_decide_eq_false h)
        · exact h
      clear hs
      all_goals
        go_enter Tryz.func69, Tryz.ntmps69
        go_wp2
        go_loop [5, 6] (fun v k => ∃ (j V : Nat), j ≤ d.length ∧ k = .int .i64 ((j : Int)) ∧ v = .int .i64 (V : Int) ∧ V ≤ 1099511627776 ∧ Hid (V = min (val (d.take j)) 1099511627776) ∧ Hid ((d.take j).all dg = true)) (fun _ k => l.length - (intOf k).toNat)
        case atStart => exact ⟨0, 0, Nat.zero_le _, rfl, rfl, by omega, Lib.hid (by simp [val, valF]), Lib.hid (by rfl)⟩
        case round =>
          obtain ⟨j, V, hj, rfl, rfl, hV, HV, HA⟩ := hrel
          by_cases hlt : j < d.length
          · have hjl : (j : Int) < (l.length : Int) := by have := HDL.out; omega
            have hj0 : (0 : Int) ≤ (j : Int) := by omega
            have hjn : ((j : Int)).toNat = j := by omega
            obtain ⟨x, hx⟩ : ∃ x, x = d[j]?.getD 0 := ⟨_, rfl⟩
            have hgs : ∀ h, (str l)[j]'h = x := fun h => (get_str l (j) h).trans (by rw [hx, HGE.out j, Nat.zero_add])
            have hx1 := x.toNat_lt
            cases hg : dg x with
            | false =>
              have e := HF.out (all_bad hlt hx hg)
              have E := Lib.hid e
              have hx48 : decide ((x.toNat : Int) < 48) = true ∨ (decide ((x.toNat : Int) < 48) = false ∧ decide ((57 : Int) < (x.toNat : Int)) = true) := by
                have : ¬ (48 ≤ x.toNat ∧ x.toNat ≤ 57) := fun h => by rw [dg_iff.2 h] at hg; cases hg
                simp; omega
              clear hx e
              rcases hx48 with q2 | ⟨q2, q3⟩
              · go_wp2
                go_ret2
                rw [E.out.1, E.out.2]
                exact ⟨rfl, rfl⟩
              · go_wp2
                go_ret2
                rw [E.out.1, E.out.2]
                exact ⟨rfl, rfl⟩
            | true =>
              have hd1 := (dg_iff.1 hg).1
              have hd2 := (dg_iff.1 hg).2
              have q2 : decide ((x.toNat : Int) < 48) = false := by simp; omega
              have q3 : decide ((57 : Int) < (x.toNat : Int)) = false := by simp; omega
              have hat := all_take hlt hx HA.out hg
              have hvt := val_take hlt hx
              have HA2 := Lib.hid hat
              obtain ⟨M, hM⟩ : ∃ M : Nat, M = V * 10 + (x.toNat - 48) := ⟨_, rfl⟩
              have hMM : (V : Int) * 10 + ((x.toNat : Int) - 48) = (M : Int) := by omega
              have hMb : M ≤ 10995116277769 := by omega
              have hmin : min M 1099511627776 = min (val (d.take (j + 1))) 1099511627776 := by have := HV.out; rw [hvt, hM]; omega
              have HM := Lib.hid hmin
              clear hat hvt hg hx hM hmin
              by_cases hc : ¬ 1099511627776 < M
              · have hc1 : ¬ (1099511627776 : Int) < (M : Int) := by omega
                go_wp2
                go_round
                case rel => exact ⟨j + 1, M, by omega, by go_num, (by first | rfl | (congr 1; omega)), by omega, Lib.hid (by have := HM.out; omega), HA2⟩
                case measure => simp [intOf]; omega
              · have hc1 : (1099511627776 : Int) < (M : Int) := by omega
                go_wp2
                go_round
                case rel => exact ⟨j + 1, 1099511627776, by omega, by go_num, (by first | rfl | (congr 1; omega)), by omega, Lib.hid (by have := HM.out; omega), HA2⟩
                case measure => simp [intOf]; omega
          · have hjd : j = d.length := by omega
            have hall := HA.out
            have hVm := HV.out
            rw [hjd, List.take_of_length_le (Nat.le_refl _)] at hall hVm
            have hokd : okD d = true := okD_iff.2 ⟨HNE.out, List.all_eq_true.1 hall⟩
            have hjl : ¬ (j : Int) < (l.length : Int) := by have := HDL.out; omega
            obtain ⟨hr1, hr2⟩ := inR_min (v := val d) HS.out
            rw [← hVm] at hr1 hr2
            have hres : (inR (sg * (V : Int)) = false ∧ rN = 0 ∧ rE = 4) ∨ (inR (sg * (V : Int)) = true ∧ rN = sg * (V : Int) ∧ rE = 0) := by
              cases hr : inR (sg * (val d : Int)) with
              | false => exact .inl ⟨by rw [hr1, hr], HG.out hokd hr⟩
              | true =>
                have e := HO.out hokd hr
                rw [← hr2 hr] at e
                exact .inr ⟨by rw [hr1, hr], e⟩
            have HRES := Lib.hid hres
            clear hall hVm hokd hr1 hr2 hres
            first
            | (have r2 : sg = -1 := by rw [HSG.out, ← HE45.out, t3]; rfl
               subst r2
               obtain ⟨U, hU⟩ : ∃ U : Int, -(V : Int) = U := ⟨_, rfl⟩
               have hU0 : U ≤ 0 := by omega
               have hUb : -1099511627776 ≤ U := by omega
               have hUs : (-1 : Int) * (V : Int) = U := by omega
               rcases HRES.out with ⟨p1, p2, p3⟩ | ⟨p1, p2, p3⟩
               · rw [hUs, inR_false] at p1
                 have q1 : U < -2147483648 := by omega
                 have P := Lib.hid (And.intro p2 p3)
                 clear p1 p2 p3 HRES hUs
                 go_wp2
                 all_goals
                   go_ret2
                   rw [P.out.1, P.out.2]
                   exact ⟨rfl, rfl⟩
               · rw [hUs, inR_true] at p1
                 rw [hUs] at p2
                 have q1 : ¬ U < -2147483648 := by omega
                 have q2 : ¬ 2147483647 < U := by omega
                 have P := Lib.hid (And.intro p2 p3)
                 clear p1 p2 p3 HRES hUs
                 go_wp2
                 all_goals
                   go_ret2
                   rw [P.out.1, P.out.2]
                   exact ⟨rfl, rfl⟩)
            | (have r2 : sg = 1 := by rw [HSG.out, ← HE45.out, t3]; rfl
               subst r2
               have hUs : (1 : Int) * (V : Int) = (V : Int) := by omega
               rcases HRES.out with ⟨p1, p2, p3⟩ | ⟨p1, p2, p3⟩
               · rw [hUs, inR_false] at p1
                 have q1 : ¬ (V : Int) < -2147483648 := by omega
                 have q2 : 2147483647 < (V : Int) := by omega
                 have P := Lib.hid (And.intro p2 p3)
                 clear p1 p2 p3 HRES hUs
                 go_wp2
                 all_goals
                   go_ret2
                   rw [P.out.1, P.out.2]
                   exact ⟨rfl, rfl⟩
               · rw [hUs, inR_true] at p1
                 rw [hUs] at p2
                 have q1 : ¬ (V : Int) < -2147483648 := by omega
                 have q2 : ¬ 2147483647 < (V : Int) := by omega
                 have P := Lib.hid (And.intro p2 p3)
                 clear p1 p2 p3 HRES hUs
                 go_wp2
                 all_goals
                   go_ret2
                   rw [P.out.1, P.out.2]
                   exact ⟨rfl, rfl⟩)
end Go.Proofs.YthcnjiigkmljnaaGreatDoor
/-
  hornbookref04.hexed, worded: the document's own.
-/
namespace Go.Proofs.YthcnjiigkmljnaaGreatDoor
open Go.RowKit

theorem gt_step {l : List UInt8} {p k : Nat} {x : UInt8} (hk : k < l.length) (hx : x = l[k]?.getD 0) (h : x ≠ 62) (e : gt (l.drop (p + 1)) = k - (p + 1) + gt (l.drop k)) (hp : p + 1 ≤ k) : gt (l.drop (p + 1)) = k + 1 - (p + 1) + gt (l.drop (k + 1)) := by
  rw [e, drop_at hk hx]
  simp only [gt, if_neg h]
  omega

set_option maxRecDepth 100000 in
set_option maxHeartbeats 4000000 in
theorem rhexed_any (l : List UInt8) (p : Nat) (w : World) (hp : p < l.length) (hl : l.length ≤ 1048576) :
    Calls Tryz.prog 45 #[.string (str l), .int .i64 (p : Int)] w fun e w' => e = .returned (rv p (tkHex (l.drop (p + 1)))) ∧ Below w.heap.size w w' := by
  have hF : ∀ (a b : Int) (w : World), Calls Tryz.prog 41 #[.int .i64 a, .int .i64 b] w fun e w' => e = .returned (.tuple #[.agg #[.int .i64 0, .int .i64 0, .int .i64 0, .string ⟨#[]⟩], .int .i64 a, .int .i64 b]) ∧ Below w.heap.size w w' := fun a b w => rfail_any a b w
  have HF := Lib.hid hF
  clear hF
  have hg0 : Hid (gt (l.drop (p + 1)) = p + 1 - (p + 1) + gt (l.drop (p + 1))) := Lib.hid (by omega)
  have hw0 : Below (w.alloc (.cells #[.int .i64 0, .int .i64 0, .int .i64 0, .string ⟨#[]⟩] 42)).heap.size (w.alloc (.cells #[.int .i64 0, .int .i64 0, .int .i64 0, .string ⟨#[]⟩] 42)) (w.alloc (.cells #[.int .i64 0, .int .i64 0, .int .i64 0, .string ⟨#[]⟩] 42)) := Below.refl _ _
  go_enter Tryz.func45, Tryz.ntmps45
  go_wp2
  go_loop [7] (fun i => ∃ k : Nat, p + 1 ≤ k ∧ k ≤ l.length ∧ i = .int .i64 (k : Int) ∧ Hid (gt (l.drop (p + 1)) = k - (p + 1) + gt (l.drop k))) (fun i => l.length - (intOf i).toNat)
  case atStart => exact ⟨p + 1, Nat.le_refl _, by omega, by go_num, hg0⟩
  case round =>
    obtain ⟨k, hpk, hk, rfl, HG⟩ := hrel
    by_cases hlt : k < l.length
    · obtain ⟨x, hx⟩ : ∃ x, x = l[k]?.getD 0 := ⟨_, rfl⟩
      have hgs : ∀ h, (str l)[k]'h = x := fun h => (get_str l k h).trans hx.symm
      have hx1 := x.toNat_lt
      have t1 : decide (k < l.length) = true := by simp; omega
      have t1' : decide ((k : Int) < (l.length : Int)) = true := by simp; omega
      by_cases h62 : x = 62
      · subst h62
        have hgk : gt (l.drop (p + 1)) = k - (p + 1) := by rw [HG.out, drop_at hlt hx]; simp [gt]
        have t2 : ((k : Int) == (l.length : Int)) = false := by rw [beq_eq_false_iff_ne]; omega
        have t2' : (k == l.length) = false := by rw [beq_eq_false_iff_ne]; omega
        have hsl := run_mid (P := Tryz.prog) l (p + 1) k hpk hk 9 Tryz.underlying9
        rw [show ((p + 1 : Nat) : Int) = (p : Int) + 1 by omega] at hsl
        have hlen : (l.drop (p + 1)).length = l.length - (p + 1) := List.length_drop
        have hT : tkHex (l.drop (p + 1)) = if unE ((l.drop (p + 1)).take (gt (l.drop (p + 1)))) = 0 then okR 4 0 (unB ((l.drop (p + 1)).take (gt (l.drop (p + 1))))) (k - (p + 1) + 2) else noR (1 + bad ((l.drop (p + 1)).take (gt (l.drop (p + 1))))) (unE ((l.drop (p + 1)).take (gt (l.drop (p + 1))))) := by
          unfold tkHex
          rw [if_pos (by omega), ← hgk]
        rw [← hgk] at hsl
        have htl : ((l.drop (p + 1)).take (gt (l.drop (p + 1)))).length ≤ l.length := by simp; omega
        generalize (l.drop (p + 1)).take (gt (l.drop (p + 1))) = a at *
        have hU : ∀ w, Calls Tryz.prog 67 #[.string (str a)] w (RetBytes w (unB a) (unN a) (unE a)) := fun w => rUnHex_any a w (by omega)
        have hbad := bad_le a
        have hun : unN a = (bad a : Int) := rfl
        rw [hun] at hU
        have hE := unE_c a
        clear hgk hlen hx HG hg0 hun
        generalize unB a = ub at *
        generalize bad a = bn at *
        rcases hE with h0 | h1
        · rw [h0] at hU
          have e1 : (p : Int) + ((k - (p + 1) + 2 : Nat) : Int) = (k : Int) + 1 := by omega
          have HV : Hid (rv p (tkHex (l.drop (p + 1))) = .tuple #[.agg #[.int .i64 4, .int .i64 (p : Int), .int .i64 0, .string (str ub)], .int .i64 ((k : Int) + 1), .int .i64 0]) := Lib.hid (by rw [hT, if_pos h0, rv_ok, e1])
          have HU := Lib.hid hU
          clear hU h0 e1 hT
          go_wp2_with (go_at_call 67; refine (HU.out _).mono ?_; rintro e w3 ⟨A, c, rfl, hc, hsl3, hb3⟩; obtain ⟨⟨c0, c1, c2, c3⟩, ⟨z0, z1, z2, z3⟩, hlt', hB⟩ := res_of hb3; have hcv := conv8 hsl3 c; clear hb3 hsl3)
          refine bodyPost_ret (v := _) (by simp [results, Tryz.results45, go_sem, c0, c1, c2, c3]; try rfl) rfl ⟨by rw [HV.out], below_4 hB (Nat.le_refl _) _ _ _ _⟩
        · rw [h1] at hU
          have e1 : (p : Int) + ((1 + bn : Nat) : Int) = (p : Int) + 1 + (bn : Int) := by omega
          have HV : Hid (rv p (tkHex (l.drop (p + 1))) = .tuple #[.agg #[.int .i64 0, .int .i64 0, .int .i64 0, .string ⟨#[]⟩], .int .i64 ((p : Int) + 1 + (bn : Int)), .int .i64 1]) := Lib.hid (by rw [hT, h1, if_neg (by decide), rv_no _ _ _ (by decide), e1])
          have HU := Lib.hid hU
          clear hU h1 e1 hT
          go_wp2_with (first | (go_at_call 67; refine (HU.out _).mono ?_; rintro e w3 ⟨A, c, rfl, hc, hsl3, hb3⟩) | (go_at_call 41; refine (HF.out _ _ _).mono ?_; rintro e w4 ⟨rfl, hb4⟩; obtain ⟨⟨c0, c1, c2, c3⟩, ⟨z0, z1, z2, z3⟩, hlt', hB⟩ := res_of (hb3.trans (hb4.mono hb3.size)); clear hb3 hb4 hsl3))
          refine bodyPost_ret (v := _) (by simp [results, Tryz.results45, go_sem, c0, c1, c2, c3]; try rfl) rfl ⟨by rw [HV.out], below_4 hB (Nat.le_refl _) _ _ _ _⟩
      · have t3 : ((x.toNat : Int) != 62) = true := by rw [bne_iff_ne]; intro e; exact h62 (eq_of_toNat (by show x.toNat = 62; omega))
        have HG2 := Lib.hid (gt_step hlt hx h62 HG.out hpk)
        clear hx HG
        go_wp2
        go_round
        case rel => exact ⟨k + 1, by omega, by omega, by go_num, HG2⟩
        case measure => simp [intOf]; omega
    · have t1 : decide (k < l.length) = false := by simp; omega
      have t1' : decide ((k : Int) < (l.length : Int)) = false := by simp; omega
      have hkl : k = l.length := by omega
      have t2 : ((k : Int) == (l.length : Int)) = true := by rw [beq_iff_eq]; omega
      have t2' : (k == l.length) = true := by rw [beq_iff_eq]; omega
      have hlen : (l.drop (p + 1)).length = l.length - (p + 1) := List.length_drop
      have hgk : ¬ gt (l.drop (p + 1)) < (l.drop (p + 1)).length := by rw [HG.out, hlen, List.drop_eq_nil_of_le (by omega : l.length ≤ k)]; simp [gt]; omega
      have e1 : (p : Int) + ((1 + (l.length - (p + 1)) : Nat) : Int) = (l.length : Int) := by omega
      have HV : Hid (rv p (tkHex (l.drop (p + 1))) = .tuple #[.agg #[.int .i64 0, .int .i64 0, .int .i64 0, .string ⟨#[]⟩], .int .i64 (l.length : Int), .int .i64 2]) := Lib.hid (by unfold tkHex; rw [if_neg hgk, rv_no _ _ _ (by decide), hlen, e1])
      clear hgk hlen HG hkl hg0 e1 hlt
      go_wp2_with (go_at_call 41; refine (HF.out _ _ _).mono ?_; rintro e w4 ⟨rfl, hb4⟩; obtain ⟨⟨c0, c1, c2, c3⟩, ⟨z0, z1, z2, z3⟩, hlt', hB⟩ := res_of hb4; clear hb4)
      refine bodyPost_ret (v := _) (by simp [results, Tryz.results45, go_sem, c0, c1, c2, c3]; try rfl) rfl ⟨by rw [HV.out], below_4 hB (Nat.le_refl _) _ _ _ _⟩

set_option maxRecDepth 100000 in
set_option maxHeartbeats 2000000 in
theorem rworded_any (l : List UInt8) (p : Nat) (w : World) (hp : p ≤ l.length) (hl : l.length ≤ 1073741824) :
    Calls Tryz.prog 47 #[.string (str l), .int .i64 (p : Int)] w fun e w' => e = .returned (rv p (tkWord (l.drop p))) ∧ Below w.heap.size w w' := by
  have hw1 : wdL l (p : Int) = (l.drop p).take (wn (l.drop p)) := by unfold wdL; rw [pl_of _ _ hp]
  have hw2 : wdN l (p : Int) = p + wn (l.drop p) := by unfold wdN; rw [pl_of _ _ hp]
  have hW : ∀ w, Calls Tryz.prog 43 #[.string (str l), .int .i64 (p : Int)] w fun e w' => e = .returned (.tuple #[.string (str (wdL l p)), .int .i64 (wdN l p : Nat)]) ∧ w = w' := fun w => rWord_any l p w (by omega)
  have hwl := wn_le (l.drop p)
  rw [List.length_drop] at hwl
  rw [hw1, hw2] at hW
  unfold tkWord
  have hdl : ((l.drop p).take (wn (l.drop p))).length ≤ l.length := by simp; omega
  generalize wn (l.drop p) = k at *
  generalize (l.drop p).take k = d at *
  have hI : ∀ w, Calls Tryz.prog 69 #[.string (str d)] w fun e w' => e = .returned (.tuple #[.int .i64 (inN d), .int .i64 (inE d)]) ∧ w = w' := fun w => rInt_any d w (by omega)
  have hcase := inE_cases d
  generalize inN d = rN at *
  generalize inE d = E at *
  have HW := Lib.hid hW
  have HI := Lib.hid hI
  have hF : ∀ (a b : Int) (w : World), Calls Tryz.prog 41 #[.int .i64 a, .int .i64 b] w fun e w' => e = .returned (.tuple #[.agg #[.int .i64 0, .int .i64 0, .int .i64 0, .string ⟨#[]⟩], .int .i64 a, .int .i64 b]) ∧ Below w.heap.size w w' := fun a b w => rfail_any a b w
  have HF := Lib.hid hF
  clear hw1 hw2 hW hI hF
  rcases hcase with rfl | rfl | rfl
  · rw [if_pos rfl, rv_ok]
    go_enter Tryz.func47, Tryz.ntmps47
    go_wp2_with (first | (go_at_call 43; refine (HW.out _).mono ?_; rintro e w' ⟨rfl, rfl⟩) | (go_at_call 69; refine (HI.out _).mono ?_; rintro e w' ⟨rfl, rfl⟩))
    refine bodyPost_ret (v := _) (by simp [results, Tryz.results47, go_sem]; try rfl) rfl ⟨rfl, (Below.refl _ _).alloc (Nat.le_refl _) _⟩
  · rw [if_neg (by decide), if_pos rfl, rv_ok]
    go_enter Tryz.func47, Tryz.ntmps47
    go_wp2_with (first | (go_at_call 43; refine (HW.out _).mono ?_; rintro e w' ⟨rfl, rfl⟩) | (go_at_call 69; refine (HI.out _).mono ?_; rintro e w' ⟨rfl, rfl⟩))
    refine bodyPost_ret (v := _) (by simp [results, Tryz.results47, go_sem]; try rfl) rfl ⟨rfl, (Below.refl _ _).alloc (Nat.le_refl _) _⟩
  · rw [if_neg (by decide), if_neg (by decide), rv_no _ _ _ (by decide)]
    go_enter Tryz.func47, Tryz.ntmps47
    go_wp2_with (first | (go_at_call 43; refine (HW.out _).mono ?_; rintro e w' ⟨rfl, rfl⟩) | (go_at_call 69; refine (HI.out _).mono ?_; rintro e w' ⟨rfl, rfl⟩) | (go_at_call 41; refine (HF.out _ _ _).mono ?_; rintro e w4 ⟨rfl, hb4⟩; obtain ⟨⟨c0, c1, c2, c3⟩, ⟨z0, z1, z2, z3⟩, hlt', hB⟩ := res_of hb4; clear hb4))
    refine bodyPost_ret (v := _) (by simp [results, Tryz.results47, go_sem, c0, c1, c2, c3]; try rfl) rfl ⟨by simp, below_4 hB (Nat.le_refl _) _ _ _ _⟩
end Go.Proofs.YthcnjiigkmljnaaGreatDoor
/-
  hornbookref04.strung: the document's own string.
-/
namespace Go.Proofs.YthcnjiigkmljnaaGreatDoor
open Go.RowKit

theorem esN_zero {d : List UInt8} (h : d ≠ []) : 0 < esN d := by
  cases d with
  | nil => exact absurd rfl h
  | cons b t =>
    unfold esN
    by_cases h0 : len (b :: t) = 0
    · rw [if_pos h0]
      by_cases h1 : octN (b :: t) = 0
      · rw [if_pos h1]; exact Nat.one_pos
      · rw [if_neg h1]; omega
    · rw [if_neg h0]; omega
theorem len_ret (t : List UInt8) : len (13 :: t) = if t.head? = some 10 then 2 else 1 := by
  show (if (13 : UInt8) = 13 then (if t.head? = some 10 then 2 else 1) else (if (13 : UInt8) = 10 then 1 else 0)) = _
  rw [if_pos rfl]
theorem news_one {w : World} {b : Nat} {y : UInt8} (h : w.cell? ⟨b, 0, none⟩ = some (.int .u8 (y.toNat : Int))) : ∀ j u, (bvs [y])[j]? = some u → w.cell? ((⟨b, 0, none⟩ : Addr).add j) = some u := by
  intro j u hu
  have hj : j = 0 := by
    have := (List.getElem?_eq_some_iff.1 hu).1
    simpa [bvs] using this
  subst hj
  simp [bvs] at hu
  subst hu
  rw [addr_add]
  exact h
theorem rv_no' {p : Nat} {t : List UInt8} {R : Sr} {e : Int} {q : Nat} (hR : R = strT 1 t) (he : R.e = e) (h0 : e ≠ 0) (hq : p + (1 + R.k) = q) : rv p (tkStr t) = .tuple #[.agg #[.int .i64 0, .int .i64 0, .int .i64 0, .string ⟨#[]⟩], .int .i64 (q : Int), .int .i64 e] := by
  unfold tkStr
  rw [← hR, if_neg (by rw [he]; exact h0), he, rv_no _ _ _ h0]
  have : (p : Int) + ((1 + R.k : Nat) : Int) = (q : Int) := by omega
  rw [this]
theorem rv_ok' {p : Nat} {t o : List UInt8} {R : Sr} {q : Nat} (hR : R = strT 1 t) (he : R.e = 0) (hs : R.s = o) (hq : p + (1 + R.k) = q) : rv p (tkStr t) = .tuple #[.agg #[.int .i64 5, .int .i64 (p : Int), .int .i64 0, .string (str o)], .int .i64 (q : Int), .int .i64 0] := by
  unfold tkStr
  rw [← hR, if_pos he, rv_ok, hs]
  have : (p : Int) + ((1 + R.k : Nat) : Int) = (q : Int) := by omega
  rw [this]

set_option maxRecDepth 100000 in
set_option maxHeartbeats 8000000 in
theorem rstrung_any (l : List UInt8) (p : Nat) (w : World) (hp : p < l.length) (hl : l.length ≤ 1048576) :
    Calls Tryz.prog 46 #[.string (str l), .int .i64 (p : Int)] w fun e w' => e = .returned (rv p (tkStr (l.drop (p + 1)))) ∧ Below w.heap.size w w' := by
  obtain ⟨i0, hi, hz0, hz1, hz2⟩ := info_parts info8
  obtain ⟨R, hR⟩ : ∃ R, R = strT 1 (l.drop (p + 1)) := ⟨_, rfl⟩
  have HR : Hid (R = Sr.add [] (p + 1 - (p + 1)) (strT 1 (l.drop (p + 1)))) := Lib.hid (by rw [hR]; simp [Sr.add])
  have HRR := Lib.hid hR
  clear hR
  have hF : ∀ (a b : Int) (w : World), Calls Tryz.prog 41 #[.int .i64 a, .int .i64 b] w fun e w' => e = .returned (.tuple #[.agg #[.int .i64 0, .int .i64 0, .int .i64 0, .string ⟨#[]⟩], .int .i64 a, .int .i64 b]) ∧ Below w.heap.size w w' := fun a b w => rfail_any a b w
  have HF := Lib.hid hF
  clear hF
  go_enter Tryz.func46, Tryz.ntmps46
  go_wp2
  go_loopw [7, 8, 9] (fun v dv kv wr => ∃ (k deep : Nat) (out : List UInt8), p + 1 ≤ k ∧ k ≤ l.length ∧ 1 ≤ deep ∧ deep ≤ 32 ∧ dv = .int .i64 (deep : Int) ∧ kv = .int .i64 (k : Int) ∧ out.length ≤ k ∧ Hid (R = Sr.add out (k - (p + 1)) (strT deep (l.drop k))) ∧ wr.ownsRow (w.heap.size + 1) 5 1 v out.length (bvs out) ∧ Below (w.alloc (.cells #[.int .i64 0, .int .i64 0, .int .i64 0, .string ⟨#[]⟩] 42)).heap.size (w.alloc (.cells #[.int .i64 0, .int .i64 0, .int .i64 0, .string ⟨#[]⟩] 42)) wr) (fun _ _ kv _ => l.length - (intOf kv).toNat)
  case atStart => exact ⟨p + 1, 1, [], Nat.le_refl _, by omega, by omega, by omega, rfl, by go_num, by simp, HR, World.ownsRow_nil _ _ _ _, Below.refl _ _⟩
  case round =>
    obtain ⟨k, deep, out, hpk, hk, hd1, hd32, rfl, rfl, hout, HE, hown, hbel⟩ := hrel
    have hsz : w.heap.size + 1 ≤ wr.heap.size := by have := hbel.size; simpa using this
    by_cases hlt : k < l.length
    · obtain ⟨x, hx⟩ : ∃ x, x = l[k]?.getD 0 := ⟨_, rfl⟩
      have hgs : ∀ h, (str l)[k]'h = x := fun h => (get_str l k h).trans hx.symm
      have hx1 := x.toNat_lt
      have hdr := drop_at hlt hx
      have t0 : decide (k < l.length) = true := by simp; omega
      clear hx
      by_cases h92 : x = 92
      · subst h92
        have hs : stp deep (l.drop k) = .go (esB (l.drop (k + 1))) (1 + esN (l.drop (k + 1))) deep := by rw [hdr]; rfl
        have hC : ∀ w, Calls Tryz.prog 68 #[.string (str l), .int .i64 ((k : Int) + 1)] w fun e w' => ∃ v, e = .returned (.tuple #[v, .int .i64 (esN (l.drop (k + 1)) : Nat)]) ∧ EscV w' (esB (l.drop (k + 1))) v ∧ Below w.heap.size w w' := fun w => rescaped_any l (k + 1) w (by omega) (by omega)
        have hnl := esN_le (l.drop (k + 1))
        rw [List.length_drop] at hnl
        by_cases hend : k + 1 = l.length
        · have hd : l.drop (k + 1) = [] := List.drop_eq_nil_of_le (by omega)
          have hr := sr_step HE.out hs hpk
          have en : esN (l.drop (k + 1)) = 0 := by rw [hd]; rfl
          rw [en] at hC
          have hr2 : strT deep (l.drop (k + (1 + esN (l.drop (k + 1))))) = ⟨[], 0, 2⟩ := by rw [en, List.drop_eq_nil_of_le (by omega), strT_stop (k := 0) (e := 2) rfl]
          rw [hr2, en] at hr
          have HV := Lib.hid (rv_no' (p := p) (q := l.length) HRR.out (by rw [hr]; rfl) (by decide : (2 : Int) ≠ 0) (by rw [hr]; simp only [Sr.add]; omega))
          have HC := Lib.hid hC
          clear hC hs hr hr2 hd en hdr hnl HE
          go_wp2_with (first | (go_at_call 68; refine (HC.out _).mono ?_; rintro e w2 ⟨v2, rfl, hev, hb2⟩) | (go_at_call 41; refine (HF.out _ _ _).mono ?_; rintro e w4 ⟨rfl, hb4⟩; obtain ⟨⟨c0, c1, c2, c3⟩, ⟨z0, z1, z2, z3⟩, hlt', hB⟩ := res_of ((hbel.trans (hb2.mono (by simpa using hsz))).trans (hb4.mono (by have := hb2.size; simp; omega))); clear hb4 hb2))
          refine bodyPost_ret (v := _) (by simp [results, Tryz.results46, go_sem, c0, c1, c2, c3]; try rfl) rfl ⟨by rw [HV.out], below_4 hB (Nat.le_refl _) _ _ _ _⟩
        · have hpos := esN_zero (d := l.drop (k + 1)) (by intro e; have := congrArg List.length e; rw [List.length_drop] at this; simp at this; omega)
          have HE2 := Lib.hid (sr_step HE.out hs hpk)
          generalize esB (l.drop (k + 1)) = ob at *
          generalize esN (l.drop (k + 1)) = on' at *
          have t1 : ((on' : Int) == 0) = false := by rw [beq_eq_false_iff_ne]; omega
          have HC := Lib.hid hC
          clear hC hs hdr HE
          go_wp2_with fail
          refine (HC.out _).mono ?_
          rintro e w2 ⟨v2, rfl, hev, hb2⟩
          have hown2 := own_below hown hb2 (Nat.le_refl _)
          have hbel2 := hbel.trans (hb2.mono (by simpa using hsz))
          have hsz2 : w.heap.size + 1 ≤ w2.heap.size := by have := hbel2.size; simpa using this
          clear hb2 hown hbel HC
          rcases hev with ⟨rfl, rfl⟩ | ⟨y, b, rfl, rfl, hbs, hcell⟩
          · rw [List.append_nil] at HE2
            go_wp2_with (at_builtin; refine wpList_append_own_none rfl _ _ _ rfl (w.heap.size + 1) 5 i0 1 Tryz.underlying93 hi _ _ _ rfl hown2 rfl ?_)
            go_roundw
            case rel => exact ⟨k + (1 + on'), deep, out, by omega, by omega, by omega, by omega, by go_num, by go_num, by omega, HE2, hown2, hbel2⟩
            case measure => simp [intOf]; omega
          · go_wp2_with (at_builtin; refine wpList_append_lies _ rfl _ _ _ rfl (w.heap.size + 1) 5 i0 (.int .u8 0) 1 1 Tryz.underlying93 hi hz0 hz1 hz2 rfl (by omega) _ _ _ rfl hown2 ⟨b, 0, none⟩ 1 1 (bvs [y]) rfl rfl (news_one hcell) (bvs_one _) (by omega) (by unfold maxLen; omega) (by omega) hsz2 _ rfl ?_; intro g cap w3 hown3 hgrow hat hgl)
            go_roundw
            case rel => exact ⟨k + (1 + on'), deep, out ++ [y], by omega, by omega, by omega, by omega, by go_num, by go_num, by simp; omega, HE2, own_one y hown3 rfl, hbel2.grown hgrow (by simpa using hsz2) (fun q hq => by have := (hown2.lt q hq).1; simpa using this)⟩
            case measure => simp [intOf]; omega
      · have n92 : ((x.toNat : Int) == 92) = false := byte_ne h92
        by_cases h40 : x = 40
        · subst h40
          by_cases hd : deep = 32
          · subst hd
            have hr := HE.out
            rw [hdr, strT_stop (k := 0) (e := 5) rfl] at hr
            have HV := Lib.hid (rv_no' (p := p) (q := k) HRR.out (by rw [hr]; rfl) (by decide : (5 : Int) ≠ 0) (by rw [hr]; simp only [Sr.add]; omega))
            clear hdr hr HE
            go_wp2_with (go_at_call 41; refine (HF.out _ _ _).mono ?_; rintro e w4 ⟨rfl, hb4⟩; obtain ⟨⟨c0, c1, c2, c3⟩, ⟨z0, z1, z2, z3⟩, hlt', hB⟩ := res_of (hbel.trans (hb4.mono (by simpa using hsz))); clear hb4)
            refine bodyPost_ret (v := _) (by simp [results, Tryz.results46, go_sem, c0, c1, c2, c3]; try rfl) rfl ⟨by rw [HV.out], below_4 hB (Nat.le_refl _) _ _ _ _⟩
          · have hs : stp deep (l.drop k) = .go [40] 1 (deep + 1) := by rw [hdr]; simp [stp, hd]
            have HE2 := Lib.hid (sr_step HE.out hs hpk)
            have td : decide ((32 : Int) < (deep : Int) + 1) = false := by simp; omega
            clear hdr hs HE
            go_wp2_with (at_builtin; refine wpList_append_lies _ rfl _ _ _ rfl (w.heap.size + 1) 5 i0 (.int .u8 0) 1 1 Tryz.underlying93 hi hz0 hz1 hz2 rfl (by omega) _ _ _ rfl (hown.alloc _) ⟨wr.heap.size, 0, none⟩ 1 1 (bvs [40]) rfl rfl (World.news_of_block (heap_alloc_new wr _)) (bvs_one _) (by omega) (by unfold maxLen; omega) (by omega) (by simp; omega) _ rfl ?_; intro g cap w3 hown3 hgrow hat hgl)
            go_roundw
            case rel => exact ⟨k + 1, deep + 1, out ++ [40], by omega, by omega, by omega, by omega, by go_num, by go_num, by simp; omega, HE2, own_one 40 hown3 rfl, (hbel.alloc (by simpa using hsz) _).grown hgrow (by simp; omega) (fun q hq => by have := (hown.lt q hq).1; simpa using this)⟩
            case measure => simp [intOf]; omega
        · have n40 : ((x.toNat : Int) == 40) = false := byte_ne h40
          by_cases h41 : x = 41
          · subst h41
            by_cases hd : deep = 1
            · subst hd
              have hr := HE.out
              rw [hdr, strT_stop (k := 1) (e := 0) rfl] at hr
              have HV := Lib.hid (rv_ok' (p := p) (q := k + 1) (o := out) HRR.out (by rw [hr]; rfl) (by rw [hr]; simp [Sr.add]) (by rw [hr]; simp only [Sr.add]; omega))
              obtain ⟨c', _, hc', A', hv, hsl⟩ := Sl.of_own hown
              subst hv
              have hconv := conv8 hsl c'
              obtain ⟨⟨c0, c1, c2, c3⟩, ⟨z0, z1, z2, z3⟩, hlt0, hB⟩ := res_of hbel
              clear hdr hr HE
              go_wp2
              refine bodyPost_ret (v := _) (by simp [results, Tryz.results46, go_sem, c0, c1, c2, c3]; try rfl) rfl ⟨by rw [HV.out]; congr 5, below_4 hB (Nat.le_refl _) _ _ _ _⟩
            · have hs : stp deep (l.drop k) = .go [41] 1 (deep - 1) := by rw [hdr]; simp [stp, hd]
              have HE2 := Lib.hid (sr_step HE.out hs hpk)
              have td : ((deep : Int) - 1 == 0) = false := by rw [beq_eq_false_iff_ne]; omega
              clear hdr hs HE
              go_wp2_with (at_builtin; refine wpList_append_lies _ rfl _ _ _ rfl (w.heap.size + 1) 5 i0 (.int .u8 0) 1 1 Tryz.underlying93 hi hz0 hz1 hz2 rfl (by omega) _ _ _ rfl (hown.alloc _) ⟨wr.heap.size, 0, none⟩ 1 1 (bvs [41]) rfl rfl (World.news_of_block (heap_alloc_new wr _)) (bvs_one _) (by omega) (by unfold maxLen; omega) (by omega) (by simp; omega) _ rfl ?_; intro g cap w3 hown3 hgrow hat hgl)
              go_roundw
              case rel => exact ⟨k + 1, deep - 1, out ++ [41], by omega, by omega, by omega, by omega, by go_num, by go_num, by simp; omega, HE2, own_one 41 hown3 rfl, (hbel.alloc (by simpa using hsz) _).grown hgrow (by simp; omega) (fun q hq => by have := (hown.lt q hq).1; simpa using this)⟩
              case measure => simp [intOf]; omega
          · have n41 : ((x.toNat : Int) == 41) = false := byte_ne h41
            by_cases h13 : x = 13
            · subst h13
              have hI : ∀ w, Calls Tryz.prog 42 #[.string (str l), .int .i64 ((k : Int) + 1), .int .u8 10] w fun e w' => e = .returned (.bool (isB l (k + 1) 10)) ∧ w = w' := fun w => ris_any l (k + 1) 10 w
              rw [isB_next] at hI
              by_cases hh : (l.drop (k + 1)).head? = some 10
              · have hs : stp deep (l.drop k) = .go [10] 2 deep := by
                  rw [hdr]
                  have h2 : len (13 :: l.drop (k + 1)) = 2 := by rw [len_ret, if_pos hh]
                  have : stp deep (13 :: l.drop (k + 1)) = .go [10] (len (13 :: l.drop (k + 1))) deep := rfl
                  rw [this, h2]
                have hk2 : k + 2 ≤ l.length := by
                  have := stp_le hs
                  rw [List.length_drop] at this
                  omega
                rw [decide_eq_true hh] at hI
                have HI := Lib.hid hI
                have HE2 := Lib.hid (sr_step HE.out hs hpk)
                clear hdr hs HE hI hh
                go_wp2_with (first | (go_at_call 42; refine (HI.out _).mono ?_; rintro e w' ⟨rfl, rfl⟩) | (at_builtin; refine wpList_append_lies _ rfl _ _ _ rfl (w.heap.size + 1) 5 i0 (.int .u8 0) 1 1 Tryz.underlying93 hi hz0 hz1 hz2 rfl (by omega) _ _ _ rfl (hown.alloc _) ⟨wr.heap.size, 0, none⟩ 1 1 (bvs [10]) rfl rfl (World.news_of_block (heap_alloc_new wr _)) (bvs_one _) (by omega) (by unfold maxLen; omega) (by omega) (by simp; omega) _ rfl ?_; intro g cap w3 hown3 hgrow hat hgl))
                go_roundw
                case rel => exact ⟨k + 2, deep, out ++ [10], by omega, by omega, by omega, by omega, by go_num, by go_num, by simp; omega, HE2, own_one 10 hown3 rfl, (hbel.alloc (by simpa using hsz) _).grown hgrow (by simp; omega) (fun q hq => by have := (hown.lt q hq).1; simpa using this)⟩
                case measure => simp [intOf]; omega
              · have hs : stp deep (l.drop k) = .go [10] 1 deep := by
                  rw [hdr]
                  have h2 : len (13 :: l.drop (k + 1)) = 1 := by rw [len_ret, if_neg hh]
                  have : stp deep (13 :: l.drop (k + 1)) = .go [10] (len (13 :: l.drop (k + 1))) deep := rfl
                  rw [this, h2]
                rw [decide_eq_false hh] at hI
                have HI := Lib.hid hI
                have HE2 := Lib.hid (sr_step HE.out hs hpk)
                clear hdr hs HE hI hh
                go_wp2_with (first | (go_at_call 42; refine (HI.out _).mono ?_; rintro e w' ⟨rfl, rfl⟩) | (at_builtin; refine wpList_append_lies _ rfl _ _ _ rfl (w.heap.size + 1) 5 i0 (.int .u8 0) 1 1 Tryz.underlying93 hi hz0 hz1 hz2 rfl (by omega) _ _ _ rfl (hown.alloc _) ⟨wr.heap.size, 0, none⟩ 1 1 (bvs [10]) rfl rfl (World.news_of_block (heap_alloc_new wr _)) (bvs_one _) (by omega) (by unfold maxLen; omega) (by omega) (by simp; omega) _ rfl ?_; intro g cap w3 hown3 hgrow hat hgl))
                go_roundw
                case rel => exact ⟨k + 1, deep, out ++ [10], by omega, by omega, by omega, by omega, by go_num, by go_num, by simp; omega, HE2, own_one 10 hown3 rfl, (hbel.alloc (by simpa using hsz) _).grown hgrow (by simp; omega) (fun q hq => by have := (hown.lt q hq).1; simpa using this)⟩
                case measure => simp [intOf]; omega
            · have n13 : ((x.toNat : Int) == 13) = false := byte_ne h13
              have hs : stp deep (l.drop k) = .go [x] 1 deep := by rw [hdr]; simp [stp, h40, h41, h92, h13]
              have HE2 := Lib.hid (sr_step HE.out hs hpk)
              clear hdr hs HE
              go_wp2_with (at_builtin; refine wpList_append_lies _ rfl _ _ _ rfl (w.heap.size + 1) 5 i0 (.int .u8 0) 1 1 Tryz.underlying93 hi hz0 hz1 hz2 rfl (by omega) _ _ _ rfl (hown.alloc _) ⟨wr.heap.size, 0, none⟩ 1 1 (bvs [x]) rfl rfl (World.news_of_block (heap_alloc_new wr _)) (bvs_one _) (by omega) (by unfold maxLen; omega) (by omega) (by simp; omega) _ rfl ?_; intro g cap w3 hown3 hgrow hat hgl)
              go_roundw
              case rel => exact ⟨k + 1, deep, out ++ [x], by omega, by omega, by omega, by omega, by go_num, by go_num, by simp; omega, HE2, own_one x hown3 rfl, (hbel.alloc (by simpa using hsz) _).grown hgrow (by simp; omega) (fun q hq => by have := (hown.lt q hq).1; simpa using this)⟩
              case measure => simp [intOf]; omega
    · have t0 : decide (k < l.length) = false := by simp; omega
      have hr := HE.out
      rw [List.drop_eq_nil_of_le (by omega), strT_stop (k := 0) (e := 2) rfl] at hr
      have HV := Lib.hid (rv_no' (p := p) (q := l.length) HRR.out (by rw [hr]; rfl) (by decide : (2 : Int) ≠ 0) (by rw [hr]; simp only [Sr.add]; omega))
      clear hr HE
      go_wp2_with (go_at_call 41; refine (HF.out _ _ _).mono ?_; rintro e w4 ⟨rfl, hb4⟩; obtain ⟨⟨c0, c1, c2, c3⟩, ⟨z0, z1, z2, z3⟩, hlt', hB⟩ := res_of (hbel.trans (hb4.mono (by simpa using hsz))); clear hb4)
      refine bodyPost_ret (v := _) (by simp [results, Tryz.results46, go_sem, c0, c1, c2, c3]; try rfl) rfl ⟨by rw [HV.out], below_4 hB (Nat.le_refl _) _ _ _ _⟩
end Go.Proofs.YthcnjiigkmljnaaGreatDoor
/-
  The document's own Skip.
-/
namespace Go.Proofs.YthcnjiigkmljnaaGreatDoor
open Go.RowKit

theorem cb_one (x : UInt8) : (cb x == 1) = wh x := by
  cases hw : wh x with
  | true =>
    have hk : kz (x.toNat : Int) = 1 := by simpa [wh, kb] using hw
    have hd : ¬ dl (x.toNat : Int) := fun hd => by have := dl_white hd; rw [hk] at this; cases this
    simp [cb, cls, hd, hk]
  | false =>
    have hk : ¬ kz (x.toNat : Int) = 1 := by simpa [wh, kb] using hw
    by_cases hd : dl (x.toNat : Int) <;> simp [cb, cls, hd, hk]
theorem nl_int (x : UInt8) : (((x.toNat : Int) != 10) && ((x.toNat : Int) != 13)) = !nl x := by
  have h1 : ((x.toNat : Int) != 10) = !(x == 10) := by
    cases h : x == 10 with
    | true => rw [beq_iff_eq] at h; subst h; rfl
    | false => rw [beq_eq_false_iff_ne] at h; simp; intro e; exact h (eq_of_toNat (by show x.toNat = 10; omega))
  have h2 : ((x.toNat : Int) != 13) = !(x == 13) := by
    cases h : x == 13 with
    | true => rw [beq_iff_eq] at h; subst h; rfl
    | false => rw [beq_eq_false_iff_ne] at h; simp; intro e; exact h (eq_of_toNat (by show x.toNat = 13; omega))
  rw [h1, h2]
  unfold nl
  cases x == 10 <;> cases x == 13 <;> rfl

set_option maxHeartbeats 2000000 in
theorem rSkip_any (l : List UInt8) (a : Int) (w : World) (hl : l.length ≤ 1073741824) :
    Calls Tryz.prog 40 #[.string (str l), .int .i64 a] w fun e w' => e = .returned (.int .i64 (skN l a : Nat)) ∧ w = w' := by
  have hp := pl_le l.length a
  have hW : ∀ w, Calls Tryz.prog 64 #[.string (str l), .int .i64 a] w fun e w' => e = .returned (.int .i64 (pl l.length a : Nat)) ∧ w = w' := fun w => rplace_any l a w
  have hn : skN l a = pl l.length a + sk false (l.drop (pl l.length a)) := rfl
  generalize skN l a = N at *
  generalize pl l.length a = p at *
  have HW := Lib.hid hW
  have HN := Lib.hid hn
  clear hW hn
  go_enter Tryz.func40, Tryz.ntmps40
  go_wp2_with (go_at_call 64; refine (HW.out _).mono ?_; rintro e w' ⟨rfl, rfl⟩)
  go_loop [5, 6] (fun b i => ∃ (k : Nat) (r : Bool), k ≤ l.length ∧ i = .int .i64 k ∧ b = .bool r ∧ Hid (k + sk r (l.drop k) = N)) (fun _ i => l.length - (intOf i).toNat)
  case atStart => exact ⟨p, false, hp, rfl, rfl, HN.out.symm⟩
  case round =>
    obtain ⟨k, r, hk, rfl, rfl, HE⟩ := hrel
    by_cases hlt : k < l.length
    · obtain ⟨x, hx⟩ : ∃ x, x = l[k]?.getD 0 := ⟨_, rfl⟩
      have hgs : ∀ h, (str l)[k]'h = x := fun h => (get_str l k h).trans hx.symm
      have hx1 := x.toNat_lt
      have hdr := drop_at hlt hx
      cases r with
      | true =>
        have hst : (k + 1) + sk (!nl x) (l.drop (k + 1)) = N := by have := HE.out; rw [hdr, sk_t] at this; omega
        have HS := Lib.hid hst
        have hnl := nl_int x
        have HL := Lib.hid hnl
        clear hx hdr hst hnl
        by_cases h10 : ((x.toNat : Int) != 10) = true
        · go_wp2
          go_round
          case rel => exact ⟨k + 1, !nl x, by omega, by go_num, by have := HL.out; rw [h10, Bool.true_and] at this; first | rw [← this] | rw [this], HS⟩
          case measure => simp [intOf]; omega
        · have h10' : ((x.toNat : Int) != 10) = false := by simpa using h10
          clear h10
          go_wp2
          go_round
          case rel => exact ⟨k + 1, !nl x, by omega, by go_num, by have := HL.out; rw [h10', Bool.false_and] at this; first | rw [← this] | rw [this], HS⟩
          case measure => simp [intOf]; omega
      | false =>
        by_cases h37 : x = 37
        · have t1 : ((x.toNat : Int) == 37) = true := by rw [h37]; rfl
          have hst : (k + 1) + sk true (l.drop (k + 1)) = N := by have := HE.out; rw [hdr, h37, sk_rem] at this; omega
          have HS := Lib.hid hst
          clear hx hdr hst h37
          go_wp2
          go_round
          case rel => exact ⟨k + 1, true, by omega, by go_num, rfl, HS⟩
          case measure => simp [intOf]; omega
        · have t1 := ne37.2 h37
          have hc1 := cb_one x
          have hC : ∀ w, Calls Tryz.prog 65 #[.int .i64 (x.toNat : Int)] w fun e w' => e = .returned (.int .i64 (cb x)) ∧ w = w' := fun w => rClass_any _ w
          have HC := Lib.hid hC
          cases hw : wh x with
          | true =>
            have hst : (k + 1) + sk false (l.drop (k + 1)) = N := by have := HE.out; rw [hdr, sk_wh _ h37 hw] at this; omega
            have HS := Lib.hid hst
            rw [hw] at hc1
            have hc2 : (cb x != 1) = false := by unfold bne; rw [hc1]; rfl
            clear hx hdr hC hst h37 hw hc1
            generalize cb x = cx at *
            go_wp2_with (go_at_call 65; refine (HC.out _).mono ?_; rintro e w' ⟨rfl, rfl⟩)
            go_round
            case rel => exact ⟨k + 1, false, by omega, by go_num, rfl, HS⟩
            case measure => simp [intOf]; omega
          | false =>
            have hkN : k = N := by have := HE.out; rw [hdr, sk_no _ h37 hw] at this; omega
            subst hkN
            rw [hw] at hc1
            have hc2 : (cb x != 1) = true := by unfold bne; rw [hc1]; rfl
            clear hx hdr hC h37 hw hc1
            generalize cb x = cx at *
            go_wp2_with (go_at_call 65; refine (HC.out _).mono ?_; rintro e w' ⟨rfl, rfl⟩)
            go_ret
            exact ⟨rfl, rfl⟩
    · have hkN : N = l.length := by have := HE.out; rw [List.drop_eq_nil_of_le (by omega), sk_nil] at this; omega
      have HNL := Lib.hid hkN
      clear hkN
      go_wp2
      go_ret
      rw [HNL.out]
      exact ⟨rfl, rfl⟩
end Go.Proofs.YthcnjiigkmljnaaGreatDoor
/-
  The document's own Name (layer 3).
-/
namespace Go.Proofs.YthcnjiigkmljnaaGreatDoor
open Go.RowKit

set_option maxHeartbeats 4000000 in
theorem rName_any (l : List UInt8) (w : World) (hl : l.length ≤ 65536) :
    Calls Tryz.prog 44 #[.string (str l)] w fun e w' => e = .returned (.string (str (nameL l))) ∧ Below w.heap.size w w' := by
  obtain ⟨i0, hi, hz0, hz1, hz2⟩ := info_parts info8
  go_enter Tryz.func44, Tryz.ntmps44
  go_wp2
  go_loopw [3, 4] (fun v i wr => ∃ (k : Nat) (out : List UInt8), k ≤ l.length ∧ out.length ≤ k ∧ i = .int .i64 k ∧ Hid (out ++ nameL (l.drop k) = nameL l) ∧ wr.ownsRow w.heap.size 5 1 v out.length (bvs out) ∧ Below w.heap.size w wr) (fun _ i _ => l.length - (intOf i).toNat)
  case atStart => exact ⟨0, [], Nat.zero_le _, Nat.zero_le _, rfl, Lib.hid (by simp), by simpa [bvs] using World.ownsRow_nil _ _ _ _, Below.refl _ _⟩
  case round =>
    obtain ⟨k, out, hk, hout, rfl, HE, hown, hbel⟩ := hrel
    have hsz := hbel.size
    by_cases hlt : k < l.length
    · obtain ⟨x, hx⟩ : ∃ x, x = l[k]?.getD 0 := ⟨_, rfl⟩
      have hgs : ∀ h, (str l)[k]'h = x := fun h => (get_str l k h).trans hx.symm
      have hx1 := x.toNat_lt
      by_cases hc : x = 35
      · have t1 : ((x.toNat : Int) == 35) = true := by rw [hc]; rfl
        by_cases h2 : k + 2 < l.length
        · have t2 : decide ((k : Int) + 2 < (l.length : Int)) = true := by simp; omega
          obtain ⟨a, ha⟩ : ∃ a, a = l[k + 1]?.getD 0 := ⟨_, rfl⟩
          obtain ⟨b, hb⟩ : ∃ b, b = l[k + 2]?.getD 0 := ⟨_, rfl⟩
          have hga : ∀ h, (str l)[k + 1]'h = a := fun h => (get_str l (k + 1) h).trans ha.symm
          have hgb : ∀ h, (str l)[k + 2]'h = b := fun h => (get_str l (k + 2) h).trans hb.symm
          have a1 := a.toNat_lt
          have b1 := b.toNat_lt
          have ia1 : ((k : Int) + 1).toNat = k + 1 := by omega
          have ib1 : ((k : Int) + 2).toNat = k + 2 := by omega
          have ja0 : (0 : Int) ≤ (k : Int) + 1 := by omega
          have jb0 : (0 : Int) ≤ (k : Int) + 2 := by omega
          have ja : (k : Int) + 1 < (l.length : Int) := by omega
          have jb : (k : Int) + 2 < (l.length : Int) := by omega
          have he := esc_at h2 hx ha hb
          by_cases hka : 2 ≤ kz (a.toNat : Int)
          · by_cases hkb : 2 ≤ kz (b.toNat : Int)
            · obtain ⟨p, hp⟩ : ∃ p : Nat, kz (a.toNat : Int) - 2 = (p : Int) := ⟨(kz (a.toNat : Int) - 2).toNat, by omega⟩
              obtain ⟨q, hq⟩ : ∃ q : Nat, kz (b.toNat : Int) - 2 = (q : Int) := ⟨(kz (b.toNat : Int) - 2).toNat, by omega⟩
              have hp16 : p < 16 := by have := kz_bounds (a.toNat : Int); omega
              have hq16 : q < 16 := by have := kz_bounds (b.toNat : Int); omega
              have hv : (16 * (kb a - 2).toNat + (kb b - 2).toNat) = 16 * p + q := by
                have e1 : kb a - 2 = (p : Int) := hp
                have e2 : kb b - 2 = (q : Int) := hq
                rw [e1, e2]; omega
              obtain ⟨y, hy⟩ : ∃ y, y = UInt8.ofNat (16 * p + q) := ⟨_, rfl⟩
              have hyv : 16 * (p : Int) + (q : Int) = (y.toNat : Int) := by rw [hy, UInt8.toNat_ofNat_of_lt' (by show _ < 256; omega)]; omega
              have hy1 := y.toNat_lt
              have hst := name_yes hlt (he.trans ((if_pos ⟨hc, hka, hkb⟩).trans (by rw [hv, ← hy]))) HE.out
              have hk3 := hst.1
              have HS := Lib.hid hst.2
              have hA : ∀ w, Calls Tryz.prog 66 #[.int .i64 (a.toNat : Int)] w fun e w' => e = .returned (.tuple #[.int .i64 (p : Int), .bool true]) ∧ w = w' := fun w => by rw [← hp]; exact rDigit_yes _ w hka
              have hB : ∀ w, Calls Tryz.prog 66 #[.int .i64 (b.toNat : Int)] w fun e w' => e = .returned (.tuple #[.int .i64 (q : Int), .bool true]) ∧ w = w' := fun w => by rw [← hq]; exact rDigit_yes _ w hkb
              have HA := Lib.hid hA
              have HB := Lib.hid hB
              clear hx hst he hA hB hka hkb hp hq hv hy ha hb hc
              go_wp2_with fail
              refine (HA.out _).mono ?_
              rintro e w' ⟨rfl, rfl⟩
              go_wp2_with fail
              refine (HB.out _).mono ?_
              rintro e w' ⟨rfl, rfl⟩
              go_wp2_with (at_builtin; refine wpList_append_lies _ rfl _ _ _ rfl w.heap.size 5 i0 (.int .u8 0) 1 1 Tryz.underlying93 hi hz0 hz1 hz2 rfl (by omega) u3 _ _ rfl (hown.alloc _) ⟨wr.heap.size, 0, none⟩ 1 1 (bvs [y]) rfl rfl (World.news_of_block (heap_alloc_new wr _)) (bvs_one _) (by omega) (by unfold maxLen; omega) (by omega) (by simp; omega) _ rfl ?_; intro g cap w3 hown3 hgrow hat hgl)
              go_roundw
              case rel => exact ⟨k + 3, out ++ [y], by omega, by simp; omega, by go_num, HS, own_byte hown3 rfl, (hbel.alloc hsz _).grown hgrow (by simp; omega) (fun q hq => (hown.lt q hq).1)⟩
              case measure => simp [intOf]; omega
            · have hst := name_no hlt hx (he.trans (if_neg fun h => hkb h.2.2)) HE.out
              have HS := Lib.hid hst
              clear hx hst he ha hb hc
              go_wp2_with fail
              refine (rDigit_yes _ _ hka).mono ?_
              rintro e w' ⟨rfl, rfl⟩
              go_wp2_with fail
              refine (rDigit_no _ _ (by omega)).mono ?_
              rintro e w' ⟨rfl, rfl⟩
              go_wp2_with (at_builtin; refine wpList_append_lies _ rfl _ _ _ rfl w.heap.size 5 i0 (.int .u8 0) 1 1 Tryz.underlying93 hi hz0 hz1 hz2 rfl (by omega) u3 _ _ rfl (hown.alloc _) ⟨wr.heap.size, 0, none⟩ 1 1 (bvs [x]) rfl rfl (World.news_of_block (heap_alloc_new wr _)) (bvs_one _) (by omega) (by unfold maxLen; omega) (by omega) (by simp; omega) _ rfl ?_; intro g cap w3 hown3 hgrow hat hgl)
              go_roundw
              case rel => exact ⟨k + 1, out ++ [x], by omega, by simp; omega, by go_num, HS, own_byte hown3 rfl, (hbel.alloc hsz _).grown hgrow (by simp; omega) (fun q hq => (hown.lt q hq).1)⟩
              case measure => simp [intOf]; omega
          · have hst := name_no hlt hx (he.trans (if_neg fun h => hka h.2.1)) HE.out
            have HS := Lib.hid hst
            obtain ⟨m, t, hD⟩ : ∃ (m : Int) (t : Bool), ∀ w, Calls Tryz.prog 66 #[.int .i64 (b.toNat : Int)] w fun e w' => e = .returned (.tuple #[.int .i64 m, .bool t]) ∧ w = w' := by
              by_cases h : 2 ≤ kz (b.toNat : Int)
              · exact ⟨_, true, fun w => rDigit_yes _ w h⟩
              · exact ⟨_, false, fun w => rDigit_no _ w (by omega)⟩
            have HD := Lib.hid hD
            clear hx hst he ha hb hc hD
            go_wp2_with fail
            refine (rDigit_no _ _ (by omega)).mono ?_
            rintro e w' ⟨rfl, rfl⟩
            go_wp2_with fail
            refine (HD.out _).mono ?_
            rintro e w' ⟨rfl, rfl⟩
            go_wp2_with (at_builtin; refine wpList_append_lies _ rfl _ _ _ rfl w.heap.size 5 i0 (.int .u8 0) 1 1 Tryz.underlying93 hi hz0 hz1 hz2 rfl (by omega) u3 _ _ rfl (hown.alloc _) ⟨wr.heap.size, 0, none⟩ 1 1 (bvs [x]) rfl rfl (World.news_of_block (heap_alloc_new wr _)) (bvs_one _) (by omega) (by unfold maxLen; omega) (by omega) (by simp; omega) _ rfl ?_; intro g cap w3 hown3 hgrow hat hgl)
            go_roundw
            case rel => exact ⟨k + 1, out ++ [x], by omega, by simp; omega, by go_num, HS, own_byte hown3 rfl, (hbel.alloc hsz _).grown hgrow (by simp; omega) (fun q hq => (hown.lt q hq).1)⟩
            case measure => simp [intOf]; omega
        · have t2 : decide ((k : Int) + 2 < (l.length : Int)) = false := by simp; omega
          have hst := name_no hlt hx (esc_short (by rw [List.length_drop]; omega)) HE.out
          have HS := Lib.hid hst
          clear hx hst hc
          go_wp2_with (at_builtin; refine wpList_append_lies _ rfl _ _ _ rfl w.heap.size 5 i0 (.int .u8 0) 1 1 Tryz.underlying93 hi hz0 hz1 hz2 rfl (by omega) u3 _ _ rfl (hown.alloc _) ⟨wr.heap.size, 0, none⟩ 1 1 (bvs [x]) rfl rfl (World.news_of_block (heap_alloc_new wr _)) (bvs_one _) (by omega) (by unfold maxLen; omega) (by omega) (by simp; omega) _ rfl ?_; intro g cap w3 hown3 hgrow hat hgl)
          go_roundw
          case rel => exact ⟨k + 1, out ++ [x], by omega, by simp; omega, by go_num, HS, own_byte hown3 rfl, (hbel.alloc hsz _).grown hgrow (by simp; omega) (fun q hq => (hown.lt q hq).1)⟩
          case measure => simp [intOf]; omega
      · have t1 := ne35.2 hc
        have he : esc (l.drop k) = none := by
          cases h : esc (l.drop k) with
          | none => rfl
          | some v => rw [drop_at hlt hx] at h; exact absurd (esc_len h).2 hc
        have hst := name_no hlt hx he HE.out
        have HS := Lib.hid hst
        clear hx hst hc he
        go_wp2_with (at_builtin; refine wpList_append_lies _ rfl _ _ _ rfl w.heap.size 5 i0 (.int .u8 0) 1 1 Tryz.underlying93 hi hz0 hz1 hz2 rfl (by omega) u3 _ _ rfl (hown.alloc _) ⟨wr.heap.size, 0, none⟩ 1 1 (bvs [x]) rfl rfl (World.news_of_block (heap_alloc_new wr _)) (bvs_one _) (by omega) (by unfold maxLen; omega) (by omega) (by simp; omega) _ rfl ?_; intro g cap w3 hown3 hgrow hat hgl)
        go_roundw
        case rel => exact ⟨k + 1, out ++ [x], by omega, by simp; omega, by go_num, HS, own_byte hown3 rfl, (hbel.alloc hsz _).grown hgrow (by simp; omega) (fun q hq => (hown.lt q hq).1)⟩
        case measure => simp [intOf]; omega
    · have he : out = nameL l := by
        have := HE.out
        rw [List.drop_eq_nil_of_le (by omega), nameL_nil] at this
        simpa using this
      subst he
      obtain ⟨c', _, hc', A', hv, hsl⟩ := Sl.of_own hown
      subst hv
      have hconv := conv8 hsl c'
      go_wp2
      go_ret
      exact ⟨rfl, hbel⟩
end Go.Proofs.YthcnjiigkmljnaaGreatDoor
