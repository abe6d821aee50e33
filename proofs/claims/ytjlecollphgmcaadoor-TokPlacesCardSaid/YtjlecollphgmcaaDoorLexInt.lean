/-
  lex.Int: a sign and digits, as a number.
-/
import Derived.Test.YtjlecollphgmcaaDoorLexPure
import Derived.Test.YtjlecollphgmcaaDoorStrPre
import Derived.Test.YtjlecollphgmcaaDoorConv
namespace Go.Proofs.YtjlecollphgmcaaDoor
open Go.RowKit

theorem pre_minus (l : List UInt8) : preB l [45] = ng l := by
  cases l with
  | nil => rfl
  | cons b t => simp [preB, ng]
theorem cut_minus {l : List UInt8} (h : ng l = true) : cutL l [45] = bd l := by
  cases l with
  | nil => cases h
  | cons b t =>
    have hb : (b == 45) = true := h
    have hp : preB (b :: t) [45] = true := (pre_minus _).trans h
    simp [cutL, hp, bd, hb]
theorem cut_plus {l : List UInt8} (h : ng l = false) : cutL l [43] = bd l := by
  cases l with
  | nil => rfl
  | cons b t =>
    have hb : (b == 45) = false := h
    have hp : preB (b :: t) [43] = (b == 43) := by simp [preB]
    show (if preB (b :: t) [43] then _ else _) = (if b == 45 || b == 43 then t else b :: t)
    rw [hp, hb]
    cases b == 43 <;> rfl

set_option maxHeartbeats 1000000 in
theorem unsigned_any (l : List UInt8) (w : World) :
    Calls Tryd.prog 55 #[.string (str l)] w fun e w' => e = .returned (.tuple #[.string (str (bd l)), .int .i64 (sgn l)]) ∧ w = w' := by
  have hC : ∀ w, Calls Tryd.prog 64 #[.string (str l), .string (ByteArray.mk #[45])] w fun e w' => e = .returned (.tuple #[.string (str (cutL l [45])), .bool (preB l [45])]) ∧ w = w' := fun w => CutPrefix_any l [45] w
  have hT : ∀ w, Calls Tryd.prog 65 #[.string (str l), .string (ByteArray.mk #[43])] w fun e w' => e = .returned (.string (str (cutL l [43]))) ∧ w = w' := fun w => TrimPrefix_any l [43] w
  rw [pre_minus] at hC
  cases hn : ng l with
  | true =>
    have e : sgn l = -1 := by simp [sgn, hn]
    rw [e]
    rw [cut_minus hn, hn] at hC
    have HC := Lib.hid hC
    clear hC hT e hn
    generalize bd l = d at *
    go_enter Tryd.func55, Tryd.ntmps55
    go_wp2_with (go_at_call 64; refine (HC.out _).mono ?_; rintro e w' ⟨rfl, rfl⟩)
    go_ret2
    exact ⟨rfl, rfl⟩
  | false =>
    have e : sgn l = 1 := by simp [sgn, hn]
    rw [e]
    rw [hn] at hC
    rw [cut_plus hn] at hT
    generalize cutL l [45] = c at *
    have HC := Lib.hid hC
    have HT := Lib.hid hT
    clear hC hT e hn
    generalize bd l = d at *
    go_enter Tryd.func55, Tryd.ntmps55
    go_wp2_with (first | (go_at_call 64; refine (HC.out _).mono ?_; rintro e w' ⟨rfl, rfl⟩) | (go_at_call 65; refine (HT.out _).mono ?_; rintro e w' ⟨rfl, rfl⟩))
    go_ret2
    exact ⟨rfl, rfl⟩

theorem val_take {d : List UInt8} {k : Nat} {x : UInt8} (h : k < d.length) (hx : x = d[k]?.getD 0) : val (d.take (k + 1)) = val (d.take k) * 10 + (x.toNat - 48) := by rw [take_at h hx, val_snoc]
theorem all_take {d : List UInt8} {k : Nat} {x : UInt8} (h : k < d.length) (hx : x = d[k]?.getD 0) (ha : (d.take k).all dg = true) (hg : dg x = true) : (d.take (k + 1)).all dg = true := by rw [take_at h hx, List.all_append, ha]; simp [hg]
theorem all_bad {d : List UInt8} {k : Nat} {x : UInt8} (h : k < d.length) (hx : x = d[k]?.getD 0) (hg : dg x = false) : okD d = false := by
  have hm : x ∈ d := by rw [hx, List.getElem?_eq_getElem h]; exact List.getElem_mem _
  have : d.all dg = false := List.all_eq_false.2 ⟨x, hm, by simp [hg]⟩
  simp [okD, this]
theorem inR_false {v : Int} : inR v = false ↔ v < -2147483648 ∨ 2147483647 < v := by simp only [inR, Bool.and_eq_false_iff, decide_eq_false_iff_not]; omega
theorem inR_true {v : Int} : inR v = true ↔ -2147483648 ≤ v ∧ v ≤ 2147483647 := by simp only [inR, Bool.and_eq_true, decide_eq_true_eq]

theorem inR_or (v : Int) : (decide (v < -2147483648) || decide (2147483647 < v)) = !inR v := by
  cases h : inR v with
  | true => rw [inR_true] at h; simp; omega
  | false => rw [inR_false] at h; simp; omega

set_option maxRecDepth 100000 in
set_option maxHeartbeats 2000000 in
theorem Int_any (l : List UInt8) (w : World) (hl : l.length ≤ 4294967296) :
    Calls Tryd.prog 40 #[.string (str l)] w fun e w' => e = .returned (.tuple #[.int .i64 (inN l), .int .i64 (inE l)]) ∧ Below w.heap.size w w' := by
  have hU : ∀ w, Calls Tryd.prog 55 #[.string (str l)] w fun e w' => e = .returned (.tuple #[.string (str (bd l)), .int .i64 (sgn l)]) ∧ w = w' := fun w => unsigned_any l w
  have HU := Lib.hid hU
  have hdl := bd_le l
  have hform : okD (bd l) = false → inN l = 0 ∧ inE l = 3 := in_form
  have hbig : okD (bd l) = true → inR (sgn l * (val (bd l) : Int)) = false → inN l = 0 ∧ inE l = 4 := in_big
  have hok : okD (bd l) = true → inR (sgn l * (val (bd l) : Int)) = true → inN l = sgn l * (val (bd l) : Int) ∧ inE l = 0 := in_ok
  have hsg := sgn_cases l
  generalize inN l = rN at *
  generalize inE l = rE at *
  generalize sgn l = sg at *
  obtain ⟨d, hd⟩ : ∃ d, d = bd l := ⟨_, rfl⟩
  rw [← hd] at HU hform hbig hok hdl
  have HF := Lib.hid hform
  have HG := Lib.hid hbig
  have HO := Lib.hid hok
  have HS := Lib.hid hsg
  clear hU hform hbig hok hsg hd
  by_cases hne : d = []
  · have e := HF.out (by rw [hne]; rfl)
    have t1 : (d == []) = true := by rw [hne]; rfl
    rw [e.1, e.2]
    clear e
    subst hne
    go_enter Tryd.func40, Tryd.ntmps40
    go_wp2_with (go_at_call 55; refine (HU.out _).mono ?_; rintro e w' ⟨rfl, rfl⟩)
    go_ret2
    exact ⟨rfl, Below.refl _ _⟩
  · obtain ⟨cap, w1, hcv, hcell, _, hb1, hsz1, hcap⟩ := run_bytes (P := Tryd.prog) w 9 35 5 d Tryd.underlying9 Tryd.underlying35 Tryd.underlying5
    have t1 : d.isEmpty = false := by simpa using hne
    have HC := Lib.hid hcell
    have HNE := Lib.hid hne
    clear hcell hne
    go_enter Tryd.func40, Tryd.ntmps40
    go_wp2_with (go_at_call 55; refine (HU.out _).mono ?_; rintro e w' ⟨rfl, rfl⟩)
    go_loopw [6, 7, 20] (fun n b i wr => ∃ (k : Nat) (N : Int) (B : Bool), k ≤ d.length ∧ n = .int .i64 N ∧ b = .bool B ∧ i = .int .i64 k ∧ Hid ((d.take k).all dg = true) ∧ Hid (B = false → N = sg * (val (d.take k) : Int) ∧ inR N = true) ∧ Hid (B = true → inR (sg * (val (d.take k) : Int)) = false) ∧ wr = w1) (fun _ _ i _ => d.length - (intOf i).toNat)
    case atStart => exact ⟨0, 0, false, Nat.zero_le _, rfl, rfl, rfl, by rfl, fun _ => ⟨by simp [val, valF], by decide⟩, (fun h => by cases h), rfl⟩
    case round =>
      obtain ⟨k, N, B, hk, rfl, rfl, rfl, HA, HB, HT, rfl⟩ := hrel
      by_cases hlt : k < d.length
      · obtain ⟨x, hx⟩ : ∃ x, x = d[k]?.getD 0 := ⟨_, rfl⟩
        have hcl : wr.cell? ⟨w.heap.size, k, none⟩ = some (.int .u8 (x.toNat : Int)) := by rw [hx]; exact HC.out k hlt
        have hx1 := x.toNat_lt
        have HX := Lib.hid hx
        clear hx
        cases hg : dg x with
        | false =>
          have e := HF.out (all_bad hlt HX.out hg)
          have hx48 : decide ((x.toNat : Int) < 48) = true ∨ (decide ((x.toNat : Int) < 48) = false ∧ decide ((57 : Int) < (x.toNat : Int)) = true) := by
            have : ¬ (48 ≤ x.toNat ∧ x.toNat ≤ 57) := fun h => by rw [dg_iff.2 h] at hg; cases hg
            simp; omega
          rcases hx48 with t2 | ⟨t2, t3⟩
          · go_wp2
            go_ret2
            rw [e.1, e.2]
            exact ⟨rfl, hb1⟩
          · go_wp2
            go_ret2
            rw [e.1, e.2]
            exact ⟨rfl, hb1⟩
        | true =>
          have hd1 := (dg_iff.1 hg).1
          have hd2 := (dg_iff.1 hg).2
          have t2 : decide ((x.toNat : Int) < 48) = false := by simp; omega
          have t3 : decide ((57 : Int) < (x.toNat : Int)) = false := by simp; omega
          have hat := all_take hlt HX.out HA.out hg
          have hvt := val_take hlt HX.out
          have HA2 := Lib.hid hat
          have HV := Lib.hid hvt
          clear hat hvt hg
          cases B with
          | true =>
            go_wp2
            go_roundw
            case rel =>
              refine ⟨k + 1, N, true, by omega, rfl, rfl, by go_num, HA2, (fun h => by cases h), fun _ => ?_, by first | rfl | trivial⟩
              have h1 := HT.out rfl
              rw [inR_false] at h1 ⊢
              rw [HV.out]
              rcases HS.out with rfl | rfl <;> omega
            case measure => simp [intOf]; omega
          | false =>
            obtain ⟨hN, hNR⟩ := HB.out rfl
            rw [inR_true] at hNR
            obtain ⟨hN0, hN1⟩ := hNR
            have HN := Lib.hid hN
            clear hN
            obtain ⟨M, hM⟩ : ∃ M, M = sg * (val (d.take (k + 1)) : Int) := ⟨_, rfl⟩
            have hM1 : M = N * 10 + sg * ((x.toNat : Int) - 48) := by
              have h1 := HN.out
              rw [hM, HV.out]
              rcases HS.out with e | e <;> rw [e] at h1 ⊢ <;> omega
            have hMb : -40000000000 ≤ M ∧ M ≤ 40000000000 := by rcases HS.out with e | e <;> rw [e] at hM1 <;> omega
            have HM := Lib.hid hM
            have hw : IntKind.i64.wrap (N * 10 + sg * ((x.toNat : Int) - 48)) = M := by rw [← hM1]; exact IntWalk.i64_in _ (by omega)
            clear hM
            rcases HS.out with e | e
            · subst e
              have hM2 : N * 10 + ((x.toNat : Int) - 48) = M := by omega
              clear hw hM1
              go_wp2
              · go_roundw
                case rel => exact ⟨k + 1, M, decide (M < -2147483648) || decide (2147483647 < M), by omega, rfl, rfl, by go_num, HA2, (fun h => ⟨HM.out, by rw [inR_or] at h; simpa using h⟩), (fun h => by rw [← HM.out]; rw [inR_or] at h; simpa using h), by first | rfl | trivial⟩
                case measure => simp [intOf]; omega
              · go_roundw
                case rel => exact ⟨k + 1, M, true, by omega, rfl, rfl, by go_num, HA2, (fun h => by cases h), (fun _ => by rw [← HM.out, inR_false]; omega), by first | rfl | trivial⟩
                case measure => simp [intOf]; omega
            · subst e
              have hM2 : N * 10 + -((x.toNat : Int) - 48) = M := by omega
              clear hw hM1
              go_wp2
              · go_roundw
                case rel => exact ⟨k + 1, M, decide (M < -2147483648) || decide (2147483647 < M), by omega, rfl, rfl, by go_num, HA2, (fun h => ⟨HM.out, by rw [inR_or] at h; simpa using h⟩), (fun h => by rw [← HM.out]; rw [inR_or] at h; simpa using h), by first | rfl | trivial⟩
                case measure => simp [intOf]; omega
              · go_roundw
                case rel => exact ⟨k + 1, M, true, by omega, rfl, rfl, by go_num, HA2, (fun h => by cases h), (fun _ => by rw [← HM.out, inR_false]; omega), by first | rfl | trivial⟩
                case measure => simp [intOf]; omega
      · have hkd : k = d.length := by omega
        have hall := HA.out
        rw [hkd, List.take_of_length_le (Nat.le_refl _)] at hall
        have hokd : okD d = true := okD_iff.2 ⟨HNE.out, List.all_eq_true.1 hall⟩
        have hv1 := HB.out
        have hv2 := HT.out
        rw [hkd, List.take_of_length_le (Nat.le_refl _)] at hv1 hv2
        cases B with
        | true =>
          have e := HG.out hokd (hv2 rfl)
          have E := Lib.hid e
          clear hv1 hv2 hokd hall e
          go_wp2
          go_ret2
          rw [E.out.1, E.out.2]
          exact ⟨rfl, hb1⟩
        | false =>
          obtain ⟨q1, q2⟩ := hv1 rfl
          have e := HO.out hokd (by rw [← q1]; exact q2)
          rw [← q1] at e
          have E := Lib.hid e
          clear hv1 hv2 hokd hall q1 q2 e
          go_wp2
          go_ret2
          rw [E.out.1, E.out.2]
          exact ⟨rfl, hb1⟩
end Go.Proofs.YtjlecollphgmcaaDoor
