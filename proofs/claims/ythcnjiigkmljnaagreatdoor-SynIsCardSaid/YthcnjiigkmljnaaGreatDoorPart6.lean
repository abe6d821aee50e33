/-
  Parts of this proof, one behind the other: LexInt, TokWord, SynView, SynRef7, SynRef1, RefVal, SynRef2, SynRef6, RefUnits, RefDigit, RefFull, RefSane, RefBytes, SynRef3.
-/
import Derived.Test.YthcnjiigkmljnaaGreatDoorPart1
import Derived.Test.YthcnjiigkmljnaaGreatDoorPart5
import Derived.Test.YthcnjiigkmljnaaGreatDoorPart2
import Derived.Deep.Slices
import Derived.Test.YthcnjiigkmljnaaGreatDoorPart3
import Derived.Deep.RegionHeld
import Derived.Deep.DrawnRows
import Derived.Deep.RegionHeldLaw
import Derived.Deep.AppendLies
import Derived.Handy
/-
  lex.Int: a sign and digits, as a number.
-/
namespace Go.Proofs.YthcnjiigkmljnaaGreatDoor
open Go.RowKit

theorem pre_minus (l : List UInt8) : preB l [45] = ng l := by
  cases l with
  | nil => rfl
  | cons b t => simp [preB, ng]
theorem cut_minus {l : List UInt8} (h : ng l = true) : cutL l [45] = bd l := by
  cases l with
  | nil => cases h
  | cons b t =>
    have hb : (b == 45) = true := h
    have hp : preB (b :: t) [45] = true := (pre_minus _).trans h
    simp [cutL, hp, bd, hb]
theorem cut_plus {l : List UInt8} (h : ng l = false) : cutL l [43] = bd l := by
  cases l with
  | nil => rfl
  | cons b t =>
    have hb : (b == 45) = false := h
    have hp : preB (b :: t) [43] = (b == 43) := by simp [preB]
    show (if preB (b :: t) [43] then _ else _) = (if b == 45 || b == 43 then t else b :: t)
    rw [hp, hb]
    cases b == 43 <;> rfl

set_option maxHeartbeats 1000000 in
theorem unsigned_any (l : List UInt8) (w : World) :
    Calls Tryz.prog 90 #[.string (str l)] w fun e w' => e = .returned (.tuple #[.string (str (bd l)), .int .i64 (sgn l)]) ∧ w = w' := by
  have hC : ∀ w, Calls Tryz.prog 109 #[.string (str l), .string (ByteArray.mk #[45])] w fun e w' => e = .returned (.tuple #[.string (str (cutL l [45])), .bool (preB l [45])]) ∧ w = w' := fun w => CutPrefix_any l [45] w
  have hT : ∀ w, Calls Tryz.prog 110 #[.string (str l), .string (ByteArray.mk #[43])] w fun e w' => e = .returned (.string (str (cutL l [43]))) ∧ w = w' := fun w => TrimPrefix_any l [43] w
  rw [pre_minus] at hC
  cases hn : ng l with
  | true =>
    have e : sgn l = -1 := by simp [sgn, hn]
    rw [e]
    rw [cut_minus hn, hn] at hC
    have HC := Lib.hid hC
    clear hC hT e hn
    generalize bd l = d at *
    go_enter Tryz.func90, Tryz.ntmps90
    go_wp2_with (go_at_call 109; refine (HC.out _).mono ?_; rintro e w' ⟨rfl, rfl⟩)
    go_ret2
    exact ⟨rfl, rfl⟩
  | false =>
    have e : sgn l = 1 := by simp [sgn, hn]
    rw [e]
    rw [hn] at hC
    rw [cut_plus hn] at hT
    generalize cutL l [45] = c at *
    have HC := Lib.hid hC
    have HT := Lib.hid hT
    clear hC hT e hn
    generalize bd l = d at *
    go_enter Tryz.func90, Tryz.ntmps90
    go_wp2_with (first | (go_at_call 109; refine (HC.out _).mono ?_; rintro e w' ⟨rfl, rfl⟩) | (go_at_call 110; refine (HT.out _).mono ?_; rintro e w' ⟨rfl, rfl⟩))
    go_ret2
    exact ⟨rfl, rfl⟩

theorem val_take {d : List UInt8} {k : Nat} {x : UInt8} (h : k < d.length) (hx : x = d[k]?.getD 0) : val (d.take (k + 1)) = val (d.take k) * 10 + (x.toNat - 48) := by rw [take_at h hx, val_snoc]
theorem all_take {d : List UInt8} {k : Nat} {x : UInt8} (h : k < d.length) (hx : x = d[k]?.getD 0) (ha : (d.take k).all dg = true) (hg : dg x = true) : (d.take (k + 1)).all dg = true := by rw [take_at h hx, List.all_append, ha]; simp [hg]
theorem all_bad {d : List UInt8} {k : Nat} {x : UInt8} (h : k < d.length) (hx : x = d[k]?.getD 0) (hg : dg x = false) : okD d = false := by
  have hm : x ∈ d := by rw [hx, List.getElem?_eq_getElem h]; exact List.getElem_mem _
  have : d.all dg = false := List.all_eq_false.2 ⟨x, hm, by simp [hg]⟩
  simp [okD, this]
theorem inR_false {v : Int} : inR v = false ↔ v < -2147483648 ∨ 2147483647 < v := by simp only [inR, Bool.and_eq_false_iff, decide_eq_false_iff_not]; omega
theorem inR_true {v : Int} : inR v = true ↔ -2147483648 ≤ v ∧ v ≤ 2147483647 := by simp only [inR, Bool.and_eq_true, decide_eq_true_eq]

theorem inR_or (v : Int) : (decide (v < -2147483648) || decide (2147483647 < v)) = !inR v := by
  cases h : inR v with
  | true => rw [inR_true] at h; simp; omega
  | false => rw [inR_false] at h; simp; omega

set_option maxRecDepth 100000 in
set_option maxHeartbeats 2000000 in
theorem Int_any (l : List UInt8) (w : World) (hl : l.length ≤ 4294967296) :
    Calls Tryz.prog 63 #[.string (str l)] w fun e w' => e = .returned (.tuple #[.int .i64 (inN l), .int .i64 (inE l)]) ∧ Below w.heap.size w w' := by
  have hU : ∀ w, Calls Tryz.prog 90 #[.string (str l)] w fun e w' => e = .returned (.tuple #[.string (str (bd l)), .int .i64 (sgn l)]) ∧ w = w' := fun w => unsigned_any l w
  have HU := Lib.hid hU
  have hdl := bd_le l
  have hform : okD (bd l) = false → inN l = 0 ∧ inE l = 3 := in_form
  have hbig : okD (bd l) = true → inR (sgn l * (val (bd l) : Int)) = false → inN l = 0 ∧ inE l = 4 := in_big
  have hok : okD (bd l) = true → inR (sgn l * (val (bd l) : Int)) = true → inN l = sgn l * (val (bd l) : Int) ∧ inE l = 0 := in_ok
  have hsg := sgn_cases l
  generalize inN l = rN at *
  generalize inE l = rE at *
  generalize sgn l = sg at *
  obtain ⟨d, hd⟩ : ∃ d, d = bd l := ⟨_, rfl⟩
  rw [← hd] at HU hform hbig hok hdl
  have HF := Lib.hid hform
  have HG := Lib.hid hbig
  have HO := Lib.hid hok
  have HS := Lib.hid hsg
  clear hU hform hbig hok hsg hd
  by_cases hne : d = []
  · have e := HF.out (by rw [hne]; rfl)
    have t1 : (d == []) = true := by rw [hne]; rfl
    rw [e.1, e.2]
    clear e
    subst hne
    go_enter Tryz.func63, Tryz.ntmps63
    go_wp2_with (go_at_call 90; refine (HU.out _).mono ?_; rintro e w' ⟨rfl, rfl⟩)
    go_ret2
    exact ⟨rfl, Below.refl _ _⟩
  · obtain ⟨cap, w1, hcv, hcell, _, hb1, hsz1, hcap⟩ := run_bytes (P := Tryz.prog) w 9 93 5 d Tryz.underlying9 Tryz.underlying93 Tryz.underlying5
    have t1 : d.isEmpty = false := by simpa using hne
    have HC := Lib.hid hcell
    have HNE := Lib.hid hne
    clear hcell hne
    go_enter Tryz.func63, Tryz.ntmps63
    go_wp2_with (go_at_call 90; refine (HU.out _).mono ?_; rintro e w' ⟨rfl, rfl⟩)
    go_loopw [6, 7, 20] (fun n b i wr => ∃ (k : Nat) (N : Int) (B : Bool), k ≤ d.length ∧ n = .int .i64 N ∧ b = .bool B ∧ i = .int .i64 k ∧ Hid ((d.take k).all dg = true) ∧ Hid (B = false → N = sg * (val (d.take k) : Int) ∧ inR N = true) ∧ Hid (B = true → inR (sg * (val (d.take k) : Int)) = false) ∧ wr = w1) (fun _ _ i _ => d.length - (intOf i).toNat)
    case atStart => exact ⟨0, 0, false, Nat.zero_le _, rfl, rfl, rfl, by rfl, fun _ => ⟨by simp [val, valF], by decide⟩, (fun h => by cases h), rfl⟩
    case round =>
      obtain ⟨k, N, B, hk, rfl, rfl, rfl, HA, HB, HT, rfl⟩ := hrel
      by_cases hlt : k < d.length
      · obtain ⟨x, hx⟩ : ∃ x, x = d[k]?.getD 0 := ⟨_, rfl⟩
        have hcl : wr.cell? ⟨w.heap.size, k, none⟩ = some (.int .u8 (x.toNat : Int)) := by rw [hx]; exact HC.out k hlt
        have hx1 := x.toNat_lt
        have HX := Lib.hid hx
        clear hx
        cases hg : dg x with
        | false =>
          have e := HF.out (all_bad hlt HX.out hg)
          have hx48 : decide ((x.toNat : Int) < 48) = true ∨ (decide ((x.toNat : Int) < 48) = false ∧ decide ((57 : Int) < (x.toNat : Int)) = true) := by
            have : ¬ (48 ≤ x.toNat ∧ x.toNat ≤ 57) := fun h => by rw [dg_iff.2 h] at hg; cases hg
            simp; omega
          rcases hx48 with t2 | ⟨t2, t3⟩
          · go_wp2
            go_ret2
            rw [e.1, e.2]
            exact ⟨rfl, hb1⟩
          · go_wp2
            go_ret2
            rw [e.1, e.2]
            exact ⟨rfl, hb1⟩
        | true =>
          have hd1 := (dg_iff.1 hg).1
          have hd2 := (dg_iff.1 hg).2
          have t2 : decide ((x.toNat : Int) < 48) = false := by simp; omega
          have t3 : decide ((57 : Int) < (x.toNat : Int)) = false := by simp; omega
          have hat := all_take hlt HX.out HA.out hg
          have hvt := val_take hlt HX.out
          have HA2 := Lib.hid hat
          have HV := Lib.hid hvt
          clear hat hvt hg
          cases B with
          | true =>
            go_wp2
            go_roundw
            case rel =>
              refine ⟨k + 1, N, true, by omega, rfl, rfl, by go_num, HA2, (fun h => by cases h), fun _ => ?_, by first | rfl | trivial⟩
              have h1 := HT.out rfl
              rw [inR_false] at h1 ⊢
              rw [HV.out]
              rcases HS.out with rfl | rfl <;> omega
            case measure => simp [intOf]; omega
          | false =>
            obtain ⟨hN, hNR⟩ := HB.out rfl
            rw [inR_true] at hNR
            obtain ⟨hN0, hN1⟩ := hNR
            have HN := Lib.hid hN
            clear hN
            obtain ⟨M, hM⟩ : ∃ M, M = sg * (val (d.take (k + 1)) : Int) := ⟨_, rfl⟩
            have hM1 : M = N * 10 + sg * ((x.toNat : Int) - 48) := by
              have h1 := HN.out
              rw [hM, HV.out]
              rcases HS.out with e | e <;> rw [e] at h1 ⊢ <;> omega
            have hMb : -40000000000 ≤ M ∧ M ≤ 40000000000 := by rcases HS.out with e | e <;> rw [e] at hM1 <;> omega
            have HM := Lib.hid hM
            have hw : IntKind.i64.wrap (N * 10 + sg * ((x.toNat : Int) - 48)) = M := by rw [← hM1]; exact IntWalk.i64_in _ (by omega)
            clear hM
            rcases HS.out with e | e
            · subst e
              have hM2 : N * 10 + ((x.toNat : Int) - 48) = M := by omega
              clear hw hM1
              go_wp2
              · go_roundw
                case rel => exact ⟨k + 1, M, decide (M < -2147483648) || decide (2147483647 < M), by omega, rfl, rfl, by go_num, HA2, (fun h => ⟨HM.out, by rw [inR_or] at h; simpa using h⟩), (fun h => by rw [← HM.out]; rw [inR_or] at h; simpa using h), by first | rfl | trivial⟩
                case measure => simp [intOf]; omega
              · go_roundw
                case rel => exact ⟨k + 1, M, true, by omega, rfl, rfl, by go_num, HA2, (fun h => by cases h), (fun _ => by rw [← HM.out, inR_false]; omega), by first | rfl | trivial⟩
                case measure => simp [intOf]; omega
            · subst e
              have hM2 : N * 10 + -((x.toNat : Int) - 48) = M := by omega
              clear hw hM1
              go_wp2
              · go_roundw
                case rel => exact ⟨k + 1, M, decide (M < -2147483648) || decide (2147483647 < M), by omega, rfl, rfl, by go_num, HA2, (fun h => ⟨HM.out, by rw [inR_or] at h; simpa using h⟩), (fun h => by rw [← HM.out]; rw [inR_or] at h; simpa using h), by first | rfl | trivial⟩
                case measure => simp [intOf]; omega
              · go_roundw
                case rel => exact ⟨k + 1, M, true, by omega, rfl, rfl, by go_num, HA2, (fun h => by cases h), (fun _ => by rw [← HM.out, inR_false]; omega), by first | rfl | trivial⟩
                case measure => simp [intOf]; omega
      · have hkd : k = d.length := by omega
        have hall := HA.out
        rw [hkd, List.take_of_length_le (Nat.le_refl _)] at hall
        have hokd : okD d = true := okD_iff.2 ⟨HNE.out, List.all_eq_true.1 hall⟩
        have hv1 := HB.out
        have hv2 := HT.out
        rw [hkd, List.take_of_length_le (Nat.le_refl _)] at hv1 hv2
        cases B with
        | true =>
          have e := HG.out hokd (hv2 rfl)
          have E := Lib.hid e
          clear hv1 hv2 hokd hall e
          go_wp2
          go_ret2
          rw [E.out.1, E.out.2]
          exact ⟨rfl, hb1⟩
        | false =>
          obtain ⟨q1, q2⟩ := hv1 rfl
          have e := HO.out hokd (by rw [← q1]; exact q2)
          rw [← q1] at e
          have E := Lib.hid e
          clear hv1 hv2 hokd hall q1 q2 e
          go_wp2
          go_ret2
          rw [E.out.1, E.out.2]
          exact ⟨rfl, hb1⟩
end Go.Proofs.YthcnjiigkmljnaaGreatDoor
/-
  tok.wordAt: an Int or a Word.
-/
namespace Go.Proofs.YthcnjiigkmljnaaGreatDoor
open Go.RowKit

set_option maxRecDepth 100000 in
set_option maxHeartbeats 2000000 in
theorem wordAt_any (l : List UInt8) (p : Nat) (w : World) (ht : Tab w) (hp : p ≤ l.length) (hl : l.length ≤ 1073741824) :
    Calls Tryz.prog 39 #[.string (str l), .int .i64 (p : Int)] w fun e w' => e = .returned (rv p (tkWord (l.drop p))) ∧ Below w.heap.size w w' := by
  have hw1 : wdL l (p : Int) = (l.drop p).take (wn (l.drop p)) := by unfold wdL; rw [pl_of _ _ hp]
  have hw2 : wdN l (p : Int) = p + wn (l.drop p) := by unfold wdN; rw [pl_of _ _ hp]
  have hW : ∀ w, Tab w → Calls Tryz.prog 35 #[.string (str l), .int .i64 (p : Int)] w fun e w' => e = .returned (.tuple #[.string (str (wdL l p)), .int .i64 (wdN l p : Nat)]) ∧ w = w' := fun w ht => Word_any l p w ht (by omega)
  have hwl := wn_le (l.drop p)
  rw [List.length_drop] at hwl
  rw [hw1, hw2] at hW
  unfold tkWord
  have hdl : ((l.drop p).take (wn (l.drop p))).length ≤ l.length := by simp; omega
  generalize wn (l.drop p) = k at *
  generalize (l.drop p).take k = d at *
  have hI : ∀ w, Calls Tryz.prog 63 #[.string (str d)] w fun e w' => e = .returned (.tuple #[.int .i64 (inN d), .int .i64 (inE d)]) ∧ Below w.heap.size w w' := fun w => Int_any d w (by omega)
  generalize inN d = rN at *
  have HW := Lib.hid hW
  have hta := ht.below' ((Below.refl _ _).alloc (Nat.le_refl _) tok0)
  unfold tok0 at hta
  clear hw1 hw2 hW
  generalize inE d = E at *
  have HI := Lib.hid hI
  clear hI
  have hcase : E = 0 ∨ E = 3 ∨ ((E == 0) = false ∧ (E == 3) = false) := by simp only [beq_eq_false_iff_ne]; omega
  rcases hcase with rfl | rfl | ⟨h0, h3⟩
  · rw [if_pos rfl, rv_ok]
    go_enter Tryz.func39, Tryz.ntmps39
    go_wp2_with (first | (go_at_call 35; refine (HW.out _ hta).mono ?_; rintro e w' ⟨rfl, rfl⟩) | (go_at_call 63; refine (HI.out _).mono ?_; rintro e w2 ⟨rfl, hb2⟩; obtain ⟨⟨c0, c1, c2, c3⟩, ⟨z0, z1, z2, z3⟩, hlt, hB⟩ := res_of hb2; clear hb2))
    refine bodyPost_ret (v := _) (by simp [results, Tryz.results39, go_sem, c0, c1, c2, c3]; try rfl) rfl ⟨rfl, below_4 hB (Nat.le_refl _) _ _ _ _⟩
  · rw [if_neg (by decide), if_pos rfl, rv_ok]
    go_enter Tryz.func39, Tryz.ntmps39
    go_wp2_with (first | (go_at_call 35; refine (HW.out _ hta).mono ?_; rintro e w' ⟨rfl, rfl⟩) | (go_at_call 63; refine (HI.out _).mono ?_; rintro e w2 ⟨rfl, hb2⟩; obtain ⟨⟨c0, c1, c2, c3⟩, ⟨z0, z1, z2, z3⟩, hlt, hB⟩ := res_of hb2; clear hb2))
    refine bodyPost_ret (v := _) (by simp [results, Tryz.results39, go_sem, c0, c1, c2, c3]; try rfl) rfl ⟨rfl, below_4 hB (Nat.le_refl _) _ _ _ _⟩
  · rw [if_neg (by simpa using h0), if_neg (by simpa using h3), rv_no _ _ _ (by simpa using h0)]
    go_enter Tryz.func39, Tryz.ntmps39
    go_wp2_with (first | (go_at_call 35; refine (HW.out _ hta).mono ?_; rintro e w' ⟨rfl, rfl⟩) | (go_at_call 63; refine (HI.out _).mono ?_; rintro e w2 ⟨rfl, hb2⟩; obtain ⟨⟨c0, c1, c2, c3⟩, ⟨z0, z1, z2, z3⟩, hlt, hB⟩ := res_of hb2; clear hb2))
    refine bodyPost_ret (v := _) (by simp [results, Tryz.results39, go_sem, c0, c1, c2, c3]; try rfl) rfl ⟨rfl, below_4 hB (Nat.le_refl _) _ _ _ _⟩
end Go.Proofs.YthcnjiigkmljnaaGreatDoor
/-
  An argument that is a list of tokens, as a walk wants it.
-/
namespace Go.Proofs.YthcnjiigkmljnaaGreatDoor
open Go.ChangeShapes Go.WideShapes Go.ChangeAt Go.RowKit Go.Joins

/-- A token as a datum. -/
def tkD {H : Type} (t : Tk) : DataW H := .agg [.lit (.int .i64 t.kind), .lit (.int .i64 t.at_), .lit (.int .i64 t.n), .lit (.string t.s)]
theorem list_of {α : Type} {Q : Nat → α → Prop} (d : α) : ∀ n, (∀ i, i < n → ∃ x, Q i x) → ∃ l : List α, l.length = n ∧ ∀ i, i < n → Q i (l[i]?.getD d)
  | 0, _ => ⟨[], rfl, fun _ h => by omega⟩
  | n + 1, h => by
    obtain ⟨l, hl, hq⟩ := list_of d n (fun i hi => h i (by omega))
    obtain ⟨x, hx⟩ := h n (by omega)
    refine ⟨l ++ [x], by simp [hl], fun i hi => ?_⟩
    by_cases hin : i < n
    · rw [List.getElem?_append_left (by omega)]; exact hq i hin
    · obtain rfl : i = n := by omega
      rw [List.getElem?_append_right (by omega), hl]
      simpa using hx
section
variable {H : Type} {enc : TypeId × Value → H} {W : World} {base : Nat} {v : Value} {d : DataW H} {p : List MemPlace}
theorem view_toks {P : Program} {t e ti ts : TypeId} {f0 f1 f2 f3 : Field} (ht : P.underlying t = some (.slice e)) (he : P.underlying e = some (.struct #[f0, f1, f2, f3])) (ce : P.cellsOf e = 4) (ho : f0.offset = 0 ∧ f1.offset = 1 ∧ f2.offset = 2 ∧ f3.offset = 3) (hty : f0.type = ti ∧ f1.type = ti ∧ f2.type = ti ∧ f3.type = ts)
    (ci : P.cellsOf ti = 1) (cs1 : P.cellsOf ts = 1) (hi : P.underlying ti = some (.int .i64)) (hst : P.underlying ts = some .string) (hv : Value.okWide P W .any base t v) (h : DataW.Trod enc P W 0 (fun _ => true) true t v d p) :
    ∃ A L c, v = .slice A L.length c ∧ L.length ≤ maxLen ∧ St W W.heap.size A L ∧ (∀ t ∈ L, t.s.length ≤ maxLen) ∧ (L = [] ∨ ∃ rest, d = .slice (L.map tkD) rest) := by
  obtain ⟨A, len, cap, rfl⟩ := okWide_slice ht hv
  obtain ⟨fuel, hf⟩ := h
  rcases Deep.open_slice ht hf with ⟨hcs, _⟩ | ⟨a, l, c, m, n, D, Pl, hcs, _, hl, hm, hmm, hx, hall⟩
  · simp [Value.cells] at hcs
    obtain ⟨rfl, rfl, rfl⟩ := hcs
    exact ⟨none, [], 0, rfl, by simp [maxLen], St.nil, (fun _ h => by cases h), .inl rfl⟩
  · simp [Value.cells] at hcs
    obtain ⟨rfl, rfl, rfl⟩ := hcs
    have hlm : len ≤ m := by rw [hmm]; split <;> omega
    obtain ⟨b, off, spot⟩ := a
    have hone : ∀ i, i < len → ∃ t : Tk, (W.cell? ((⟨b, off, spot⟩ : Addr).add (i * 4)) = some (.int .i64 t.kind) ∧ W.cell? ((⟨b, off, spot⟩ : Addr).add (i * 4 + 1)) = some (.int .i64 t.at_) ∧ W.cell? ((⟨b, off, spot⟩ : Addr).add (i * 4 + 2)) = some (.int .i64 t.n) ∧ W.cell? ((⟨b, off, spot⟩ : Addr).add (i * 4 + 3)) = some (.string (str t.s))) ∧ t.s.length ≤ maxLen ∧ D i = tkD t := by
      intro i hil
      obtain ⟨cs', h1, h2⟩ := hall i (by omega)
      rw [ce] at h1
      obtain ⟨_, hlen, hcell⟩ := World.cells?_some h1
      obtain ⟨y0, y1, y2, y3, k, hxy, _, g0, g1, g2, g3⟩ := Joins.trod_struct4 he h2
      rw [hty.1, ho.1, ci] at g0
      rw [hty.2.1, ho.2.1, ci] at g1
      rw [hty.2.2.1, ho.2.2.1, ci] at g2
      rw [hty.2.2.2, ho.2.2.2, cs1] at g3
      match cs', hlen with
      | [v0, v1, v2, v3], _ =>
        obtain ⟨n0, q0, rfl, _⟩ := DataW.trod_int hi g0
        obtain ⟨n1, q1, rfl, _⟩ := DataW.trod_int hi g1
        obtain ⟨n2, q2, rfl, _⟩ := DataW.trod_int hi g2
        obtain ⟨s, q3, rfl, hs⟩ := DataW.trod_string hst g3
        have e0 := hcell 0 (by omega)
        have e1 := hcell 1 (by omega)
        have e2 := hcell 2 (by omega)
        have e3 := hcell 3 (by omega)
        rw [Deep.add_add] at e0 e1 e2 e3
        have r0 : v0 = .int .i64 n0 := by simpa using q0
        have r1 : v1 = .int .i64 n1 := by simpa using q1
        have r2 : v2 = .int .i64 n2 := by simpa using q2
        have r3 : v3 = .string s := by simpa using q3
        subst r0 r1 r2 r3
        obtain ⟨ls, rfl⟩ := str_of s
        simp only [Prod.mk.injEq] at hxy
        refine ⟨⟨n0, n1, n2, ls⟩, ⟨?_, ?_, ?_, ?_⟩, by rwa [str_size] at hs, hxy.1⟩
        · simpa using e0
        · simpa using e1
        · simpa using e2
        · simpa using e3
    obtain ⟨L, hL, hQ⟩ := list_of noT len hone
    subst hL
    refine ⟨_, L, cap, rfl, by omega, fun hn => ?_, fun t ht => ?_, .inr ⟨(List.range (m - L.length)).map fun j => D (L.length + j), ?_⟩⟩
    · have hc0 := (hQ 0 hn).1.1
      have hspot : spot = none := by simpa [Addr.add] using World.cell?_spot hc0
      subst hspot
      refine ⟨b, off, rfl, World.block_lt_of_cell? W _ (by simpa [Addr.add] using hc0 : W.cell? ⟨b, off, none⟩ = _), fun j hj => ?_⟩
      obtain ⟨⟨h0, h1, h2, h3⟩, _, _⟩ := hQ j hj
      rw [addr_add] at h0 h1 h2 h3
      exact ⟨h0, h1, h2, h3⟩
    · obtain ⟨j, hj, rfl⟩ := List.mem_iff_getElem.1 ht
      have := (hQ j hj).2.1
      rwa [List.getElem?_eq_getElem hj] at this
    · have hd := congrArg Prod.fst hx
      simp only at hd
      rw [hd]
      congr 1
      apply List.ext_getElem?
      intro j
      by_cases hj : j < L.length
      · have := (hQ j hj).2.2
        rw [List.getElem?_eq_getElem hj] at this
        simp [hj, this]
      · simp [hj]
end
end Go.Proofs.YthcnjiigkmljnaaGreatDoor
/-
  The document's own words of sections: words, Begin, begun.
-/
namespace Go.Proofs.YthcnjiigkmljnaaGreatDoor
open Go.RowKit

theorem words_any (w : World) : Calls Tryz.prog 22 #[] w fun r w' => ∃ b, r = .returned (.slice (some ⟨b, 0, none⟩) 9 9) ∧ w.heap.size ≤ b ∧ b < w'.heap.size ∧ (∀ j : Nat, j < 9 → w'.cell? ⟨b, j, none⟩ = some (.string (str (wordL (j : Int))))) ∧ Below w.heap.size w w' := by
  go_enter Tryz.func22, Tryz.ntmps22
  go_wp2
  go_ret
  refine ⟨w.heap.size, rfl, Nat.le_refl _, by simp, fun j hj => ?_, (Below.refl _ _).alloc (Nat.le_refl _) _⟩
  rcases (show j = 0 ∨ j = 1 ∨ j = 2 ∨ j = 3 ∨ j = 4 ∨ j = 5 ∨ j = 6 ∨ j = 7 ∨ j = 8 by omega) with rfl | rfl | rfl | rfl | rfl | rfl | rfl | rfl | rfl
  all_goals
    simp
    rfl

set_option maxRecDepth 100000 in
set_option maxHeartbeats 2000000 in
theorem rBegin_any (kind : Int) (w : World) : Calls Tryz.prog 12 #[.int .i64 kind] w fun r w' => r = .returned (.string (str (beginL kind))) ∧ Below w.heap.size w w' := by
  unfold beginL
  by_cases h : kind < 2 ∨ 8 < kind
  · rw [if_pos h]
    have hcs : decide (kind < 2) = true ∨ (decide (kind < 2) = false ∧ decide ((8 : Int) < kind) = true) := by simp; omega
    rcases hcs with d1 | ⟨d1, d2⟩
    all_goals
      go_enter Tryz.func12, Tryz.ntmps12
      go_wp2
      go_ret
      exact ⟨rfl, Below.refl _ _⟩
  · rw [if_neg h]
    obtain ⟨k, hk⟩ : ∃ k : Nat, kind = (k : Int) := ⟨kind.toNat, by omega⟩
    subst hk
    have d1 : decide ((k : Int) < 2) = false := by simp; omega
    have d2 : decide ((8 : Int) < (k : Int)) = false := by simp; omega
    have hap : ByteArray.mk #[98, 101, 103, 105, 110] ++ str (wordL (k : Int)) = str ([98, 101, 103, 105, 110] ++ wordL (k : Int)) := str_append [98, 101, 103, 105, 110] (wordL (k : Int))
    have hwl := wordL_le (k : Int)
    have hk9 : k < 9 := by omega
    generalize [98, 101, 103, 105, 110] ++ wordL (k : Int) = q at *
    have hW : ∀ w : World, Calls Tryz.prog 22 #[] w fun r w' => ∃ b, r = .returned (.slice (some ⟨b, 0, none⟩) 9 9) ∧ b < w'.heap.size ∧ w'.cell? ⟨b, k, none⟩ = some (.string (str (wordL (k : Int)))) ∧ Below w.heap.size w w' := fun w => (words_any w).mono fun r w' ⟨b, h1, _, h3, h4, h5⟩ => ⟨b, h1, h3, h4 k hk9, h5⟩
    generalize wordL (k : Int) = wd at *
    have HW := Lib.hid hW
    clear hW h
    go_enter Tryz.func12, Tryz.ntmps12
    go_wp2_with (go_at_call 22; refine (HW.out _).mono ?_; rintro r w1 ⟨b, rfl, hbl, hcl, hb1⟩)
    go_ret
    exact ⟨rfl, hb1⟩

set_option maxRecDepth 100000 in
set_option maxHeartbeats 2000000 in
theorem begun_any (s : List UInt8) (w : World) : Calls Tryz.prog 29 #[.string (str s)] w fun r w' => r = .returned (.int .i64 (begunT s)) ∧ Below w.heap.size w w' := by
  rw [begunT_eq]
  go_enter Tryz.func29, Tryz.ntmps29
  go_wp2
  go_loopw [3] (fun i wr => ∃ k : Nat, 2 ≤ k ∧ k ≤ 9 ∧ i = .int .i64 (k : Int) ∧ Hid (bgF s k = bgF s 2) ∧ Below w.heap.size w wr) (fun i _ => 10 - (intOf i).toNat)
  case atStart => exact ⟨2, by omega, by omega, rfl, Lib.hid rfl, Below.refl _ _⟩
  case round =>
    obtain ⟨k, hk2, hk9, rfl, HB, hbel⟩ := hrel
    have hB : ∀ w, Calls Tryz.prog 12 #[.int .i64 (k : Int)] w fun r w' => r = .returned (.string (str (beginL (k : Int)))) ∧ Below w.heap.size w w' := fun w => rBegin_any (k : Int) w
    by_cases hk : k ≤ 8
    · have t0 : decide ((k : Int) ≤ 8) = true := by simp; omega
      by_cases hs : s = beginL (k : Int)
      · have HV : Hid (bgF s 2 = (k : Int)) := Lib.hid (by rw [← HB.out]; exact bgF_yes hk hs)
        rw [← hs] at hB
        have HBg := Lib.hid hB
        clear hB hs
        go_wp2_with (go_at_call 12; refine (HBg.out _).mono ?_; rintro r w1 ⟨rfl, hb1⟩)
        go_ret
        rw [HV.out]
        exact ⟨rfl, hbel.trans (hb1.mono hbel.size)⟩
      · have HB2 : Hid (bgF s (k + 1) = bgF s 2) := Lib.hid (by rw [← HB.out]; exact (bgF_no hk hs).symm)
        have t1 : (s == beginL (k : Int)) = false := by rw [beq_eq_false_iff_ne]; exact hs
        generalize beginL (k : Int) = q at *
        have HBg := Lib.hid hB
        clear hB hs
        go_wp2_with (go_at_call 12; refine (HBg.out _).mono ?_; rintro r w1 ⟨rfl, hb1⟩)
        go_roundw
        case rel => exact ⟨k + 1, by omega, by omega, by go_num, HB2, hbel.trans (hb1.mono hbel.size)⟩
        case measure => simp [intOf]; omega
    · have t0 : decide ((k : Int) ≤ 8) = false := by simp; omega
      have HV : Hid (bgF s 2 = 0) := Lib.hid (by rw [← HB.out]; exact bgF_end (by omega))
      go_wp2
      go_ret
      rw [HV.out]
      exact ⟨rfl, hbel⟩
end Go.Proofs.YthcnjiigkmljnaaGreatDoor
/-
  The document's own parser: fail, take.
-/
namespace Go.Proofs.YthcnjiigkmljnaaGreatDoor
open Go.RowKit

set_option maxRecDepth 100000 in
set_option maxHeartbeats 2000000 in
theorem pfail_any {w : World} {P : Nat} {A : Option Addr} {c : Nat} {L : List Tk} {i : Nat} {en a e : Int} (h : Ps w P A c L i en a e) (a' e' : Int) :
    Calls Tryz.prog 19 #[.pointer (some ⟨P, 0, none⟩), .int .i64 a', .int .i64 e'] w fun r w' => r = .returned (.tuple #[]) ∧ Ps w' P A c L i en (if e = 0 then a' else a) (if e = 0 then e' else e) ∧ Fr w w' P := by
  have c4 := h.c4
  have c3 := h.c3
  have z3 := h.z3
  have z4 := h.z4
  have HP := Lib.hid h
  clear h
  by_cases he : e = 0
  · subst he
    rw [if_pos rfl, if_pos rfl]
    go_enter Tryz.func19, Tryz.ntmps19
    go_wp2
    refine bodyPost_end (v := _) (by simp [results, Tryz.results19, go_sem]; try rfl) rfl ⟨rfl, HP.out.fail a' e', ((Fr.refl w P).set 3 _).set 4 _⟩
  · rw [if_neg he, if_neg he]
    have t0 : (e == 0) = false := by rw [beq_eq_false_iff_ne]; exact he
    go_enter Tryz.func19, Tryz.ntmps19
    go_wp2
    refine bodyPost_end (v := _) (by simp [results, Tryz.results19, go_sem]; try rfl) rfl ⟨rfl, HP.out, Fr.refl w P⟩

set_option maxRecDepth 100000 in
set_option maxHeartbeats 2000000 in
/-- take, where there is an error: nothing turns. -/
theorem take_err {w : World} {P : Nat} {A : Option Addr} {c : Nat} {L : List Tk} {i : Nat} {en a e : Int} (h : Ps w P A c L i en a e) (he : e ≠ 0) (kind : Int) :
    Calls Tryz.prog 79 #[.pointer (some ⟨P, 0, none⟩), .int .i64 kind] w fun r w' => r = .returned (.agg #[.int .i64 0, .int .i64 0, .int .i64 0, .string ⟨#[]⟩]) ∧ Ps w' P A c L i en a e ∧ Fr w w' P := by
  have c4 := h.c4
  have hlt := h.lt
  have HP := Lib.hid h
  clear h
  have t0 : (e != 0) = true := by rw [bne_iff_ne]; exact he
  go_enter Tryz.func79, Tryz.ntmps79
  go_wp2
  refine bodyPost_ret (v := _) (by simp [results, Tryz.results79, go_sem]; try rfl) rfl ⟨rfl, HP.out.alloc _, (Fr.refl w P).alloc _⟩

set_option maxRecDepth 100000 in
set_option maxHeartbeats 2000000 in
/-- take behind the last token. -/
theorem take_end {w : World} {P : Nat} {A : Option Addr} {c : Nat} {L : List Tk} {i : Nat} {en a : Int} (h : Ps w P A c L i en a 0) (hi : ¬ i < L.length) (kind : Int) :
    Calls Tryz.prog 79 #[.pointer (some ⟨P, 0, none⟩), .int .i64 kind] w fun r w' => r = .returned (.agg #[.int .i64 0, .int .i64 0, .int .i64 0, .string ⟨#[]⟩]) ∧ Ps w' P A c L i en en 2 ∧ Fr w w' P := by
  have hF : ∀ w', Below (w.alloc (.cells #[.int .i64 0, .int .i64 0, .int .i64 0, .string ⟨#[]⟩] 42)).heap.size (w.alloc (.cells #[.int .i64 0, .int .i64 0, .int .i64 0, .string ⟨#[]⟩] 42)) w' → Calls Tryz.prog 19 #[.pointer (some ⟨P, 0, none⟩), .int .i64 en, .int .i64 2] w' fun r w'' => r = .returned (.tuple #[]) ∧ Ps w'' P A c L i en en 2 ∧ Fr w' w'' P := fun w' hb => by
    have := pfail_any ((h.alloc (.cells #[.int .i64 0, .int .i64 0, .int .i64 0, .string ⟨#[]⟩] 42)).over hb) en 2
    rwa [if_pos rfl, if_pos rfl] at this
  have HF := Lib.hid hF
  have c0 := h.c0
  have c1 := h.c1
  have c2 := h.c2
  have c4 := h.c4
  have hlt := h.lt
  have HP := Lib.hid h
  clear h hF
  have t0 : decide (L.length ≤ i) = true := by simp; omega
  have t0' : decide ((L.length : Int) ≤ (i : Int)) = true := by simp; omega
  go_enter Tryz.func79, Tryz.ntmps79
  go_wp2
  go_quiet (fail)
  go_wp2_with (go_at_call 19; refine (HF.out _ (below_drewN (Below.refl _ _) _)).mono ?_; rintro r w2 ⟨rfl, hps, hfr⟩; obtain ⟨⟨g0, g1, g2, g3⟩, ⟨y0, y1, y2, y3⟩, hl2, hB⟩ := res_fr (((Fr.refl _ P).drewN _).trans hfr) hlt)
  refine bodyPost_ret (v := _) (by simp [results, Tryz.results79, go_sem, g0, g1, g2, g3]; try rfl) rfl ⟨rfl, hps.far4 hlt _ _ _ _, hB.far4 (Nat.le_refl _) _ _ _ _⟩

set_option maxRecDepth 100000 in
set_option maxHeartbeats 4000000 in
/-- take at a token of another kind. -/
theorem take_bad {w : World} {P : Nat} {A : Option Addr} {c : Nat} {L : List Tk} {i : Nat} {en a : Int} (h : Ps w P A c L i en a 0) (hi : i < L.length) (hi2 : i ≤ 1048576) (kind : Int) (hk : (tg L i).kind ≠ kind) :
    Calls Tryz.prog 79 #[.pointer (some ⟨P, 0, none⟩), .int .i64 kind] w fun r w' => r = .returned (.agg #[.int .i64 0, .int .i64 0, .int .i64 0, .string ⟨#[]⟩]) ∧ Ps w' P A c L i en (tg L i).at_ 3 ∧ Fr w w' P := by
  have hF : ∀ w', Below (w.alloc (.cells #[.int .i64 0, .int .i64 0, .int .i64 0, .string ⟨#[]⟩] 42)).heap.size (w.alloc (.cells #[.int .i64 0, .int .i64 0, .int .i64 0, .string ⟨#[]⟩] 42)) w' → Calls Tryz.prog 19 #[.pointer (some ⟨P, 0, none⟩), .int .i64 (tg L i).at_, .int .i64 3] w' fun r w'' => r = .returned (.tuple #[]) ∧ Ps w'' P A c L i en (tg L i).at_ 3 ∧ Fr w' w'' P := fun w' hb => by
    have := pfail_any ((h.alloc (.cells #[.int .i64 0, .int .i64 0, .int .i64 0, .string ⟨#[]⟩] 42)).over hb) (tg L i).at_ 3
    rwa [if_pos rfl, if_pos rfl] at this
  have HF := Lib.hid hF
  clear hF
  have c0 := h.c0
  have c1 := h.c1
  have c4 := h.c4
  have z1 := h.z1
  have hlt := h.lt
  obtain ⟨b, o, hAe, hbP, hcl⟩ := h.tl (by omega)
  obtain ⟨g0, g1, g2, g3⟩ := hcl i hi
  subst hAe
  have HP := Lib.hid h
  clear h hcl
  generalize (tg L i).kind = q1 at *
  have tk : (q1 != kind) = true := by rw [bne_iff_ne]; exact hk
  generalize (tg L i).at_ = q2 at *
  generalize (tg L i).n = q3 at *
  generalize (tg L i).s = q4 at *
  have t0 : decide (L.length ≤ i) = false := by simp; omega
  have t0' : decide ((L.length : Int) ≤ (i : Int)) = false := by simp; omega
  have hbw : b < w.heap.size := by omega
  have hPw : P ≠ w.heap.size := by omega
  go_enter Tryz.func79, Tryz.ntmps79
  go_wp2
  go_quiet (fail)
  go_wp2
  go_region
  go_wp2_with (go_at_call 19; refine (HF.out _ (by first | exact (below_drewN (Below.refl _ _) _).alloc (by simp) _ | exact below_drewN ((Below.refl _ _).alloc (by simp) _) _)).mono ?_; rintro r w2 ⟨rfl, hps, hfr⟩; obtain ⟨⟨f0, f1, f2, f3⟩, ⟨y0, y1, y2, y3⟩, hl2, hB⟩ := res_fr ((((Fr.refl _ P).drewN _).alloc _).trans hfr) hlt)
  refine bodyPost_ret (v := _) (by simp [results, Tryz.results79, go_sem, f0, f1, f2, f3]; try rfl) rfl ⟨rfl, hps.far4 hlt _ _ _ _, hB.far4 (Nat.le_refl _) _ _ _ _⟩

set_option maxRecDepth 100000 in
set_option maxHeartbeats 4000000 in
/-- take at a token of that kind. -/
theorem take_ok {w : World} {P : Nat} {A : Option Addr} {c : Nat} {L : List Tk} {i : Nat} {en a : Int} (h : Ps w P A c L i en a 0) (hi : i < L.length) (hi2 : i ≤ 1048576) (kind : Int) (hk : (tg L i).kind = kind) :
    Calls Tryz.prog 79 #[.pointer (some ⟨P, 0, none⟩), .int .i64 kind] w fun r w' => r = .returned (tv (tg L i)) ∧ Ps w' P A c L (i + 1) en a 0 ∧ Fr w w' P := by
  have c0 := h.c0
  have c1 := h.c1
  have c4 := h.c4
  have z1 := h.z1
  have hlt := h.lt
  obtain ⟨b, o, hAe, hbP, hcl⟩ := h.tl (by omega)
  obtain ⟨g0, g1, g2, g3⟩ := hcl i hi
  subst hAe
  have HP := Lib.hid h
  clear h hcl
  unfold tv
  rw [hk] at g0 ⊢
  generalize (tg L i).at_ = q2 at *
  generalize (tg L i).n = q3 at *
  generalize (tg L i).s = q4 at *
  have t0 : decide (L.length ≤ i) = false := by simp; omega
  have t0' : decide ((L.length : Int) ≤ (i : Int)) = false := by simp; omega
  have hbw : b < w.heap.size := by omega
  have hPw : P ≠ w.heap.size := by omega
  go_enter Tryz.func79, Tryz.ntmps79
  go_wp2
  go_quiet (fail)
  go_wp2
  go_region
  go_wp2
  have hres : ∀ n, _ := fun n => res_fr (((Fr.refl (w.alloc (.cells #[.int .i64 0, .int .i64 0, .int .i64 0, .string ⟨#[]⟩] 42)) P).drewN n).set 1 (.int .i64 ((i : Int) + 1))) hlt
  refine bodyPost_ret (v := _) (by simp [results, Tryz.results79, go_sem, (hres _).1.1, (hres _).1.2.1, (hres _).1.2.2.1, (hres _).1.2.2.2]; try rfl) rfl ⟨rfl, ((((HP.out.alloc _).drewN _).next (i + 1)).far4 hlt _ _ _ _).alloc _, (((((Fr.refl w P).alloc _).drewN _).set 1 _).far4 (Nat.le_refl _) _ _ _ _).alloc _⟩
end Go.Proofs.YthcnjiigkmljnaaGreatDoor
/-
  hornbookref01.Val: the code of bytes, by the document's own.
-/
namespace Go.Proofs.YthcnjiigkmljnaaGreatDoor
open Go.RowKit

set_option maxHeartbeats 1000000 in
theorem rVal_no (A : Option Addr) (c : Nat) (n : Nat) (w : World) (h : n < 1 ∨ 4 < n) :
    Calls Tryz.prog 101 #[.slice A n c] w fun e w' => e = .returned (.tuple #[.agg #[.int .i64 0, .int .i64 0], .bool false]) ∧ Below w.heap.size w w' := by
  rcases h with h | h
  · go_enter Tryz.func101, Tryz.ntmps101
    go_wp2
    go_returns
    exact ⟨rfl, (Below.refl _ _).alloc (Nat.le_refl _) _⟩
  · have h' : ¬ n < 1 := by omega
    go_enter Tryz.func101, Tryz.ntmps101
    go_wp2
    go_returns
    exact ⟨rfl, (Below.refl _ _).alloc (Nat.le_refl _) _⟩

set_option maxHeartbeats 1000000 in
theorem rVal_yes (A : Option Addr) (c : Nat) (l : List UInt8) (w : World) (hA : Sl w w.heap.size A l) (h1 : 1 ≤ l.length) (h4 : l.length ≤ 4) :
    Calls Tryz.prog 101 #[.slice A l.length c] w fun e w' => e = .returned (.tuple #[.agg #[.int .i64 l.length, .int .i64 (num l)], .bool true]) ∧ Below w.heap.size w w' := by
  obtain ⟨b, o, rfl, hbl, hc⟩ := hA (by omega)
  have d1 : decide ((l.length : Int) < 1) = false := by simp; omega
  have d2 : decide ((4 : Int) < (l.length : Int)) = false := by simp; omega
  have HC := Lib.hid hc
  clear hc
  go_enter Tryz.func101, Tryz.ntmps101
  go_wp2
  go_loop [4, 5] (fun v i => ∃ k : Nat, k ≤ l.length ∧ i = .int .i64 k ∧ v = .int .i64 (num (l.take k))) (fun _ i => l.length - (intOf i).toNat)
  case atStart => exact ⟨0, Nat.zero_le _, rfl, rfl⟩
  case round =>
    obtain ⟨k, hk, rfl, rfl⟩ := hrel
    by_cases hlt : k < l.length
    · have hcell : w.cell? ⟨b, o + k, none⟩ = some (.int .u8 ((l[k]?.getD 0).toNat : Int)) := HC.out k hlt
      have hs := num_take l k hlt
      have HS := Lib.hid hs
      have hnb := num_bounds 3 (l.take k) (by simp; omega)
      obtain ⟨x, hx⟩ : ∃ x, x = l[k]?.getD 0 := ⟨_, rfl⟩
      rw [← hx] at hcell
      have HX := Lib.hid hx
      clear hs hx
      have hx1 := x.toNat_lt
      obtain ⟨m, hm⟩ : ∃ m, m = num (l.take k) := ⟨_, rfl⟩
      rw [← hm] at hnb
      rw [← hm]
      have HM := Lib.hid hm
      clear hm
      obtain ⟨n0, n1⟩ := hnb
      have n1' : m < 16777216 := by simpa using n1
      clear n1
      go_wp2
      go_round
      case rel => exact ⟨k + 1, by omega, by go_num, by rw [HS.out, ← HM.out, ← HX.out]⟩
      case measure => simp [intOf]; omega
    · obtain rfl : l.length = k := by omega
      rw [List.take_of_length_le (Nat.le_refl _)]
      go_wp2
      go_returns
      exact ⟨rfl, (Below.refl _ _).alloc (Nat.le_refl _) _⟩
end Go.Proofs.YthcnjiigkmljnaaGreatDoor
/-
  The document's own parser: take, in one; code.
-/
namespace Go.Proofs.YthcnjiigkmljnaaGreatDoor
open Go.RowKit

theorem ptake_any {w : World} {P : Nat} {A : Option Addr} {c : Nat} {L : List Tk} {i : Nat} {en a e : Int} (h : Ps w P A c L i en a e) (hi : i ≤ L.length) (hL : Sm L) (kind : Int) :
    Calls Tryz.prog 79 #[.pointer (some ⟨P, 0, none⟩), .int .i64 kind] w fun r w' => ∃ (t : Tk) (i' : Nat) (a' e' : Int), r = .returned (tv t) ∧ Ps w' P A c L i' en a' e' ∧ i' ≤ L.length ∧ t.s.length ≤ 1048576 ∧ Fr w w' P ∧ Oc (takeT L en kind i) (fun x => x = noT) i a e t i' a' e' := by
  by_cases he : e = 0
  · subst he
    by_cases h1 : i < L.length
    · by_cases h2 : (tg L i).kind = kind
      · refine (take_ok h h1 (by have := hL.1; omega) kind h2).mono ?_
        rintro r w' ⟨rfl, hp, hf⟩
        exact ⟨tg L i, i + 1, a, 0, rfl, hp, h1, hL.2 _ (tg_mem h1), hf, .inr (.inr ⟨rfl, by unfold takeT; rw [if_pos h1, if_pos h2], rfl, rfl⟩)⟩
      · refine (take_bad h h1 (by have := hL.1; omega) kind h2).mono ?_
        rintro r w' ⟨rfl, hp, hf⟩
        exact ⟨noT, i, _, 3, rfl, hp, hi, by simp [noT], hf, .inr (.inl ⟨rfl, by unfold takeT; rw [if_pos h1, if_neg h2], by decide, rfl⟩)⟩
    · refine (take_end h h1 kind).mono ?_
      rintro r w' ⟨rfl, hp, hf⟩
      exact ⟨noT, i, _, 2, rfl, hp, hi, by simp [noT], hf, .inr (.inl ⟨rfl, by unfold takeT; rw [if_neg h1], by decide, rfl⟩)⟩
  · refine (take_err h he kind).mono ?_
    rintro r w' ⟨rfl, hp, hf⟩
    exact ⟨noT, i, a, e, rfl, hp, hi, by simp [noT], hf, .inl ⟨he, rfl, rfl, rfl, rfl⟩⟩

set_option maxRecDepth 100000 in
set_option maxHeartbeats 4000000 in
theorem pcode_any {w : World} {P : Nat} {A : Option Addr} {c : Nat} {L : List Tk} {i : Nat} {en a e : Int} (h : Ps w P A c L i en a e) (hi : i ≤ L.length) (hL : Sm L) :
    Calls Tryz.prog 76 #[.pointer (some ⟨P, 0, none⟩)] w fun r w' => ∃ (x : Cd × Int) (i' : Nat) (a' e' : Int), r = .returned (.tuple #[.agg #[.int .i64 x.1.n, .int .i64 x.1.v], .int .i64 x.2]) ∧ Ps w' P A c L i' en a' e' ∧ i' ≤ L.length ∧ Fr w w' P ∧ Oc (codeT L en i) (fun x => x.1 = ⟨0, 0⟩) i a e x i' a' e' := by
  have hlt := h.lt
  have hT := ptake_any (h.alloc (.cells #[.int .i64 0, .int .i64 0] 47)) hi hL 4
  have HT := Lib.hid hT
  clear hT
  have HP := Lib.hid h
  clear h
  go_enter Tryz.func76, Tryz.ntmps76
  go_wp2_with fail
  refine HT.out.mono ?_
  rintro r w1 ⟨t, i1, a1, e1, rfl, hp1, hi1, hts, hf1, hoc⟩
  clear HT
  have hlt1 := hp1.lt
  obtain ⟨kind, at_, n, s⟩ := t
  simp only at hts
  unfold tv
  simp only
  obtain ⟨cap, w2, hcv, hcell, _, hb2, hsz2, hcap⟩ := run_bytes (P := Tryz.prog) (w1.alloc (.cells #[.int .i64 kind, .int .i64 at_, .int .i64 n, .string (str s)] 42)) 9 93 5 s Tryz.underlying9 Tryz.underlying93 Tryz.underlying5
  have hS1 : (w1.alloc (.cells #[.int .i64 kind, .int .i64 at_, .int .i64 n, .string (str s)] 42)).heap.size = w1.heap.size + 1 := by simp
  have hsl : Sl w2 w2.heap.size (some ⟨w1.heap.size + 1, 0, none⟩) s := fun _ => ⟨_, 0, rfl, by rw [hS1] at hsz2; exact hsz2, fun j hj => by rw [Nat.zero_add, ← hS1]; exact hcell j hj⟩
  rw [hS1] at hcv
  have hp2 := (hp1.alloc (.cells #[.int .i64 kind, .int .i64 at_, .int .i64 n, .string (str s)] 42)).over hb2
  have hf2 := (hf1.alloc (.cells #[.int .i64 kind, .int .i64 at_, .int .i64 n, .string (str s)] 42)).over hb2
  have k1 : w2.cell? ⟨w1.heap.size, 1, none⟩ = some (.int .i64 at_) := (hb2.cell (p := ⟨w1.heap.size, 1, none⟩) (by simp)).trans (by simp)
  have hne1 : w.heap.size ≠ w1.heap.size := by have := hf1.size; simp at this; omega
  have hne2 : w1.heap.size ≠ w.heap.size := fun h => hne1 h.symm
  by_cases hv : 1 ≤ s.length ∧ s.length ≤ 4
  · have hV := rVal_yes (some ⟨w1.heap.size + 1, 0, none⟩) cap s w2 hsl hv.1 hv.2
    have HV := Lib.hid hV
    clear hV hcell hsl
    have hoc2 : Oc (codeT L en i) (fun x => x.1 = ⟨0, 0⟩) i a e ((⟨(s.length : Int), num s⟩ : Cd), at_) i1 a1 e1 := by
      rcases hoc with ⟨_, _, _, _, h⟩ | ⟨_, _, _, h⟩ | ⟨h1, h2, h3, h4⟩
      · injection h with _ _ _ h; rw [h] at hv; simp at hv
      · injection h with _ _ _ h; rw [h] at hv; simp at hv
      · exact .inr (.inr ⟨h1, by unfold codeT; rw [h2, then_ok]; simp only; rw [if_pos hv], h3, h4⟩)
    generalize num s = vs at *
    generalize hsl2 : (s.length : Int) = ns at *
    go_wp2_with (go_at_call 101; refine HV.out.mono ?_; rintro r w3 ⟨rfl, hb3⟩; have k3 := (hb3.cell (p := ⟨w1.heap.size, 1, none⟩) (by have := hb2.size; simp at this; show w1.heap.size < _; omega)).trans k1; have hp3 := hp2.over hb3; have hf3 := hf2.over hb3; obtain ⟨f0, y0⟩ := hf3.kept hlt 0; obtain ⟨f1, y1⟩ := hf3.kept hlt 1; simp at f0 f1 y0 y1; have hT3 : w1.heap.size < w3.heap.size := (by have h1 := hb2.size; have h2 := hb3.size; simp at h1; omega); have hS3 : w.heap.size < w3.heap.size := (by have h1 := hf3.size; simp at h1; omega))
    go_region
    go_wp2
    obtain ⟨s0, s1⟩ := two_set f0 f1 (.int .i64 ns) (.int .i64 vs)
    have s0' := cell_new s0 (.cells #[.int .i64 ns, .int .i64 vs] 47)
    have s1' := cell_new s1 (.cells #[.int .i64 ns, .int .i64 vs] 47)
    refine bodyPost_ret (v := _) (by simp [results, Tryz.results76, go_sem, s0', s1']; try rfl) rfl ⟨(⟨ns, vs⟩, at_), i1, a1, e1, rfl, (((hp3.far hlt 0 _).far hlt 1 _).alloc _).drew, hi1, ((((((Fr.refl w P).alloc _).trans hf3).far (Nat.le_refl _) 0 _).far (Nat.le_refl _) 1 _).alloc _).drew, hoc2⟩
  · have hV := rVal_no (some ⟨w1.heap.size + 1, 0, none⟩) cap s.length w2 (by omega)
    have HV := Lib.hid hV
    clear hV hcell hsl
    have hoc2 : Oc (codeT L en i) (fun x => x.1 = ⟨0, 0⟩) i a e ((⟨0, 0⟩ : Cd), at_) i1 (if e1 = 0 then at_ else a1) (if e1 = 0 then 12 else e1) := by
      rcases hoc with ⟨h1, h2, h3, h4, _⟩ | ⟨h1, h2, h3, _⟩ | ⟨h1, h2, h3, h4⟩
      · rw [if_neg (by rw [h4]; exact h1), if_neg (by rw [h4]; exact h1)]
        exact .inl ⟨h1, h2, h3, h4, rfl⟩
      · rw [if_neg h3, if_neg h3]
        exact .inr (.inl ⟨h1, by unfold codeT; rw [h2, then_no], h3, rfl⟩)
      · rw [if_pos h4, if_pos h4]
        exact .inr (.inl ⟨h1, by unfold codeT; rw [h2, then_ok]; simp only; rw [if_neg hv], by decide, rfl⟩)
    go_wp2_with (first | (go_at_call 101; refine HV.out.mono ?_; rintro r w3 ⟨rfl, hb3⟩; have k3 := (hb3.cell (p := ⟨w1.heap.size, 1, none⟩) (by have := hb2.size; simp at this; show w1.heap.size < _; omega)).trans k1; have hp3 := hp2.over hb3; have hf3 := hf2.over hb3; have hT3 : w1.heap.size < w3.heap.size := (by have h1 := hb2.size; have h2 := hb3.size; simp at h1; omega)) | (go_at_call 19; refine (pfail_any (hp3.alloc _) at_ 12).mono ?_; rintro r w4 ⟨rfl, hp4, hf4⟩; have hf4' := (hf3.alloc _).trans hf4; obtain ⟨f0, y0⟩ := hf4'.kept hlt 0; obtain ⟨f1, y1⟩ := hf4'.kept hlt 1; simp at f0 f1 y0 y1; obtain ⟨d0, x0⟩ := hf4.kept hp3.lt 0; obtain ⟨d1, x1⟩ := hf4.kept hp3.lt 1; simp at d0 d1; have k4 := (hf4.cell ⟨w1.heap.size, 1, none⟩ (by simp; omega) (by show w1.heap.size ≠ P; omega)).trans ((World.cell?_alloc_lt _ _ _ (by show w1.heap.size < _; omega)).trans k3)))
    go_region
    go_wp2
    obtain ⟨s0, s1⟩ := two_set f0 f1 (.int .i64 0) (.int .i64 0)
    have s0' : ((w4.setCell ⟨w.heap.size, 0, none⟩ (.int .i64 0)).setCell ⟨w.heap.size, 1, none⟩ (.int .i64 0)).drew.cell? ⟨w.heap.size, 0, none⟩ = some (.int .i64 0) := s0
    have s1' : ((w4.setCell ⟨w.heap.size, 0, none⟩ (.int .i64 0)).setCell ⟨w.heap.size, 1, none⟩ (.int .i64 0)).drew.cell? ⟨w.heap.size, 1, none⟩ = some (.int .i64 0) := s1
    refine bodyPost_ret (v := _) (by simp [results, Tryz.results76, go_sem, s0', s1']; try rfl) rfl ⟨(⟨0, 0⟩, at_), i1, _, _, rfl, ((hp4.far hlt 0 _).far hlt 1 _).drew, hi1, (((((Fr.refl w P).alloc _).trans hf4').far (Nat.le_refl _) 0 _).far (Nat.le_refl _) 1 _).drew, hoc2⟩
end Go.Proofs.YthcnjiigkmljnaaGreatDoor
/-
  The document's own parser: ahead.
-/
namespace Go.Proofs.YthcnjiigkmljnaaGreatDoor
open Go.RowKit

set_option maxRecDepth 100000 in
set_option maxHeartbeats 4000000 in
theorem pahead_any {w : World} {P : Nat} {A : Option Addr} {c : Nat} {L : List Tk} {i : Nat} {en a e : Int} (h : Ps w P A c L i en a e) (hi : i ≤ L.length) (hL : Sm L) (n : Nat) (hn : 1 ≤ n) (hn2 : n ≤ 2) :
    Calls Tryz.prog 28 #[.pointer (some ⟨P, 0, none⟩), .int .i64 (n : Int)] w fun r w' => r = .returned (tv (backT L i n)) ∧ Ps w' P A c L i en a e ∧ Fr w w' P := by
  have c0 := h.c0
  have c1 := h.c1
  have hlt := h.lt
  have hL1 := hL.1
  unfold backT
  by_cases hb : n ≤ i ∧ i - n < L.length
  · rw [if_pos hb]
    obtain ⟨b, o, hAe, hbP, hcl⟩ := h.tl (by omega)
    obtain ⟨g0, g1, g2, g3⟩ := hcl (i - n) hb.2
    subst hAe
    have HP := Lib.hid h
    clear h hcl
    unfold tv
    generalize (tg L (i - n)).kind = q1 at *
    generalize (tg L (i - n)).at_ = q2 at *
    generalize (tg L (i - n)).n = q3 at *
    generalize (tg L (i - n)).s = q4 at *
    have ek : (i : Int) - (n : Int) = ((i - n : Nat) : Int) := by omega
    obtain ⟨hb1, hb2⟩ := hb
    generalize i - n = k at *
    have t0 : decide (((k : Nat) : Int) < 0) = false := by simp
    have t1 : decide (L.length ≤ k) = false := by simp; omega
    have hbw : b < w.heap.size := by omega
    have hPw : P ≠ w.heap.size := by omega
    go_enter Tryz.func28, Tryz.ntmps28
    go_wp2
    refine bodyPost_ret (v := _) (by simp [results, Tryz.results28, go_sem]; try rfl) rfl ⟨rfl, HP.out.alloc _, (Fr.refl w P).alloc _⟩
  · rw [if_neg hb]
    have HP := Lib.hid h
    clear h
    have t0 : decide ((i : Int) - (n : Int) < 0) = true := by simp; omega
    clear hb
    go_enter Tryz.func28, Tryz.ntmps28
    go_wp2
    refine bodyPost_ret (v := _) (by simp [results, Tryz.results28, go_sem]; try rfl) rfl ⟨rfl, HP.out.alloc _, (Fr.refl w P).alloc _⟩
end Go.Proofs.YthcnjiigkmljnaaGreatDoor
/-
  hornbookref02.Units: the units of bytes, by the document's own.
-/
namespace Go.Proofs.YthcnjiigkmljnaaGreatDoor
open Go.RowKit

set_option maxHeartbeats 2000000 in
theorem rUnits_new (A : Option Addr) (c : Nat) (l : List UInt8) (w : World) (hA : Sl w w.heap.size A l) (hl : l.length ≤ 1048576) :
    Calls Tryz.prog 103 #[.slice A l.length c] w (RetSiN w (units l) (oddB l)) := by
  obtain ⟨i0, hi, hz0, hz1, hz2⟩ := info_parts info64
  go_enter Tryz.func103, Tryz.ntmps103
  go_wp2
  go_loopw [4, 5] (fun v i wr => ∃ (j : Nat) (out : List Int), j ≤ l.length ∧ i = .int .i64 (j : Int) ∧ out.length ≤ j ∧ Hid (out ++ units (l.drop j) = units l) ∧ wr.ownsRow w.heap.size 3 1 v out.length (ivs out) ∧ Below w.heap.size w wr) (fun _ i _ => l.length + 1 - (intOf i).toNat)
  case atStart => exact ⟨0, [], Nat.zero_le _, rfl, by simp, by rfl, by simpa [ivs] using World.ownsRow_nil _ _ _ _, Below.refl _ _⟩
  case round =>
    obtain ⟨j, out, hj, rfl, hout, HE, hown, hbel⟩ := hrel
    by_cases hlt : j + 1 < l.length
    · obtain ⟨b, o, rfl, hbl, hc⟩ := hA (by omega)
      obtain ⟨x, hx⟩ : ∃ x, x = l[j]?.getD 0 := ⟨_, rfl⟩
      obtain ⟨y, hy⟩ : ∃ y, y = l[j + 1]?.getD 0 := ⟨_, rfl⟩
      have hcell : wr.cell? ⟨b, o + j, none⟩ = some (.int .u8 (x.toNat : Int)) := by rw [hx]; exact (hbel.cell (p := ⟨b, o + j, none⟩) hbl).trans (hc j (by omega))
      have hcell2 : wr.cell? ⟨b, o + (j + 1), none⟩ = some (.int .u8 (y.toNat : Int)) := by rw [hy]; exact (hbel.cell (p := ⟨b, o + (j + 1), none⟩) hbl).trans (hc (j + 1) hlt)
      have HX := Lib.hid hx
      have HY := Lib.hid hy
      clear hc hx hy
      have hsz := hbel.size
      have hx1 := x.toNat_lt
      have hy1 := y.toNat_lt
      have hlt' : (j : Int) + 1 < (l.length : Int) := by omega
      have j0 : (0 : Int) ≤ (j : Int) := by omega
      have j1 : (j : Int) < (l.length : Int) := by omega
      have j2 : (0 : Int) ≤ (j : Int) + 1 := by omega
      have hBel1 : b < wr.heap.size := by omega
      have wj1 : IntKind.i64.wrap ((j : Int) + 1) = (j : Int) + 1 := IntWalk.i64_in _ (by omega)
      have w2 : IntKind.i64.wrap (j : Int) = (j : Int) := IntWalk.i64_in _ (by omega)
      have w3 : IntKind.i64.wrap (x.toNat : Int) = (x.toNat : Int) := IntWalk.i64_in _ (by omega)
      have w4 : IntKind.i64.wrap (y.toNat : Int) = (y.toNat : Int) := IntWalk.i64_in _ (by omega)
      have w5 : IntKind.i64.wrap ((x.toNat : Int) * 256) = (x.toNat : Int) * 256 := IntWalk.i64_in _ (by omega)
      have w6 : IntKind.i64.wrap ((x.toNat : Int) * 256 + (y.toNat : Int)) = (x.toNat : Int) * 256 + (y.toNat : Int) := IntWalk.i64_in _ (by omega)
      have w7 := or_byte (x.toNat : Int) y.toNat (by omega) (by omega) (by omega)
      have t1 : ((j : Int) + 1).toNat = j + 1 := by omega
      go_wp2
      go_region_held_law (fun w' => w'.cell? ⟨b, o + j, none⟩ = some (.int .u8 (x.toNat : Int)) ∧ w'.cell? ⟨b, o + (j + 1), none⟩ = some (.int .u8 (y.toNat : Int)))
        (first | exact ⟨hcell, hcell2⟩ | exact ⟨(World.cell?_alloc_lt _ _ _ hBel1).trans hcell, (World.cell?_alloc_lt _ _ _ hBel1).trans hcell2⟩ | exact hcells)
        ((refine step_append_lies _ (by rfl) _ _ _ (by rfl) w.heap.size 3 i0 (.int .i64 0) 1 8 Tryz.underlying48 hi hz0 hz1 hz2 rfl (by omega) u4 _ _ (by rfl) (hown.alloc _).drew ⟨wr.heap.size, 0, none⟩ 1 1 (ivs [(x.toNat : Int) * 256 + (y.toNat : Int)]) (by rfl) (by rfl) (World.news_of_block (heap_alloc_new wr _)) (ivs_one _) (by omega) (by unfold maxLen; omega) (by omega) (by simp; omega) _ rfl ?_; intro g cap w1 hown1 hgrow hat hgl; have hb2 : Below w.heap.size w w1 := ((hbel.alloc hsz _).drew).grown hgrow (by simp; omega) (fun q hq => (hown.lt q hq).1); have hcells : w1.cell? ⟨b, o + j, none⟩ = some (.int .u8 (x.toNat : Int)) ∧ w1.cell? ⟨b, o + (j + 1), none⟩ = some (.int .u8 (y.toNat : Int)) := ⟨(hb2.cell (p := ⟨b, o + j, none⟩) hbl).trans ((hbel.cell (p := ⟨b, o + j, none⟩) hbl).symm.trans hcell), (hb2.cell (p := ⟨b, o + (j + 1), none⟩) hbl).trans ((hbel.cell (p := ⟨b, o + (j + 1), none⟩) hbl).symm.trans hcell2)⟩))
      all_goals
        have hown2 := own_ints (b := [(x.toNat : Int) * 256 + (y.toNat : Int)]) hown1 (by simp)
        clear hown1 hgrow hat hgl hcells hcell hcell2 w2 w3 w4 w5 w6 w7 t1
        clear wj1
        go_wp2
        go_roundw
        case rel => exact ⟨j + 2, _, by omega, by go_num, by simp; omega, units_at hlt HX.out HY.out HE.out, hown2, hb2⟩
        case measure => simp [intOf]; omega
    · have he : out = units l := by
        have := HE.out
        rw [units_short (by rw [List.length_drop]; omega)] at this
        simpa using this
      subst he
      obtain ⟨c', _, hc', A', hv, hsl⟩ := Si.of_own hown
      subst hv
      have hnew : ∀ g o, A' = some ⟨g, o, none⟩ → w.heap.size ≤ g := fun g o e => (hown.lt g (by rw [e]; rfl)).1
      have hlt' : ¬ (j : Int) + 1 < (l.length : Int) := by omega
      rcases Nat.mod_two_eq_zero_or_one l.length with hm | hm
      · have ho : oddB l = false := by simp [oddB, hm]
        have HO := Lib.hid ho
        have hm' : ((l.length : Int) % 2 == 1) = false := by rw [beq_eq_false_iff_ne]; omega
        clear hm ho
        go_wp2
        go_ret2
        rw [HO.out]
        exact ⟨A', c', rfl, hc', hsl, hnew, hbel⟩
      · have ho : oddB l = true := by simp [oddB, hm]
        have HO := Lib.hid ho
        have hm' : ((l.length : Int) % 2 == 1) = true := by rw [beq_iff_eq]; omega
        clear hm ho
        go_wp2
        go_ret2
        rw [HO.out]
        exact ⟨A', c', rfl, hc', hsl, hnew, hbel⟩
theorem rUnits_any (A : Option Addr) (c : Nat) (l : List UInt8) (w : World) (hA : Sl w w.heap.size A l) (hl : l.length ≤ 1048576) :
    Calls Tryz.prog 103 #[.slice A l.length c] w (RetSiB w (units l) (oddB l)) :=
  (rUnits_new A c l w hA hl).mono fun _ _ ⟨A', c', h1, h2, h3, _, h5⟩ => ⟨A', c', h1, h2, h3, h5⟩
end Go.Proofs.YthcnjiigkmljnaaGreatDoor
/-
  The document's own White and Digit: what they answer, for every number.
-/
namespace Go.Proofs.YthcnjiigkmljnaaGreatDoor
open Go.RowKit

set_option maxHeartbeats 1000000 in
theorem rWhite_any (c : Int) (w : World) :
    Calls Tryz.prog 91 #[.int .i64 c] w fun e w' => e = .returned (.bool (kz c == 1)) ∧ w = w' := by
  by_cases h : c = 0 ∨ c = 9 ∨ c = 10 ∨ c = 12 ∨ c = 13 ∨ c = 32
  · rcases h with rfl | rfl | rfl | rfl | rfl | rfl
    · have e : (kz 0 == 1) = true := by decide
      rw [e]
      clear e
      go_enter Tryz.func91, Tryz.ntmps91
      go_wp2
      go_ret
      exact ⟨rfl, rfl⟩
    · have e : (kz 9 == 1) = true := by decide
      rw [e]
      clear e
      go_enter Tryz.func91, Tryz.ntmps91
      go_wp2
      go_ret
      exact ⟨rfl, rfl⟩
    · have e : (kz 10 == 1) = true := by decide
      rw [e]
      clear e
      go_enter Tryz.func91, Tryz.ntmps91
      go_wp2
      go_ret
      exact ⟨rfl, rfl⟩
    · have e : (kz 12 == 1) = true := by decide
      rw [e]
      clear e
      go_enter Tryz.func91, Tryz.ntmps91
      go_wp2
      go_ret
      exact ⟨rfl, rfl⟩
    · have e : (kz 13 == 1) = true := by decide
      rw [e]
      clear e
      go_enter Tryz.func91, Tryz.ntmps91
      go_wp2
      go_ret
      exact ⟨rfl, rfl⟩
    · have e : (kz 32 == 1) = true := by decide
      rw [e]
      clear e
      go_enter Tryz.func91, Tryz.ntmps91
      go_wp2
      go_ret
      exact ⟨rfl, rfl⟩
  · have e : (kz c == 1) = false := by
      rw [beq_eq_false_iff_ne]
      unfold kz tabAt
      repeat' split
      all_goals omega
    rw [e]
    clear e
    have e0 : (c == 0) = false := by rw [beq_eq_false_iff_ne]; omega
    have e9 : (c == 9) = false := by rw [beq_eq_false_iff_ne]; omega
    have e10 : (c == 10) = false := by rw [beq_eq_false_iff_ne]; omega
    have e12 : (c == 12) = false := by rw [beq_eq_false_iff_ne]; omega
    have e13 : (c == 13) = false := by rw [beq_eq_false_iff_ne]; omega
    have e32 : (c == 32) = false := by rw [beq_eq_false_iff_ne]; omega
    clear h
    go_enter Tryz.func91, Tryz.ntmps91
    go_wp2
    go_ret
    exact ⟨rfl, rfl⟩

theorem hd_toNat (k : Nat) (h : k < 16) : ((hd k).toNat : Int) = if k < 10 then (48 : Int) + k else 55 + k := by
  unfold hd
  split
  · simp; omega
  · simp; omega
/-- A number is the digit k, in capitals or in small letters. -/
def isDig (c : Int) (k : Nat) : Prop := c = ((hd k).toNat : Int) ∨ (9 < k ∧ c = ((hd k).toNat : Int) + 32)
theorem isDig_kz {c : Int} {k : Nat} (hk : k < 16) : isDig c k ↔ kz c = (k : Int) + 2 := by
  unfold isDig
  rw [hd_toNat k hk]
  unfold kz tabAt
  repeat' split
  all_goals omega

set_option maxHeartbeats 1000000 in
theorem rDigit_yes (c : Int) (w : World) (h : 2 ≤ kz c) :
    Calls Tryz.prog 66 #[.int .i64 c] w fun e w' => e = .returned (.tuple #[.int .i64 (kz c - 2), .bool true]) ∧ w = w' := by
  obtain ⟨d, hd'⟩ : ∃ d : Nat, kz c - 2 = (d : Int) := ⟨(kz c - 2).toNat, by omega⟩
  have hd16 : d < 16 := by have := kz_bounds c; omega
  rw [hd']
  have hkz : kz c = (d : Int) + 2 := by omega
  have HK := Lib.hid hkz
  have hcaps := caps
  clear hd' h hkz
  go_enter Tryz.func66, Tryz.ntmps66
  go_wp2
  go_loop [4] (fun i => ∃ k : Nat, k ≤ d ∧ i = .int .i64 k) (fun i => 16 - (intOf i).toNat)
  case atStart => exact ⟨0, Nat.zero_le _, rfl⟩
  case round =>
    obtain ⟨k, hk, rfl⟩ := hrel
    have hb := hd_toNat k (by omega)
    have hb1 : (0 : Int) ≤ ((hd k).toNat : Int) := by omega
    have hb2 : ((hd k).toNat : Int) ≤ 255 := by rw [hb]; split <;> omega
    have HB := Lib.hid hb
    clear hb
    by_cases hkd : k = d
    · subst hkd
      have hdig := (isDig_kz (c := c) (k := k) (by omega)).2 HK.out
      rcases hdig with hc | ⟨h9, hc⟩
      · have t1 : (c == ((hd k).toNat : Int)) = true := by rw [hc]; simp
        clear hc
        go_wp2
        go_ret2
        exact ⟨rfl, rfl⟩
      · have t1 : (c == ((hd k).toNat : Int)) = false := by rw [beq_eq_false_iff_ne]; omega
        have t2 : decide ((9 : Int) < (k : Int)) = true := by simp; omega
        have t3 : (c == ((hd k).toNat : Int) + 32) = true := by rw [hc]; simp
        clear hc
        go_wp2
        go_ret2
        exact ⟨rfl, rfl⟩
    · have hno : ¬ isDig c k := fun hh => hkd (by have := (isDig_kz (by omega)).1 hh; rw [HK.out] at this; omega)
      have hlt : k < d := by omega
      have t1 : (c == ((hd k).toNat : Int)) = false := by rw [beq_eq_false_iff_ne]; exact fun hh => hno (.inl hh)
      by_cases h9 : 9 < k
      · have t2 : decide ((9 : Int) < (k : Int)) = true := by simp; omega
        have t3 : (c == ((hd k).toNat : Int) + 32) = false := by rw [beq_eq_false_iff_ne]; exact fun hh => hno (.inr ⟨h9, hh⟩)
        clear hno hkd
        go_wp2
        go_round
        case rel => exact ⟨k + 1, by omega, by go_num⟩
        case measure => simp [intOf]; omega
      · have t2 : decide ((9 : Int) < (k : Int)) = false := by simp; omega
        clear hno hkd
        go_wp2
        go_round
        case rel => exact ⟨k + 1, by omega, by go_num⟩
        case measure => simp [intOf]; omega

set_option maxHeartbeats 1000000 in
theorem rDigit_no (c : Int) (w : World) (h : kz c < 2) :
    Calls Tryz.prog 66 #[.int .i64 c] w fun e w' => e = .returned (.tuple #[.int .i64 0, .bool false]) ∧ w = w' := by
  have HK := Lib.hid h
  have hcaps := caps
  clear h
  go_enter Tryz.func66, Tryz.ntmps66
  go_wp2
  go_loop [4] (fun i => ∃ k : Nat, k ≤ 16 ∧ i = .int .i64 k) (fun i => 16 - (intOf i).toNat)
  case atStart => exact ⟨0, Nat.zero_le _, rfl⟩
  case round =>
    obtain ⟨k, hk, rfl⟩ := hrel
    by_cases hlt : k < 16
    · have hb := hd_toNat k hlt
      have hb1 : (0 : Int) ≤ ((hd k).toNat : Int) := by omega
      have hb2 : ((hd k).toNat : Int) ≤ 255 := by rw [hb]; split <;> omega
      clear hb
      have hno : ¬ isDig c k := fun hh => by have := (isDig_kz hlt).1 hh; have := HK.out; omega
      have t1 : (c == ((hd k).toNat : Int)) = false := by rw [beq_eq_false_iff_ne]; exact fun hh => hno (.inl hh)
      by_cases h9 : 9 < k
      · have t2 : decide ((9 : Int) < (k : Int)) = true := by simp; omega
        have t3 : (c == ((hd k).toNat : Int) + 32) = false := by rw [beq_eq_false_iff_ne]; exact fun hh => hno (.inr ⟨h9, hh⟩)
        clear hno
        go_wp2
        go_round
        case rel => exact ⟨k + 1, by omega, by go_num⟩
        case measure => simp [intOf]; omega
      · have t2 : decide ((9 : Int) < (k : Int)) = false := by simp; omega
        clear hno
        go_wp2
        go_round
        case rel => exact ⟨k + 1, by omega, by go_num⟩
        case measure => simp [intOf]; omega
    · go_wp2
      go_ret2
      exact ⟨rfl, rfl⟩
end Go.Proofs.YthcnjiigkmljnaaGreatDoor
/-
  The document's own Full, at 1 to 4.
-/
namespace Go.Proofs.YthcnjiigkmljnaaGreatDoor
open Go.RowKit

set_option maxHeartbeats 1000000 in
theorem rFull_1 (w : World) : Calls Tryz.prog 129 #[.int .i64 1] w fun e w' => e = .returned (.int .i64 256) ∧ w' = w := by
  go_enter Tryz.func129, Tryz.ntmps129
  go_wp2
  go_rounds 2
  go_ret
  exact ⟨rfl, rfl⟩

set_option maxHeartbeats 1000000 in
theorem rFull_2 (w : World) : Calls Tryz.prog 129 #[.int .i64 2] w fun e w' => e = .returned (.int .i64 65536) ∧ w' = w := by
  go_enter Tryz.func129, Tryz.ntmps129
  go_wp2
  go_rounds 3
  go_ret
  exact ⟨rfl, rfl⟩

set_option maxHeartbeats 1000000 in
theorem rFull_3 (w : World) : Calls Tryz.prog 129 #[.int .i64 3] w fun e w' => e = .returned (.int .i64 16777216) ∧ w' = w := by
  go_enter Tryz.func129, Tryz.ntmps129
  go_wp2
  go_rounds 4
  go_ret
  exact ⟨rfl, rfl⟩

set_option maxHeartbeats 1000000 in
theorem rFull_4 (w : World) : Calls Tryz.prog 129 #[.int .i64 4] w fun e w' => e = .returned (.int .i64 4294967296) ∧ w' = w := by
  go_enter Tryz.func129, Tryz.ntmps129
  go_wp2
  go_rounds 5
  go_ret
  exact ⟨rfl, rfl⟩
end Go.Proofs.YthcnjiigkmljnaaGreatDoor
/-
  hornbookref01.Sane: may a code be, by the document's own.
-/
namespace Go.Proofs.YthcnjiigkmljnaaGreatDoor
open Go.RowKit

set_option maxHeartbeats 1000000 in
theorem rSane_any (n v : Int) (w : World) :
    Calls Tryz.prog 126 #[.agg #[.int .i64 n, .int .i64 v]] w fun e w' => e = .returned (.bool (saneB n v)) ∧ Below w.heap.size w w' := by
  by_cases h1 : 1 ≤ n
  · by_cases h2 : n ≤ 4
    · by_cases h3 : 0 ≤ v
      · rcases (show n = 1 ∨ n = 2 ∨ n = 3 ∨ n = 4 by omega) with rfl | rfl | rfl | rfl
        · have e : saneB 1 v = decide (v < 256) := by simp [saneB, h3]
          rw [e]
          clear e h1 h2
          go_enter Tryz.func126, Tryz.ntmps126
          go_wp2
          go_quiet ((go_at_call 129; exact Calls.quiet_of_same (rFull_1 _)))
          go_wp2
          go_ret
          exact ⟨rfl, below_drewN ((Below.refl _ _).alloc (Nat.le_refl _) _) _⟩
        · have e : saneB 2 v = decide (v < 65536) := by simp [saneB, h3]
          rw [e]
          clear e h1 h2
          go_enter Tryz.func126, Tryz.ntmps126
          go_wp2
          go_quiet ((go_at_call 129; exact Calls.quiet_of_same (rFull_2 _)))
          go_wp2
          go_ret
          exact ⟨rfl, below_drewN ((Below.refl _ _).alloc (Nat.le_refl _) _) _⟩
        · have e : saneB 3 v = decide (v < 16777216) := by simp [saneB, h3]
          rw [e]
          clear e h1 h2
          go_enter Tryz.func126, Tryz.ntmps126
          go_wp2
          go_quiet ((go_at_call 129; exact Calls.quiet_of_same (rFull_3 _)))
          go_wp2
          go_ret
          exact ⟨rfl, below_drewN ((Below.refl _ _).alloc (Nat.le_refl _) _) _⟩
        · have e : saneB 4 v = decide (v < 4294967296) := by simp [saneB, h3]
          rw [e]
          clear e h1 h2
          go_enter Tryz.func126, Tryz.ntmps126
          go_wp2
          go_quiet ((go_at_call 129; exact Calls.quiet_of_same (rFull_4 _)))
          go_wp2
          go_ret
          exact ⟨rfl, below_drewN ((Below.refl _ _).alloc (Nat.le_refl _) _) _⟩
      · have e : saneB n v = false := by simp [saneB]; omega
        rw [e]
        have d1 : decide (1 ≤ n) = true := by simpa using h1
        have d2 : decide (n ≤ 4) = true := by simpa using h2
        have d3 : decide (0 ≤ v) = false := by simpa using h3
        clear e
        go_enter Tryz.func126, Tryz.ntmps126
        go_wp2
        go_quiet (fail)
        go_wp2
        go_ret
        exact ⟨rfl, below_drewN ((Below.refl _ _).alloc (Nat.le_refl _) _) _⟩
    · have e : saneB n v = false := by simp [saneB]; omega
      rw [e]
      have d1 : decide (1 ≤ n) = true := by simpa using h1
      have d2 : decide (n ≤ 4) = false := by simpa using h2
      clear e
      go_enter Tryz.func126, Tryz.ntmps126
      go_wp2
      go_quiet (fail)
      go_wp2
      go_ret
      exact ⟨rfl, below_drewN ((Below.refl _ _).alloc (Nat.le_refl _) _) _⟩
  · have e : saneB n v = false := by simp [saneB]; omega
    rw [e]
    have d1 : decide (1 ≤ n) = false := by simpa using h1
    clear e
    go_enter Tryz.func126, Tryz.ntmps126
    go_wp2
    go_quiet (fail)
    go_wp2
    go_ret
    exact ⟨rfl, below_drewN ((Below.refl _ _).alloc (Nat.le_refl _) _) _⟩
end Go.Proofs.YthcnjiigkmljnaaGreatDoor
/-
  hornbookref01.Bytes: the bytes of a code, by the document's own.
-/
namespace Go.Proofs.YthcnjiigkmljnaaGreatDoor
open Go.RowKit

set_option maxHeartbeats 1000000 in
theorem rBytes_1 (v : Int) (w : World) (h0 : 0 ≤ v) (h1 : v < 256) :
    Calls Tryz.prog 118 #[.agg #[.int .i64 1, .int .i64 v]] w (RetSl w (beL 1 v)) := by
  have hs : saneB 1 v = true := by rw [saneB_iff]; simp; omega
  have hmk : ∀ w, (Instr.makeSlice 93 (.int .i64 1) (.int .i64 1)).run Tryz.prog w = .ok (.slice (some ⟨w.heap.size, 0, none⟩) 1 1) (w.alloc (.cells #[.int .u8 0] 5)) := fun _ => by kernel_rfl
  go_enter Tryz.func118, Tryz.ntmps118
  go_wp2_with (go_at_call 126; refine (rSane_any _ _ _).mono ?_; rintro e w1 ⟨rfl, hb⟩; have hc0 : w1.cell? ⟨w.heap.size, 0, none⟩ = some (.int .i64 1) := (hb.cell (p := ⟨w.heap.size, 0, none⟩) (by simp)).trans (by simp); have hc1 : w1.cell? ⟨w.heap.size, 1, none⟩ = some (.int .i64 v) := (hb.cell (p := ⟨w.heap.size, 1, none⟩) (by simp)).trans (by simp); have hz : w.heap.size < w1.heap.size := (by have := hb.size; simp at this; omega))
  go_rounds 2
  go_ret
  refine ret_lit hb _ _ ?_ _ (beL_length _ _).symm
  simp only [bvs, beL, List.map_cons, List.map_nil, List.nil_append, low_byte]
set_option maxHeartbeats 1000000 in
theorem rBytes_2 (v : Int) (w : World) (h0 : 0 ≤ v) (h1 : v < 65536) :
    Calls Tryz.prog 118 #[.agg #[.int .i64 2, .int .i64 v]] w (RetSl w (beL 2 v)) := by
  have hs : saneB 2 v = true := by rw [saneB_iff]; simp; omega
  have hmk : ∀ w, (Instr.makeSlice 93 (.int .i64 2) (.int .i64 2)).run Tryz.prog w = .ok (.slice (some ⟨w.heap.size, 0, none⟩) 2 2) (w.alloc (.cells #[.int .u8 0, .int .u8 0] 5)) := fun _ => by kernel_rfl
  go_enter Tryz.func118, Tryz.ntmps118
  go_wp2_with (go_at_call 126; refine (rSane_any _ _ _).mono ?_; rintro e w1 ⟨rfl, hb⟩; have hc0 : w1.cell? ⟨w.heap.size, 0, none⟩ = some (.int .i64 2) := (hb.cell (p := ⟨w.heap.size, 0, none⟩) (by simp)).trans (by simp); have hc1 : w1.cell? ⟨w.heap.size, 1, none⟩ = some (.int .i64 v) := (hb.cell (p := ⟨w.heap.size, 1, none⟩) (by simp)).trans (by simp); have hz : w.heap.size < w1.heap.size := (by have := hb.size; simp at this; omega))
  go_rounds 3
  go_ret
  refine ret_lit hb _ _ ?_ _ (beL_length _ _).symm
  simp only [bvs, beL, List.map_cons, List.map_nil, List.nil_append, List.cons_append, low_byte]
set_option maxHeartbeats 1000000 in
theorem rBytes_3 (v : Int) (w : World) (h0 : 0 ≤ v) (h1 : v < 16777216) :
    Calls Tryz.prog 118 #[.agg #[.int .i64 3, .int .i64 v]] w (RetSl w (beL 3 v)) := by
  have hs : saneB 3 v = true := by rw [saneB_iff]; simp; omega
  have hmk : ∀ w, (Instr.makeSlice 93 (.int .i64 3) (.int .i64 3)).run Tryz.prog w = .ok (.slice (some ⟨w.heap.size, 0, none⟩) 3 3) (w.alloc (.cells #[.int .u8 0, .int .u8 0, .int .u8 0] 5)) := fun _ => by kernel_rfl
  go_enter Tryz.func118, Tryz.ntmps118
  go_wp2_with (go_at_call 126; refine (rSane_any _ _ _).mono ?_; rintro e w1 ⟨rfl, hb⟩; have hc0 : w1.cell? ⟨w.heap.size, 0, none⟩ = some (.int .i64 3) := (hb.cell (p := ⟨w.heap.size, 0, none⟩) (by simp)).trans (by simp); have hc1 : w1.cell? ⟨w.heap.size, 1, none⟩ = some (.int .i64 v) := (hb.cell (p := ⟨w.heap.size, 1, none⟩) (by simp)).trans (by simp); have hz : w.heap.size < w1.heap.size := (by have := hb.size; simp at this; omega))
  go_rounds 4
  go_ret
  refine ret_lit hb _ _ ?_ _ (beL_length _ _).symm
  simp only [bvs, beL, List.map_cons, List.map_nil, List.nil_append, List.cons_append, low_byte]
set_option maxHeartbeats 1000000 in
theorem rBytes_4 (v : Int) (w : World) (h0 : 0 ≤ v) (h1 : v < 4294967296) :
    Calls Tryz.prog 118 #[.agg #[.int .i64 4, .int .i64 v]] w (RetSl w (beL 4 v)) := by
  have hs : saneB 4 v = true := by rw [saneB_iff]; simp; omega
  have hmk : ∀ w, (Instr.makeSlice 93 (.int .i64 4) (.int .i64 4)).run Tryz.prog w = .ok (.slice (some ⟨w.heap.size, 0, none⟩) 4 4) (w.alloc (.cells #[.int .u8 0, .int .u8 0, .int .u8 0, .int .u8 0] 5)) := fun _ => by kernel_rfl
  go_enter Tryz.func118, Tryz.ntmps118
  go_wp2_with (go_at_call 126; refine (rSane_any _ _ _).mono ?_; rintro e w1 ⟨rfl, hb⟩; have hc0 : w1.cell? ⟨w.heap.size, 0, none⟩ = some (.int .i64 4) := (hb.cell (p := ⟨w.heap.size, 0, none⟩) (by simp)).trans (by simp); have hc1 : w1.cell? ⟨w.heap.size, 1, none⟩ = some (.int .i64 v) := (hb.cell (p := ⟨w.heap.size, 1, none⟩) (by simp)).trans (by simp); have hz : w.heap.size < w1.heap.size := (by have := hb.size; simp at this; omega))
  go_rounds 5
  go_ret
  refine ret_lit hb _ _ ?_ _ (beL_length _ _).symm
  simp only [bvs, beL, List.map_cons, List.map_nil, List.nil_append, List.cons_append, low_byte]

set_option maxHeartbeats 1000000 in
theorem rBytes_no (n v : Int) (w : World) (hs : saneB n v = false) :
    Calls Tryz.prog 118 #[.agg #[.int .i64 n, .int .i64 v]] w (RetSl w []) := by
  go_enter Tryz.func118, Tryz.ntmps118
  go_wp2_with (go_at_call 126; refine (rSane_any _ _ _).mono ?_; rintro e w1 ⟨rfl, hb⟩)
  go_ret
  exact ⟨none, 0, rfl, Nat.le_refl _, Sl.nil, ((Below.refl _ _).alloc (Nat.le_refl _) _).trans (hb.mono (by simp))⟩

theorem rBytes_any (n v : Int) (w : World) : Calls Tryz.prog 118 #[.agg #[.int .i64 n, .int .i64 v]] w (RetSl w (codeL n v)) := by
  by_cases hs : saneB n v = true
  · have e : codeL n v = beL n.toNat v := by simp [codeL, hs]
    rw [e]
    obtain ⟨h1, h2, h3, h4⟩ := (saneB_iff n v).1 hs
    rcases (show n = 1 ∨ n = 2 ∨ n = 3 ∨ n = 4 by omega) with rfl | rfl | rfl | rfl
    · exact rBytes_1 v w h3 (by simpa using h4)
    · exact rBytes_2 v w h3 (by simpa using h4)
    · exact rBytes_3 v w h3 (by simpa using h4)
    · exact rBytes_4 v w h3 (by simpa using h4)
  · have hs' : saneB n v = false := by simpa using hs
    have e : codeL n v = [] := by simp [codeL, hs']
    rw [e]
    exact rBytes_no n v w hs'
end Go.Proofs.YthcnjiigkmljnaaGreatDoor
/-
  The document's own parser: to, units, below.
-/
namespace Go.Proofs.YthcnjiigkmljnaaGreatDoor
open Go.RowKit

set_option maxRecDepth 100000 in
set_option maxHeartbeats 4000000 in
theorem pto_any {w : World} {P : Nat} {A : Option Addr} {c : Nat} {L : List Tk} {i : Nat} {en a e : Int} (h : Ps w P A c L i en a e) (hi : i ≤ L.length) (hL : Sm L) (more : Int) (hm0 : -8589934592 ≤ more) (hm1 : more ≤ 8589934592) :
    Calls Tryz.prog 75 #[.pointer (some ⟨P, 0, none⟩), .int .i64 more] w fun r w' => ∃ (x : Int) (i' : Nat) (a' e' : Int), r = .returned (.int .i64 x) ∧ Ps w' P A c L i' en a' e' ∧ i' ≤ L.length ∧ Fr w w' P ∧ Oc (toT L en more i) (fun _ => True) i a e x i' a' e' := by
  have hT := ptake_any h hi hL 1
  have HT := Lib.hid hT
  clear hT h
  go_enter Tryz.func75, Tryz.ntmps75
  go_wp2_with fail
  refine HT.out.mono ?_
  rintro r w1 ⟨t, i1, a1, e1, rfl, hp1, hi1, hts, hf1, hoc⟩
  clear HT
  obtain ⟨kind, at_, n, s⟩ := t
  unfold tv
  simp only
  have hlt1 := hp1.lt
  by_cases hv : n < 0 ∨ 65535 - more < n
  · have hoc2 : Oc (toT L en more i) (fun _ => True) i a e n i1 (if e1 = 0 then at_ else a1) (if e1 = 0 then 7 else e1) := by
      rcases hoc with ⟨h1, h2, h3, h4, _⟩ | ⟨h1, h2, h3, _⟩ | ⟨h1, h2, h3, h4⟩
      · rw [if_neg (by rw [h4]; exact h1), if_neg (by rw [h4]; exact h1)]
        exact .inl ⟨h1, h2, h3, h4, trivial⟩
      · rw [if_neg h3, if_neg h3]
        exact .inr (.inl ⟨h1, by unfold toT; rw [h2, then_no], h3, trivial⟩)
      · rw [if_pos h4, if_pos h4]
        exact .inr (.inl ⟨h1, by unfold toT; rw [h2, then_ok]; simp only; rw [if_pos hv], by decide, trivial⟩)
    have hcs : decide (n < 0) = true ∨ (decide (n < 0) = false ∧ decide (65535 - more < n) = true) := by simp; omega
    clear hoc hv
    rcases hcs with d1 | ⟨d1, d2⟩
    all_goals
      go_wp2_with (go_at_call 19; refine (pfail_any (hp1.alloc _) at_ 7).mono ?_; rintro r w4 ⟨rfl, hp4, hf4⟩; have k2 := (hf4.kept hlt1 2).1; simp at k2)
      go_ret
      exact ⟨n, i1, _, _, rfl, hp4, hi1, (hf1.alloc _).trans hf4, hoc2⟩
  · have hoc2 : Oc (toT L en more i) (fun _ => True) i a e n i1 a1 e1 := by
      rcases hoc with ⟨h1, h2, h3, h4, _⟩ | ⟨h1, h2, h3, _⟩ | ⟨h1, h2, h3, h4⟩
      · exact .inl ⟨h1, h2, h3, h4, trivial⟩
      · exact .inr (.inl ⟨h1, by unfold toT; rw [h2, then_no], h3, trivial⟩)
      · exact .inr (.inr ⟨h1, by unfold toT; rw [h2, then_ok]; simp only; rw [if_neg hv], h3, h4⟩)
    have d1 : decide (n < 0) = false := by simp; omega
    have d2 : decide (65535 - more < n) = false := by simp; omega
    clear hoc hv
    go_wp2
    refine bodyPost_ret (v := _) (by simp [results, Tryz.results75, go_sem]; try rfl) rfl ⟨n, rfl, i1, a1, e1, hp1.alloc _, hi1, hf1.alloc _, hoc2⟩

/-- What units hands back: ints in a block that is not the parser's, newer than all that was there. -/
def Uv (w : World) (P : Nat) (v : Value) (u : List Int) : Prop := ∃ (A : Option Addr) (c : Nat), v = .slice A u.length c ∧ (u.length ≤ c ∧ (A = none → c = 0)) ∧ (0 < u.length → ∃ b o, A = some ⟨b, o, none⟩ ∧ b < w.heap.size ∧ b ≠ P ∧ ∀ j, j < u.length → w.cell? ⟨b, o + j, none⟩ = some (.int .i64 (u[j]?.getD 0)))
theorem Uv.fr {w w' : World} {P : Nat} {v : Value} {u : List Int} (h : Uv w P v u) (hf : Fr w w' P) : Uv w' P v u := by
  obtain ⟨A, c, e, hc, hh⟩ := h
  refine ⟨A, c, e, hc, fun hn => ?_⟩
  obtain ⟨b, o, e2, hb, hne, hcl⟩ := hh hn
  exact ⟨b, o, e2, Nat.lt_of_lt_of_le hb hf.size, hne, fun j hj => (hf.cell ⟨b, o + j, none⟩ hb hne).trans (hcl j hj)⟩

theorem Uv.of_Si {w : World} {P : Nat} {A : Option Addr} {c : Nat} {u : List Int} (h : Si w w.heap.size A u) (hc : u.length ≤ c ∧ (Value.slice A u.length c = .slice none u.length c → c = 0)) (hne : ∀ b o, A = some ⟨b, o, none⟩ → 0 < u.length → b ≠ P) : Uv w P (.slice A u.length c) u :=
  ⟨A, c, rfl, ⟨hc.1, fun e => hc.2 (by rw [e])⟩, fun hn => by
    obtain ⟨b, o, e, hb, hcl⟩ := h hn
    exact ⟨b, o, e, hb, hne b o e hn, hcl⟩⟩
set_option maxRecDepth 100000 in
set_option maxHeartbeats 4000000 in
theorem punits_any {w : World} {P : Nat} {A : Option Addr} {c : Nat} {L : List Tk} {i : Nat} {en a e : Int} (h : Ps w P A c L i en a e) (t : Tk) (ht : t.s.length ≤ 1048576) :
    Calls Tryz.prog 78 #[.pointer (some ⟨P, 0, none⟩), tv t] w fun r w' => ∃ v, r = .returned v ∧ Uv w' P v (units t.s) ∧ Ps w' P A c L i en (if unitsT t = none ∧ e = 0 then t.at_ else a) (if unitsT t = none ∧ e = 0 then 3 else e) ∧ Fr w w' P := by
  obtain ⟨kind, at_, n, s⟩ := t
  simp only at ht
  unfold tv
  simp only
  have hlt := h.lt
  obtain ⟨cap, w2, hcv, hcell, _, hb2, hsz2, hcap⟩ := run_bytes (P := Tryz.prog) (w.alloc (.cells #[.int .i64 kind, .int .i64 at_, .int .i64 n, .string (str s)] 42)) 9 93 5 s Tryz.underlying9 Tryz.underlying93 Tryz.underlying5
  have hS1 : (w.alloc (.cells #[.int .i64 kind, .int .i64 at_, .int .i64 n, .string (str s)] 42)).heap.size = w.heap.size + 1 := by simp
  have hsl : Sl w2 w2.heap.size (some ⟨w.heap.size + 1, 0, none⟩) s := fun _ => ⟨_, 0, rfl, by rw [hS1] at hsz2; exact hsz2, fun j hj => by rw [Nat.zero_add, ← hS1]; exact hcell j hj⟩
  rw [hS1] at hcv
  have hU := rUnits_new (some ⟨w.heap.size + 1, 0, none⟩) cap s w2 hsl ht
  have HU := Lib.hid hU
  have hp2 := (h.alloc (.cells #[.int .i64 kind, .int .i64 at_, .int .i64 n, .string (str s)] 42)).over hb2
  have hf2 := ((Fr.refl w P).alloc (.cells #[.int .i64 kind, .int .i64 at_, .int .i64 n, .string (str s)] 42)).over hb2
  have k1 : w2.cell? ⟨w.heap.size, 1, none⟩ = some (.int .i64 at_) := (hb2.cell (p := ⟨w.heap.size, 1, none⟩) (by simp)).trans (by simp)
  clear hU hcell hsl h
  have hcs := units_cs kind at_ n s
  have hfin : ∃ aa ee, aa = (if unitsT ⟨kind, at_, n, s⟩ = none ∧ e = 0 then at_ else a) ∧ ee = (if unitsT ⟨kind, at_, n, s⟩ = none ∧ e = 0 then (3 : Int) else e) := ⟨_, _, rfl, rfl⟩
  obtain ⟨aa, ee, haa, hee⟩ := hfin
  rw [← haa, ← hee]
  generalize oddB s = od' at *
  generalize units s = us at *
  go_enter Tryz.func78, Tryz.ntmps78
  go_wp2_with fail
  refine HU.out.mono ?_
  rintro r w3 ⟨B, d, rfl, hd, hsi, hnew, hb3⟩
  have hP2 : P < w2.heap.size := hp2.lt
  have huv := Uv.of_Si (P := P) hsi hd (fun g o e _ => by have := hnew g o e; omega)
  have hp3 := hp2.over hb3
  have hf3 := hf2.over hb3
  have hT3 : w.heap.size < w2.heap.size := by have h1 := hb2.size; simp at h1; omega
  have k3 := (hb3.cell (p := ⟨w.heap.size, 1, none⟩) hT3).trans k1
  clear hnew hsi HU
  rcases hcs with ⟨hn, hbad⟩ | ⟨hn, b1, b2, b3⟩
  · have hF := pfail_any hp3 at_ 3
    have e1 : (if unitsT ⟨kind, at_, n, s⟩ = none ∧ e = 0 then at_ else a) = (if e = 0 then at_ else a) := by simp [hn]
    have e2 : (if unitsT ⟨kind, at_, n, s⟩ = none ∧ e = 0 then (3 : Int) else e) = (if e = 0 then 3 else e) := by simp [hn]
    rw [← e1, ← e2, ← haa, ← hee] at hF
    have HF := Lib.hid hF
    clear hF e1 e2 hn haa hee
    rcases hbad with rfl | ⟨rfl, b2 | ⟨b2, b3⟩⟩
    all_goals
      go_wp2_with (go_at_call 19; refine HF.out.mono ?_; rintro r w4 ⟨rfl, hp4, hf4⟩)
      refine bodyPost_ret (v := _) (by simp [results, Tryz.results78, go_sem]; try rfl) rfl ⟨_, rfl, huv.fr hf4, hp4, hf3.trans hf4⟩
  · have e1 : (if unitsT ⟨kind, at_, n, s⟩ = none ∧ e = 0 then at_ else a) = a := if_neg (fun h => hn h.1)
    have e2 : (if unitsT ⟨kind, at_, n, s⟩ = none ∧ e = 0 then (3 : Int) else e) = e := if_neg (fun h => hn h.1)
    have hp3' := hp3
    rw [← haa.trans e1, ← hee.trans e2] at hp3'
    clear e1 e2 hn haa hee
    subst b1
    go_wp2
    refine bodyPost_ret (v := _) (by simp [results, Tryz.results78, go_sem]; try rfl) rfl ⟨_, rfl, huv, hp3', hf3⟩
end Go.Proofs.YthcnjiigkmljnaaGreatDoor
