/-
  Parts of this proof, one behind the other: RefTok4.
-/
import Derived.Test.YthcnjiigkmljnaaGreatDoorPart8
import Derived.Test.YthcnjiigkmljnaaGreatDoorPart5
/-
  hornbookref04.Next and All: the document's own tokens.
-/
namespace Go.Proofs.YthcnjiigkmljnaaGreatDoor
open Go.RowKit

theorem isB_gen {l : List UInt8} {p : Nat} (c : UInt8) : isB l (p + 1) c = decide ((l.drop (p + 1)).head? = some c) := by
  unfold isB
  rw [List.head?_drop]
  by_cases h : l[p + 1]? = some c <;> simp [h]
theorem mk_62n {t : List UInt8} (h : t.head? ≠ some 62) : mk (62 :: t) = 0 := by simp [mk, h]
theorem mk_60n {t : List UInt8} (h : t.head? ≠ some 60) : mk (60 :: t) = 0 := by simp [mk, h]
theorem rv_mk {p : Nat} {d : List UInt8} {m : Nat} (h : mk d = m) (h6 : 6 ≤ m) : rv p (tk d) = .tuple #[.agg #[.int .i64 (m : Int), .int .i64 (p : Int), .int .i64 0, .string ⟨#[]⟩], .int .i64 ((p : Int) + ((mkL m).length : Int)), .int .i64 0] := by
  rw [tk_mk (by omega), h, rv_ok]; rfl

set_option maxRecDepth 100000 in
set_option maxHeartbeats 8000000 in
theorem rNext_any (l : List UInt8) (a : Int) (w : World) (hl : l.length ≤ 65536) :
    Calls Tryz.prog 24 #[.string (str l), .int .i64 a] w fun e w' => e = .returned (nxv l (skN l a)) ∧ Below w.heap.size w w' := by
  have hS : ∀ w, Calls Tryz.prog 40 #[.string (str l), .int .i64 a] w fun e w' => e = .returned (.int .i64 (skN l a : Nat)) ∧ w = w' := fun w => rSkip_any l a w (by omega)
  have hp := skN_le l a
  generalize skN l a = p at *
  have HS := Lib.hid hS
  clear hS
  have hF : ∀ (a b : Int) (w : World), Calls Tryz.prog 41 #[.int .i64 a, .int .i64 b] w fun e w' => e = .returned (.tuple #[.agg #[.int .i64 0, .int .i64 0, .int .i64 0, .string ⟨#[]⟩], .int .i64 a, .int .i64 b]) ∧ Below w.heap.size w w' := fun a b w => rfail_any a b w
  have HF := Lib.hid hF
  clear hF
  unfold nxv
  by_cases hpl : p = l.length
  · rw [if_pos hpl]
    have t0 : ((p : Int) == (l.length : Int)) = true := by rw [beq_iff_eq]; omega
    have t0' : (p == l.length) = true := by rw [beq_iff_eq]; omega
    clear hpl
    go_enter Tryz.func24, Tryz.ntmps24
    go_wp2_with (go_at_call 40; refine (HS.out _).mono ?_; rintro e w' ⟨rfl, rfl⟩)
    refine bodyPost_ret (v := _) (by simp [results, Tryz.results24, go_sem]; try rfl) rfl ⟨rfl, (Below.refl _ _).alloc (Nat.le_refl _) _⟩
  · rw [if_neg hpl]
    have hlt : p < l.length := by omega
    have t0 : ((p : Int) == (l.length : Int)) = false := by rw [beq_eq_false_iff_ne]; omega
    have t0' : (p == l.length) = false := by rw [beq_eq_false_iff_ne]; omega
    obtain ⟨x, hx⟩ : ∃ x, x = l[p]?.getD 0 := ⟨_, rfl⟩
    have hgs : ∀ h, (str l)[p]'h = x := fun h => (get_str l p h).trans hx.symm
    have hx1 := x.toNat_lt
    have hdr := drop_at hlt hx
    clear hx hpl
    by_cases h1 : x = 91
    · subst h1
      rw [rv_mk (m := 6) (by rw [hdr]; rfl) (by omega)]
      clear hdr
      go_enter Tryz.func24, Tryz.ntmps24
      go_wp2_with (go_at_call 40; refine (HS.out _).mono ?_; rintro e w' ⟨rfl, rfl⟩)
      refine bodyPost_ret (v := _) (by simp [results, Tryz.results24, go_sem]; try rfl) rfl ⟨rfl, (Below.refl _ _).alloc (Nat.le_refl _) _⟩
    have n1 : ((x.toNat : Int) == 91) = false := byte_ne h1
    by_cases h2 : x = 93
    · subst h2
      rw [rv_mk (m := 7) (by rw [hdr]; rfl) (by omega)]
      clear hdr
      go_enter Tryz.func24, Tryz.ntmps24
      go_wp2_with (go_at_call 40; refine (HS.out _).mono ?_; rintro e w' ⟨rfl, rfl⟩)
      refine bodyPost_ret (v := _) (by simp [results, Tryz.results24, go_sem]; try rfl) rfl ⟨rfl, (Below.refl _ _).alloc (Nat.le_refl _) _⟩
    have n2 : ((x.toNat : Int) == 93) = false := byte_ne h2
    by_cases h3 : x = 123
    · subst h3
      rw [rv_mk (m := 10) (by rw [hdr]; rfl) (by omega)]
      clear hdr
      go_enter Tryz.func24, Tryz.ntmps24
      go_wp2_with (go_at_call 40; refine (HS.out _).mono ?_; rintro e w' ⟨rfl, rfl⟩)
      refine bodyPost_ret (v := _) (by simp [results, Tryz.results24, go_sem]; try rfl) rfl ⟨rfl, (Below.refl _ _).alloc (Nat.le_refl _) _⟩
    have n3 : ((x.toNat : Int) == 123) = false := byte_ne h3
    by_cases h4 : x = 125
    · subst h4
      rw [rv_mk (m := 11) (by rw [hdr]; rfl) (by omega)]
      clear hdr
      go_enter Tryz.func24, Tryz.ntmps24
      go_wp2_with (go_at_call 40; refine (HS.out _).mono ?_; rintro e w' ⟨rfl, rfl⟩)
      refine bodyPost_ret (v := _) (by simp [results, Tryz.results24, go_sem]; try rfl) rfl ⟨rfl, (Below.refl _ _).alloc (Nat.le_refl _) _⟩
    have n4 : ((x.toNat : Int) == 125) = false := byte_ne h4
    by_cases h5 : x = 41
    · subst h5
      have e : tk (l.drop p) = noR 0 3 := by rw [hdr]; exact tk_form rfl (.inl rfl)
      rw [e, rv_no _ _ _ (by decide)]
      clear hdr e
      go_enter Tryz.func24, Tryz.ntmps24
      go_wp2_with (first | (go_at_call 40; refine (HS.out _).mono ?_; rintro e w' ⟨rfl, rfl⟩) | (go_at_call 41; refine (HF.out _ _ _).mono ?_; rintro e w4 ⟨rfl, hb4⟩; obtain ⟨⟨c0, c1, c2, c3⟩, ⟨z0, z1, z2, z3⟩, hlt', hB⟩ := res_of hb4; clear hb4))
      refine bodyPost_ret (v := _) (by simp [results, Tryz.results24, go_sem, c0, c1, c2, c3]; try rfl) rfl ⟨by simp, below_4 hB (Nat.le_refl _) _ _ _ _⟩
    have n5 : ((x.toNat : Int) == 41) = false := byte_ne h5
    by_cases h6 : x = 62
    · subst h6
      have hI : ∀ w, Calls Tryz.prog 42 #[.string (str l), .int .i64 ((p : Int) + 1), .int .u8 62] w fun e w' => e = .returned (.bool (isB l (p + 1) 62)) ∧ w = w' := fun w => ris_any l (p + 1) 62 w
      rw [isB_gen] at hI
      by_cases hh : (l.drop (p + 1)).head? = some 62
      · rw [decide_eq_true hh] at hI
        have HI := Lib.hid hI
        rw [rv_mk (m := 9) (by rw [hdr]; show (if _ then _ else _) = _; simp [hh]) (by omega)]
        clear hdr hI hh
        go_enter Tryz.func24, Tryz.ntmps24
        go_wp2_with (first | (go_at_call 40; refine (HS.out _).mono ?_; rintro e w' ⟨rfl, rfl⟩) | (go_at_call 42; refine (HI.out _).mono ?_; rintro e w' ⟨rfl, rfl⟩))
        refine bodyPost_ret (v := _) (by simp [results, Tryz.results24, go_sem]; try rfl) rfl ⟨rfl, (Below.refl _ _).alloc (Nat.le_refl _) _⟩
      · rw [decide_eq_false hh] at hI
        have HI := Lib.hid hI
        have e : tk (l.drop p) = noR 0 3 := by rw [hdr]; exact tk_form (mk_62n hh) (.inr rfl)
        rw [e, rv_no _ _ _ (by decide)]
        clear hdr hI hh e
        go_enter Tryz.func24, Tryz.ntmps24
        go_wp2_with (first | (go_at_call 40; refine (HS.out _).mono ?_; rintro e w' ⟨rfl, rfl⟩) | (go_at_call 42; refine (HI.out _).mono ?_; rintro e w' ⟨rfl, rfl⟩) | (go_at_call 41; refine (HF.out _ _ _).mono ?_; rintro e w4 ⟨rfl, hb4⟩; obtain ⟨⟨c0, c1, c2, c3⟩, ⟨z0, z1, z2, z3⟩, hlt', hB⟩ := res_of hb4; clear hb4))
        refine bodyPost_ret (v := _) (by simp [results, Tryz.results24, go_sem, c0, c1, c2, c3]; try rfl) rfl ⟨by simp, below_4 hB (Nat.le_refl _) _ _ _ _⟩
    have n6 : ((x.toNat : Int) == 62) = false := byte_ne h6
    by_cases h7 : x = 47
    · subst h7
      have hw1 : wdL l ((p : Int) + 1) = (l.drop (p + 1)).take (wn (l.drop (p + 1))) := by
        have := pl_of l.length (p + 1) (by omega)
        unfold wdL; rw [show (p : Int) + 1 = ((p + 1 : Nat) : Int) by omega, this]
      have hw2 : wdN l ((p : Int) + 1) = p + 1 + wn (l.drop (p + 1)) := by
        have := pl_of l.length (p + 1) (by omega)
        unfold wdN; rw [show (p : Int) + 1 = ((p + 1 : Nat) : Int) by omega, this]
      have hW : ∀ w, Calls Tryz.prog 43 #[.string (str l), .int .i64 ((p : Int) + 1)] w fun e w' => e = .returned (.tuple #[.string (str (wdL l ((p : Int) + 1))), .int .i64 (wdN l ((p : Int) + 1) : Nat)]) ∧ w = w' := fun w => rWord_any l _ w (by omega)
      have hwl := wn_le (l.drop (p + 1))
      rw [hw1, hw2] at hW
      have hdl : ((l.drop (p + 1)).take (wn (l.drop (p + 1)))).length ≤ l.length := by simp; omega
      have e : tk (l.drop p) = okR 2 0 (nameL ((l.drop (p + 1)).take (wn (l.drop (p + 1))))) (1 + wn (l.drop (p + 1))) := by rw [hdr]; exact tk_name _
      rw [List.length_drop] at hwl
      rw [e]
      clear e hdr
      generalize wn (l.drop (p + 1)) = k at *
      generalize (l.drop (p + 1)).take k = dd at *
      have hN : ∀ w, Calls Tryz.prog 44 #[.string (str dd)] w fun e w' => e = .returned (.string (str (nameL dd))) ∧ Below w.heap.size w w' := fun w => rName_any dd w (by omega)
      generalize nameL dd = nm at *
      have e1 : (p : Int) + ((1 + k : Nat) : Int) = ((p + 1 + k : Nat) : Int) := by omega
      rw [rv_ok, e1]
      have hk2 : p + 1 + k ≤ l.length := by omega
      have HW := Lib.hid hW
      have HN := Lib.hid hN
      clear hW hN hw1 hw2 e1
      generalize p + 1 + k = q at *
      go_enter Tryz.func24, Tryz.ntmps24
      go_wp2_with (first | (go_at_call 40; refine (HS.out _).mono ?_; rintro e w' ⟨rfl, rfl⟩) | (go_at_call 43; refine (HW.out _).mono ?_; rintro e w' ⟨rfl, rfl⟩) | (go_at_call 44; refine (HN.out _).mono ?_; rintro e w4 ⟨rfl, hb4⟩; obtain ⟨⟨c0, c1, c2, c3⟩, ⟨z0, z1, z2, z3⟩, hlt', hB⟩ := res_of hb4; clear hb4))
      refine bodyPost_ret (v := _) (by simp [results, Tryz.results24, go_sem, c0, c1, c2, c3]; try rfl) rfl ⟨rfl, below_4 hB (Nat.le_refl _) _ _ _ _⟩
    have n7 : ((x.toNat : Int) == 47) = false := byte_ne h7
    by_cases h8 : x = 60
    · subst h8
      have hI : ∀ w, Calls Tryz.prog 42 #[.string (str l), .int .i64 ((p : Int) + 1), .int .u8 60] w fun e w' => e = .returned (.bool (isB l (p + 1) 60)) ∧ w = w' := fun w => ris_any l (p + 1) 60 w
      rw [isB_gen] at hI
      by_cases hh : (l.drop (p + 1)).head? = some 60
      · rw [decide_eq_true hh] at hI
        have HI := Lib.hid hI
        rw [rv_mk (m := 8) (by rw [hdr]; show (if _ then _ else _) = _; simp [hh]) (by omega)]
        clear hdr hI hh
        go_enter Tryz.func24, Tryz.ntmps24
        go_wp2_with (first | (go_at_call 40; refine (HS.out _).mono ?_; rintro e w' ⟨rfl, rfl⟩) | (go_at_call 42; refine (HI.out _).mono ?_; rintro e w' ⟨rfl, rfl⟩))
        refine bodyPost_ret (v := _) (by simp [results, Tryz.results24, go_sem]; try rfl) rfl ⟨rfl, (Below.refl _ _).alloc (Nat.le_refl _) _⟩
      · rw [decide_eq_false hh] at hI
        have HI := Lib.hid hI
        have e : tk (l.drop p) = tkHex (l.drop (p + 1)) := by rw [hdr]; exact tk_hex (mk_60n hh)
        have hH : ∀ w, Calls Tryz.prog 45 #[.string (str l), .int .i64 (p : Int)] w fun e w' => e = .returned (rv p (tkHex (l.drop (p + 1)))) ∧ Below w.heap.size w w' := fun w => rhexed_any l p w hlt (by omega)
        rw [e]
        simp only [rv_eq] at hH ⊢
        clear hdr hI hh e
        generalize tkHex (l.drop (p + 1)) = r at *
        generalize (rT p r).kind = q1 at *
        generalize (rT p r).at_ = q2 at *
        generalize (rT p r).n = q3 at *
        generalize (rT p r).s = q4 at *
        generalize (p : Int) + (r.k : Int) = q5 at *
        generalize r.e = q6 at *
        have HH := Lib.hid hH
        clear hH
        go_enter Tryz.func24, Tryz.ntmps24
        go_wp2_with (first | (go_at_call 40; refine (HS.out _).mono ?_; rintro e w' ⟨rfl, rfl⟩) | (go_at_call 42; refine (HI.out _).mono ?_; rintro e w' ⟨rfl, rfl⟩) | (go_at_call 45; refine (HH.out _).mono ?_; rintro e w4 ⟨rfl, hb4⟩; obtain ⟨⟨c0, c1, c2, c3⟩, ⟨z0, z1, z2, z3⟩, hlt', hB⟩ := res_of hb4; clear hb4))
        refine bodyPost_ret (v := _) (by simp [results, Tryz.results24, go_sem, c0, c1, c2, c3]; try rfl) rfl ⟨rfl, below_4 hB (Nat.le_refl _) _ _ _ _⟩
    have n8 : ((x.toNat : Int) == 60) = false := byte_ne h8
    by_cases h9 : x = 40
    · subst h9
      have e : tk (l.drop p) = tkStr (l.drop (p + 1)) := by rw [hdr]; exact tk_str _
      have hH : ∀ w, Calls Tryz.prog 46 #[.string (str l), .int .i64 (p : Int)] w fun e w' => e = .returned (rv p (tkStr (l.drop (p + 1)))) ∧ Below w.heap.size w w' := fun w => rstrung_any l p w hlt (by omega)
      rw [e]
      simp only [rv_eq] at hH ⊢
      clear hdr e
      generalize tkStr (l.drop (p + 1)) = r at *
      generalize (rT p r).kind = q1 at *
      generalize (rT p r).at_ = q2 at *
      generalize (rT p r).n = q3 at *
      generalize (rT p r).s = q4 at *
      generalize (p : Int) + (r.k : Int) = q5 at *
      generalize r.e = q6 at *
      have HH := Lib.hid hH
      clear hH
      go_enter Tryz.func24, Tryz.ntmps24
      go_wp2_with (first | (go_at_call 40; refine (HS.out _).mono ?_; rintro e w' ⟨rfl, rfl⟩) | (go_at_call 46; refine (HH.out _).mono ?_; rintro e w4 ⟨rfl, hb4⟩; obtain ⟨⟨c0, c1, c2, c3⟩, ⟨z0, z1, z2, z3⟩, hlt', hB⟩ := res_of hb4; clear hb4))
      refine bodyPost_ret (v := _) (by simp [results, Tryz.results24, go_sem, c0, c1, c2, c3]; try rfl) rfl ⟨rfl, below_4 hB (Nat.le_refl _) _ _ _ _⟩
    have n9 : ((x.toNat : Int) == 40) = false := byte_ne h9
    have e : tk (l.drop p) = tkWord (l.drop p) := by
      rw [hdr, tk_0 (by simp [mk, h1, h2, h3, h4, h6, h8])]
      rw [if_neg (by rintro (h | h) <;> contradiction), if_neg h7, if_neg h8, if_neg h9]
    have hH : ∀ w, Calls Tryz.prog 47 #[.string (str l), .int .i64 (p : Int)] w fun e w' => e = .returned (rv p (tkWord (l.drop p))) ∧ Below w.heap.size w w' := fun w => rworded_any l p w hp (by omega)
    rw [e]
    simp only [rv_eq] at hH ⊢
    clear hdr e h1 h2 h3 h4 h5 h6 h7 h8 h9
    generalize tkWord (l.drop p) = r at *
    generalize (rT p r).kind = q1 at *
    generalize (rT p r).at_ = q2 at *
    generalize (rT p r).n = q3 at *
    generalize (rT p r).s = q4 at *
    generalize (p : Int) + (r.k : Int) = q5 at *
    generalize r.e = q6 at *
    have HH := Lib.hid hH
    clear hH
    go_enter Tryz.func24, Tryz.ntmps24
    go_wp2_with (first | (go_at_call 40; refine (HS.out _).mono ?_; rintro e w' ⟨rfl, rfl⟩) | (go_at_call 47; refine (HH.out _).mono ?_; rintro e w4 ⟨rfl, hb4⟩; obtain ⟨⟨c0, c1, c2, c3⟩, ⟨z0, z1, z2, z3⟩, hlt', hB⟩ := res_of hb4; clear hb4))
    refine bodyPost_ret (v := _) (by simp [results, Tryz.results24, go_sem, c0, c1, c2, c3]; try rfl) rfl ⟨rfl, below_4 hB (Nat.le_refl _) _ _ _ _⟩

set_option maxRecDepth 100000 in
set_option maxHeartbeats 4000000 in
theorem rAll_any (l : List UInt8) (w : World) (hl : l.length ≤ 65535) :
    Calls Tryz.prog 14 #[.string (str l)] w fun e w' => RetTk w (all 0 l) e w' := by
  obtain ⟨i0, hi, hz0, hz1, hz2⟩ := info_parts infoT
  go_enter Tryz.func14, Tryz.ntmps14
  go_wp2
  go_loopw [5, 6] (fun v i wr => ∃ (q : Nat) (out : List Tk), q ≤ l.length ∧ out.length ≤ q ∧ i = .int .i64 (q : Int) ∧ Hid (all 0 l = Al.pre out (all q (l.drop q))) ∧ wr.ownsRow w.heap.size 42 4 v out.length (tvs out) ∧ Below w.heap.size w wr) (fun _ i _ => l.length - (intOf i).toNat)
  case atStart => exact ⟨0, [], Nat.zero_le _, Nat.le_refl _, rfl, Lib.hid (by rw [pre_nil]; rfl), World.ownsRow_nil _ _ _ _, Below.refl _ _⟩
  case round =>
    obtain ⟨q, out, hq, hout, rfl, HE, hown, hbel⟩ := hrel
    have hsz := hbel.size
    have hN := rNext_any l (q : Int) wr (by omega)
    rw [skN_of hq] at hN
    have hsl := sk_le (l.drop q) false
    rw [List.length_drop] at hsl
    have hE := HE.out
    by_cases hp : q + sk false (l.drop q) = l.length
    · have e1 : nxv l (q + sk false (l.drop q)) = .tuple #[.agg #[.int .i64 0, .int .i64 (l.length : Int), .int .i64 0, .string ⟨#[]⟩], .int .i64 (l.length : Int), .int .i64 0] := by
        unfold nxv; rw [if_pos hp, hp]; rfl
      rw [e1] at hN
      rw [all_end q (by rw [List.length_drop]; omega), List.length_drop] at hE
      have hG : all 0 l = ⟨out, l.length, 0⟩ := by rw [hE]; unfold Al.pre; simp; omega
      have HG := Lib.hid hG
      have HN := Lib.hid hN
      clear hN hE hG e1 hp HE
      obtain ⟨c', _, hc', A', hv, hst⟩ := St.of_own hown
      subst hv
      go_wp2_with (go_at_call 24; refine HN.out.mono ?_; rintro e w2 ⟨rfl, hb2⟩)
      go_ret3
      rw [HG.out]
      exact ⟨A', c', rfl, hc', (hst.over hb2).over (((Below.refl _ _).alloc (Nat.le_refl _) _)), hbel.trans ((hb2.trans (((Below.refl _ _).alloc (Nat.le_refl _) _).mono hb2.size)).mono hsz)⟩
    · have hlt : q + sk false (l.drop q) < l.length := by omega
      have hs : sk false (l.drop q) < (l.drop q).length := by rw [List.length_drop]; omega
      have hne := rest_ne hs
      have hz := sk_end (l.drop q) false
      have e1 : nxv l (q + sk false (l.drop q)) = rv (q + sk false (l.drop q)) (tk (l.drop (q + sk false (l.drop q)))) := by unfold nxv; rw [if_neg hp]
      rw [e1, ← List.drop_drop] at hN
      by_cases he : (tk ((l.drop q).drop (sk false (l.drop q)))).e = 0
      · have ok := tk_ok hne hz he
        rw [all_ok q hs he, pre_add] at hE
        have h1 := ok.pos
        have h2 := ok.le
        rw [List.length_drop, List.length_drop] at h2
        have hk0 : (tk ((l.drop q).drop (sk false (l.drop q)))).kind ≠ 0 := by
          rcases ok.gd with ⟨h, _⟩ | ⟨h, _⟩ | ⟨h, _⟩ | ⟨h, _⟩ | ⟨h, _⟩ | ⟨m, hm, h, _⟩ <;> rw [h] <;> omega
        rw [rv_eq] at hN
        clear ok hne hz e1 hs hp hlt HE
        generalize tk ((l.drop q).drop (sk false (l.drop q))) = r at *
        have hT : rT (q + sk false (l.drop q)) r = r.tok (q + sk false (l.drop q)) := by unfold rT; rw [if_pos he]
        have hkk : (r.tok (q + sk false (l.drop q))).kind = r.kind := rfl
        rw [← hkk] at hk0
        rw [hT, he] at hN
        rw [show ((q + sk false (l.drop q) : Nat) : Int) + (r.k : Int) = ((q + sk false (l.drop q) + r.k : Nat) : Int) by omega] at hN
        rw [List.drop_drop, ← Nat.add_assoc] at hE
        have hQ : q < q + sk false (l.drop q) + r.k ∧ q + sk false (l.drop q) + r.k ≤ l.length := by omega
        clear hT hkk h1 h2 he hsl
        generalize r.tok (q + sk false (l.drop q)) = t at *
        generalize q + sk false (l.drop q) + r.k = Q at *
        obtain ⟨kind, at_, n, s⟩ := t
        simp only at hk0 hN
        have HE2 := Lib.hid hE
        have HN := Lib.hid hN
        have tk0 : (kind == 0) = false := by rw [beq_eq_false_iff_ne]; exact hk0
        have to : ((out.length : Int) == 65536) = false := by rw [beq_eq_false_iff_ne]; omega
        have hol : out.length < 65536 := by omega
        clear hN hE hk0
        obtain ⟨c', _, hc', A', hv, hst⟩ := St.of_own hown
        subst hv
        clear hst
        go_wp2_with (first | (go_at_call 24; refine HN.out.mono ?_; rintro e w2 ⟨rfl, hb2⟩; have hown2 := own_belowN hown hb2 (Nat.le_refl _); have hbel2 := hbel.trans (hb2.mono hsz); have hsz2 := hbel2.size) | (at_builtin; refine wpList_append_lies _ rfl _ _ _ rfl w.heap.size 42 i0 (.agg #[.int .i64 0, .int .i64 0, .int .i64 0, .string ⟨#[]⟩]) 4 40 Tryz.underlying22 hi hz0 hz1 hz2 rfl (by omega) _ _ _ rfl ((hown2.alloc _).alloc _) ⟨w2.heap.size + 1, 0, none⟩ 1 1 (tq ⟨kind, at_, n, s⟩) rfl rfl (World.news_of_block (heap_alloc_two w2 _ _)) (by intro u hu; exact tvs_one [⟨kind, at_, n, s⟩] u (by simpa [tvs] using hu)) (by omega) (by unfold maxLen; omega) (by omega) (by simp; omega) _ rfl ?_; intro g cap w3 hown3 hgrow hat hgl))
        refine ⟨⟨Q, out ++ [⟨kind, at_, n, s⟩], hQ.2, by simp; omega, rfl, HE2, own_tok hown3 rfl, ?_⟩, by simp [intOf]; omega⟩
        exact ((hbel2.alloc hsz2 _).alloc (by simp; omega) _).grown hgrow (by simp; omega) (fun k hk => (hown2.lt k hk).1)
      · rw [all_no q hs he] at hE
        have hk := (tk_err_k hne hz he).1
        rw [List.length_drop, List.length_drop] at hk
        rw [rv_eq] at hN
        clear hne hz e1 hs hp hlt HE
        generalize tk ((l.drop q).drop (sk false (l.drop q))) = r at *
        have hT : rT (q + sk false (l.drop q)) r = noT := by unfold rT; rw [if_neg he]
        rw [hT] at hN
        have hG : all 0 l = ⟨[], q + sk false (l.drop q) + r.k, r.e⟩ := by rw [hE]; unfold Al.pre; rw [if_neg he]
        rw [show ((q + sk false (l.drop q) : Nat) : Int) + (r.k : Int) = ((q + sk false (l.drop q) + r.k : Nat) : Int) by omega] at hN
        have HG := Lib.hid hG
        have te : (r.e != 0) = true := by rw [bne_iff_ne]; exact he
        clear hT hE hG he hsl
        generalize q + sk false (l.drop q) + r.k = Q at *
        generalize r.e = E at *
        unfold noT at hN
        simp only at hN
        have HN := Lib.hid hN
        clear hN
        go_wp2_with (go_at_call 24; refine HN.out.mono ?_; rintro e w2 ⟨rfl, hb2⟩)
        go_ret3
        rw [HG.out]
        exact ⟨none, 0, rfl, Nat.le_refl _, St.nil, hbel.trans ((hb2.trans (((Below.refl _ _).alloc (Nat.le_refl _) _).mono hb2.size)).mono hsz)⟩
end Go.Proofs.YthcnjiigkmljnaaGreatDoor
