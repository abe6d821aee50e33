/-
  tok.Next: the next token of any text from any place on.
-/
import Derived.Test.YthcnjiigkmljnaaGreatDoorPart5
import Derived.Test.YthcnjiigkmljnaaGreatDoorTokStrAt
import Derived.Test.YthcnjiigkmljnaaGreatDoorPart6
namespace Go.Proofs.YthcnjiigkmljnaaGreatDoor
open Go.RowKit
attribute [local go_sem ↓] Go.wp_at_zero Go.wp_at_succ

set_option maxRecDepth 100000 in
set_option maxHeartbeats 4000000 in
theorem Next_any (l : List UInt8) (a : Int) (w : World) (ht : Tab w) (hm : Mks w) (hl : l.length ≤ 65536) :
    Calls Tryz.prog 23 #[.string (str l), .int .i64 a] w fun e w' => e = .returned (nxv l (skN l a)) ∧ Below w.heap.size w w' := by
  have hS : ∀ w, Tab w → Calls Tryz.prog 33 #[.string (str l), .int .i64 a] w fun e w' => e = .returned (.int .i64 (skN l a : Nat)) ∧ Below w.heap.size w w' := fun w ht => Skip_any l a w ht (by omega)
  have hp := skN_le l a
  have hta := ht.below' ((Below.refl _ _).alloc (Nat.le_refl _) tok0)
  have hma := hm.below' ((Below.refl _ _).alloc (Nat.le_refl _) tok0)
  unfold tok0 at hta hma
  generalize skN l a = p at *
  have HS := Lib.hid hS
  clear hS
  unfold nxv
  by_cases hpl : p = l.length
  · rw [if_pos hpl]
    have t0 : ((p : Int) == (l.length : Int)) = true := by rw [beq_iff_eq]; omega
    have t0' : (p == l.length) = true := by rw [beq_iff_eq]; omega
    clear hpl
    go_enter Tryz.func23, Tryz.ntmps23
    go_wp2_with (go_at_call 33; refine (HS.out _ hta).mono ?_; rintro e w2 ⟨rfl, hb2⟩; obtain ⟨⟨c0, c1, c2, c3⟩, ⟨z0, z1, z2, z3⟩, hlt, hB⟩ := res_of hb2; clear hb2)
    refine bodyPost_ret (v := _) (by simp [results, Tryz.results23, go_sem, c0, c1, c2, c3]; try rfl) rfl ⟨rfl, below_4 hB (Nat.le_refl _) _ _ _ _⟩
  · rw [if_neg hpl]
    have hlt : p < l.length := by omega
    have t0 : ((p : Int) == (l.length : Int)) = false := by rw [beq_eq_false_iff_ne]; omega
    have t0' : (p == l.length) = false := by rw [beq_eq_false_iff_ne]; omega
    have hM : ∀ w, Mks w → Calls Tryz.prog 34 #[.string (str l), .int .i64 (p : Int)] w fun e w' => e = .returned (.int .i64 (mk (l.drop p) : Nat)) ∧ Below w.heap.size w w' := fun w hm => markAt_any l p w hm hp
    have hle := mk_le (l.drop p)
    by_cases hmk : mk (l.drop p) = 0
    · obtain ⟨x, hx⟩ : ∃ x, x = l[p]?.getD 0 := ⟨_, rfl⟩
      have hgs : ∀ h, (str l)[p]'h = x := fun h => (get_str l p h).trans hx.symm
      have hx1 := x.toNat_lt
      have hdr := drop_at hlt hx
      rw [hmk] at hM
      have HM := Lib.hid hM
      have htk := tk_0 (x := x) (t := l.drop (p + 1)) (by rw [← hdr]; exact hmk)
      rw [← hdr] at htk
      rw [htk]
      clear hM hx hle htk hmk
      by_cases h1 : x = 41 ∨ x = 62
      · rw [if_pos h1, rv_no _ _ _ (by decide)]
        clear hdr
        rcases h1 with rfl | rfl
        all_goals
          go_enter Tryz.func23, Tryz.ntmps23
          go_wp2_with (first | (go_at_call 33; refine (HS.out _ hta).mono ?_; rintro e w2 ⟨rfl, hb2⟩; have hm2 := hma.below' hb2) | (go_at_call 34; refine (HM.out _ hm2).mono ?_; rintro e w3 ⟨rfl, hb3⟩; obtain ⟨⟨c0, c1, c2, c3⟩, ⟨z0, z1, z2, z3⟩, hlt, hB⟩ := res_of (hb2.trans (hb3.mono hb2.size)); clear hb2 hb3))
          refine bodyPost_ret (v := _) (by simp [results, Tryz.results23, go_sem, c0, c1, c2, c3]; try rfl) rfl ⟨by simp, below_4 hB (Nat.le_refl _) _ _ _ _⟩
      · rw [if_neg h1]
        have n41 : ((x.toNat : Int) == 41) = false := b_ne 41 (fun e => h1 (.inl e))
        have n62 : ((x.toNat : Int) == 62) = false := b_ne 62 (fun e => h1 (.inr e))
        clear h1
        by_cases h2 : x = 47
        · subst h2
          have hw1 : wdL l ((p : Int) + 1) = (l.drop (p + 1)).take (wn (l.drop (p + 1))) := by
            have := pl_of l.length (p + 1) (by omega)
            unfold wdL; rw [show (p : Int) + 1 = ((p + 1 : Nat) : Int) by omega, this]
          have hw2 : wdN l ((p : Int) + 1) = p + 1 + wn (l.drop (p + 1)) := by
            have := pl_of l.length (p + 1) (by omega)
            unfold wdN; rw [show (p : Int) + 1 = ((p + 1 : Nat) : Int) by omega, this]
          have hW : ∀ w, Tab w → Calls Tryz.prog 35 #[.string (str l), .int .i64 ((p : Int) + 1)] w fun e w' => e = .returned (.tuple #[.string (str (wdL l ((p : Int) + 1))), .int .i64 (wdN l ((p : Int) + 1) : Nat)]) ∧ w = w' := fun w ht => Word_any l _ w ht (by omega)
          have hwl := wn_le (l.drop (p + 1))
          rw [hw1, hw2] at hW
          have hdl : ((l.drop (p + 1)).take (wn (l.drop (p + 1)))).length ≤ l.length := by simp; omega
          rw [List.length_drop] at hwl
          generalize wn (l.drop (p + 1)) = k at *
          generalize (l.drop (p + 1)).take k = dd at *
          have hN : ∀ w, Tab w → Calls Tryz.prog 36 #[.string (str dd)] w fun e w' => e = .returned (.string (str (nameL dd))) ∧ Below w.heap.size w w' := fun w ht => Name_any dd w ht (by omega)
          generalize nameL dd = nm at *
          have e1 : (p : Int) + ((1 + k : Nat) : Int) = ((p + 1 + k : Nat) : Int) := by omega
          rw [if_pos rfl, rv_ok, e1]
          have hk2 : p + 1 + k ≤ l.length := by omega
          have HW := Lib.hid hW
          have HN := Lib.hid hN
          clear hW hN hw1 hw2 hdr e1 n41 n62
          generalize p + 1 + k = q at *
          go_enter Tryz.func23, Tryz.ntmps23
          go_wp2_with (first | (go_at_call 33; refine (HS.out _ hta).mono ?_; rintro e w2 ⟨rfl, hb2⟩; have hm2 := hma.below' hb2; have ht2 := hta.below' hb2) | (go_at_call 34; refine (HM.out _ hm2).mono ?_; rintro e w3 ⟨rfl, hb3⟩; have ht3 := ht2.below' hb3; have hb23 := hb2.trans (hb3.mono hb2.size); clear hb2 hb3) | (go_at_call 35; refine (HW.out _ ht3).mono ?_; rintro e w' ⟨rfl, rfl⟩) | (go_at_call 36; refine (HN.out _ ht3).mono ?_; rintro e w4 ⟨rfl, hb4⟩; obtain ⟨⟨c0, c1, c2, c3⟩, ⟨z0, z1, z2, z3⟩, hlt, hB⟩ := res_of (hb23.trans (hb4.mono hb23.size)); clear hb4))
          refine bodyPost_ret (v := _) (by simp [results, Tryz.results23, go_sem, c0, c1, c2, c3]; try rfl) rfl ⟨rfl, below_4 hB (Nat.le_refl _) _ _ _ _⟩
        · rw [if_neg h2]
          have n47 : ((x.toNat : Int) == 47) = false := b_ne 47 h2
          by_cases h3 : x = 60
          · subst h3
            rw [if_pos rfl, rv_eq]
            have hH : ∀ w, Tab w → Calls Tryz.prog 37 #[.string (str l), .int .i64 (p : Int)] w fun e w' => e = .returned (rv p (tkHex (l.drop (p + 1)))) ∧ Below w.heap.size w w' := fun w ht => hexAt_any l p w ht (by omega) (by omega)
            rw [rv_eq] at hH
            generalize tkHex (l.drop (p + 1)) = r at *
            generalize (rT p r).kind = q1 at *
            generalize (rT p r).at_ = q2 at *
            generalize (rT p r).n = q3 at *
            generalize (rT p r).s = q4 at *
            generalize (p : Int) + (r.k : Int) = q5 at *
            generalize r.e = q6 at *
            have HH := Lib.hid hH
            clear hH hdr n41 n62 n47 h2
            go_enter Tryz.func23, Tryz.ntmps23
            go_wp2_with (first | (go_at_call 33; refine (HS.out _ hta).mono ?_; rintro e w2 ⟨rfl, hb2⟩; have hm2 := hma.below' hb2; have ht2 := hta.below' hb2) | (go_at_call 34; refine (HM.out _ hm2).mono ?_; rintro e w3 ⟨rfl, hb3⟩; have ht3 := ht2.below' hb3; have hb23 := hb2.trans (hb3.mono hb2.size); clear hb2 hb3) | (go_at_call 37; refine (HH.out _ ht3).mono ?_; rintro e w4 ⟨rfl, hb4⟩; obtain ⟨⟨c0, c1, c2, c3⟩, ⟨z0, z1, z2, z3⟩, hlt, hB⟩ := res_of (hb23.trans (hb4.mono hb23.size)); clear hb4))
            refine bodyPost_ret (v := _) (by simp [results, Tryz.results23, go_sem, c0, c1, c2, c3]; try rfl) rfl ⟨rfl, below_4 hB (Nat.le_refl _) _ _ _ _⟩
          · rw [if_neg h3]
            have n60 : ((x.toNat : Int) == 60) = false := b_ne 60 h3
            by_cases h4 : x = 40
            · subst h4
              rw [if_pos rfl, rv_eq]
              have hH : ∀ w, Calls Tryz.prog 38 #[.string (str l), .int .i64 (p : Int)] w fun e w' => e = .returned (rv p (tkStr (l.drop (p + 1)))) ∧ Below w.heap.size w w' := fun w => strAt_any l p w (by omega) (by omega)
              rw [rv_eq] at hH
              generalize tkStr (l.drop (p + 1)) = r at *
              generalize (rT p r).kind = q1 at *
              generalize (rT p r).at_ = q2 at *
              generalize (rT p r).n = q3 at *
              generalize (rT p r).s = q4 at *
              generalize (p : Int) + (r.k : Int) = q5 at *
              generalize r.e = q6 at *
              have HH := Lib.hid hH
              clear hH hdr n41 n62 n47 n60 h2 h3
              go_enter Tryz.func23, Tryz.ntmps23
              go_wp2_with (first | (go_at_call 33; refine (HS.out _ hta).mono ?_; rintro e w2 ⟨rfl, hb2⟩; have hm2 := hma.below' hb2; have ht2 := hta.below' hb2) | (go_at_call 34; refine (HM.out _ hm2).mono ?_; rintro e w3 ⟨rfl, hb3⟩; have ht3 := ht2.below' hb3; have hb23 := hb2.trans (hb3.mono hb2.size); clear hb2 hb3) | (go_at_call 38; refine (HH.out _).mono ?_; rintro e w4 ⟨rfl, hb4⟩; obtain ⟨⟨c0, c1, c2, c3⟩, ⟨z0, z1, z2, z3⟩, hlt, hB⟩ := res_of (hb23.trans (hb4.mono hb23.size)); clear hb4))
              refine bodyPost_ret (v := _) (by simp [results, Tryz.results23, go_sem, c0, c1, c2, c3]; try rfl) rfl ⟨rfl, below_4 hB (Nat.le_refl _) _ _ _ _⟩
            · rw [if_neg h4, rv_eq]
              have n40 : ((x.toNat : Int) == 40) = false := b_ne 40 h4
              have hH : ∀ w, Tab w → Calls Tryz.prog 39 #[.string (str l), .int .i64 (p : Int)] w fun e w' => e = .returned (rv p (tkWord (l.drop p))) ∧ Below w.heap.size w w' := fun w ht => wordAt_any l p w ht (by omega) (by omega)
              rw [rv_eq] at hH
              clear hdr
              generalize tkWord (l.drop p) = r at *
              generalize (rT p r).kind = q1 at *
              generalize (rT p r).at_ = q2 at *
              generalize (rT p r).n = q3 at *
              generalize (rT p r).s = q4 at *
              generalize (p : Int) + (r.k : Int) = q5 at *
              generalize r.e = q6 at *
              have HH := Lib.hid hH
              clear hH h2 h3 h4
              go_enter Tryz.func23, Tryz.ntmps23
              go_wp2_with (first | (go_at_call 33; refine (HS.out _ hta).mono ?_; rintro e w2 ⟨rfl, hb2⟩; have hm2 := hma.below' hb2; have ht2 := hta.below' hb2) | (go_at_call 34; refine (HM.out _ hm2).mono ?_; rintro e w3 ⟨rfl, hb3⟩; have ht3 := ht2.below' hb3; have hb23 := hb2.trans (hb3.mono hb2.size); clear hb2 hb3) | (go_at_call 39; refine (HH.out _ ht3).mono ?_; rintro e w4 ⟨rfl, hb4⟩; obtain ⟨⟨c0, c1, c2, c3⟩, ⟨z0, z1, z2, z3⟩, hlt, hB⟩ := res_of (hb23.trans (hb4.mono hb23.size)); clear hb4))
              refine bodyPost_ret (v := _) (by simp [results, Tryz.results23, go_sem, c0, c1, c2, c3]; try rfl) rfl ⟨rfl, below_4 hB (Nat.le_refl _) _ _ _ _⟩
    · have htk := tk_mk hmk
      have h6 : 6 ≤ mk (l.drop p) ∧ mk (l.drop p) ≤ 11 := by omega
      rw [htk, rv_ok]
      generalize mk (l.drop p) = m at *
      have hcell : ∀ w, Mks w → w.cell? ⟨1, m, none⟩ = some (.string (str (mkL m))) := fun w h => h m (by omega)
      have hll : (mkL m).length ≤ 2 := by unfold mkL; repeat' split
                                          all_goals simp
      generalize mkL m = q at *
      have HC := Lib.hid hcell
      have HM := Lib.hid hM
      have t1 : ((m : Int) != 0) = true := by rw [bne_iff_ne]; omega
      have hwr : IntKind.i64.wrap ((p : Int) + (q.length : Int)) = (p : Int) + (q.length : Int) := IntWalk.i64_in _ (by omega)
      obtain ⟨hm6, hm11⟩ := h6
      clear hM hcell hle hmk htk
      go_enter Tryz.func23, Tryz.ntmps23
      go_wp2_with (first | (go_at_call 33; refine (HS.out _ hta).mono ?_; rintro e w2 ⟨rfl, hb2⟩; have hm2 := hma.below' hb2; have ht2 := hta.below' hb2) | (go_at_call 34; refine (HM.out _ hm2).mono ?_; rintro e w3 ⟨rfl, hb3⟩; have hm3 := HC.out _ (hm2.below' hb3); obtain ⟨⟨c0, c1, c2, c3⟩, ⟨z0, z1, z2, z3⟩, hlt, hB⟩ := res_of (hb2.trans (hb3.mono hb2.size)); clear hb2 hb3))
      go_region
      all_goals
        go_wp2
        refine bodyPost_ret (v := _) (by simp [results, Tryz.results23, go_sem, c0, c1, c2, c3]; try rfl) rfl ⟨rfl, by first | exact (below_4 hB (Nat.le_refl _) _ _ _ _).drew | exact below_4 hB.drew (Nat.le_refl _) _ _ _ _ | exact below_4 hB (Nat.le_refl _) _ _ _ _⟩
end Go.Proofs.YthcnjiigkmljnaaGreatDoor
