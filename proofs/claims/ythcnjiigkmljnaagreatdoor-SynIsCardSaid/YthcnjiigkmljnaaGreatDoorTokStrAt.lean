/-
  tok.strAt: a Str, whose bracket stands at a place.
-/
import Derived.Test.YthcnjiigkmljnaaGreatDoorPart5
import Derived.ScopeJumps
import Derived.WalkMore
namespace Go.Proofs.YthcnjiigkmljnaaGreatDoor
open Go.RowKit

section
variable {P : Program} {a : Act} {w : World} {Q : Exit → Act → World → Prop}
/-- A scope with one label: each pass from the label on, walked once. -/
theorem scope_passes {c rest : Code} (l : Nat) (J : Act → World → Prop) (μ : Act → World → Nat) (hf : findLabel c l = some (Code.seq Code.skip rest))
    (first : (∀ a w, J a w → rest.wp P (Exit.jump l J Q) a w) → c.wp P (Exit.jump l J Q) a w)
    (pass : ∀ a w, J a w → rest.wp P (Exit.jump l (fun a' w' => J a' w' ∧ μ a' w' < μ a w) Q) a w) : (Code.scope c).wp P Q a w :=
  wp_scope_jumps l J μ hf (first fun a w h => wp_mono (pass a w h) fun e a' w' hq => by
    cases e <;> first | exact hq | exact ⟨hq.1, hq.2.1⟩) fun a w h => wp_seq (wp_skip (pass a w h))
end
set_option maxRecDepth 100000 in
set_option maxHeartbeats 8000000 in
theorem strAt_any (l : List UInt8) (p : Nat) (w : World) (hp : p < l.length) (hl : l.length ≤ 1048576) :
    Calls Tryz.prog 38 #[.string (str l), .int .i64 (p : Int)] w fun e w' => e = .returned (rv p (tkStr (l.drop (p + 1)))) ∧ Below w.heap.size w w' := by
  obtain ⟨i0, hi, hz0, hz1, hz2⟩ := info_parts info8
  obtain ⟨R, hR⟩ : ∃ R, R = strT 1 (l.drop (p + 1)) := ⟨_, rfl⟩
  have HR : Hid (R = Sr.add [] (p + 1 - (p + 1)) (strT 1 (l.drop (p + 1)))) := Lib.hid (by rw [hR]; simp [Sr.add])
  unfold tkStr
  rw [← hR]
  clear hR
  go_enter Tryz.func38, Tryz.ntmps38
  go_wp2
  refine scope_passes 0 (fun a' wr => ∃ (k deep : Nat) (out : List UInt8) (v : Value), (∃ u10 u11 u12 u13 u14 u15 u16 u17 u18 u19 u20 u21 u22 u23 u24 u25 u26 u27 u28 u29 u30 u31 u32 u33 u34 u35 u36 u37 u38 u39 u40 u41 u42 u43 u44 u45 u46 u47 u48 u49 u50 u51 u52 u53 u54 u55 u56 u57 u58 u59 u60 u61 u62 u63 u64 u65 u66 u67 u68 u69 u70 u71 u72 u73 u74 u75 u76 u77 u78 : Value, a' = { tmps := #[.string (str l), .int .i64 (p : Int), undef, undef, .pointer (some ⟨w.heap.size, 0, none⟩), .int .i64 0, .int .i64 0, v, .int .i64 (deep : Int), .int .i64 (k : Int), u10, u11, u12, u13, u14, u15, u16, u17, u18, u19, u20, u21, u22, u23, u24, u25, u26, u27, u28, u29, u30, u31, u32, u33, u34, u35, u36, u37, u38, u39, u40, u41, u42, u43, u44, u45, u46, u47, u48, u49, u50, u51, u52, u53, u54, u55, u56, u57, u58, u59, u60, u61, u62, u63, u64, u65, u66, u67, u68, u69, u70, u71, u72, u73, u74, u75, u76, u77, u78], defers := [] }) ∧ p + 1 ≤ k ∧ k ≤ l.length ∧ 1 ≤ deep ∧ deep ≤ 32 ∧ out.length ≤ k ∧ Hid (R = Sr.add out (k - (p + 1)) (strT deep (l.drop k))) ∧ wr.ownsRow (w.heap.size + 1) 5 1 v out.length (bvs out) ∧ Below (w.alloc tok0).heap.size (w.alloc tok0) wr) (fun a' _ => l.length - (intOf (a'.tmps.getD 9 undef)).toNat) rfl ?_ ?_
  · intro hpass
    go_wp2
    go_step3
    rename_i K hK
    exact hK _ _ (hpass _ _ ⟨p + 1, 1, [], _, ⟨_, _, _, _, _, _, _, _, _, _, _, _, _, _, _, _, _, _, _, _, _, _, _, _, _, _, _, _, _, _, _, _, _, _, _, _, _, _, _, _, _, _, _, _, _, _, _, _, _, _, _, _, _, _, _, _, _, _, _, _, _, _, _, _, _, _, _, _, _, rfl⟩, by omega, by omega, by omega, by omega, by simp, HR, World.ownsRow_nil _ _ _ _, Below.refl _ _⟩)
  · rintro a' wr ⟨k, deep, out, v, ⟨u10, u11, u12, u13, u14, u15, u16, u17, u18, u19, u20, u21, u22, u23, u24, u25, u26, u27, u28, u29, u30, u31, u32, u33, u34, u35, u36, u37, u38, u39, u40, u41, u42, u43, u44, u45, u46, u47, u48, u49, u50, u51, u52, u53, u54, u55, u56, u57, u58, u59, u60, u61, u62, u63, u64, u65, u66, u67, u68, u69, u70, u71, u72, u73, u74, u75, u76, u77, u78, rfl⟩, hpk, hk, hd1, hd32, hout, HE, hown, hbel⟩
    have hsz : w.heap.size + 1 ≤ wr.heap.size := by have := hbel.size; simpa using this
    obtain ⟨⟨c0, c1, c2, c3⟩, ⟨z0, z1, z2, z3⟩, hlt0, hB⟩ := res_of hbel
    by_cases hlt : k < l.length
    · obtain ⟨x, hx⟩ : ∃ x, x = l[k]?.getD 0 := ⟨_, rfl⟩
      have hgs : ∀ h, (str l)[k]'h = x := fun h => (get_str l k h).trans hx.symm
      have hx1 := x.toNat_lt
      have hdr := drop_at hlt hx
      have t0 : ((k : Int) == (l.length : Int)) = false := by rw [beq_eq_false_iff_ne]; omega
      have t0' : (k == l.length) = false := by rw [beq_eq_false_iff_ne]; omega
      have hcast : ((k + 1 : Nat) : Int) = (k : Int) + 1 := by omega
      clear hx
      by_cases h40 : x = 40
      · subst h40
        by_cases hd : deep = 32
        · subst hd
          have hr := HE.out
          rw [hdr, strT_stop (k := 0) (e := 5) rfl] at hr
          have e1 : R.e = 5 := by rw [hr]; rfl
          have e2 : R.k = k - (p + 1) := by rw [hr]; rfl
          have HG : Hid (rv p (if R.e = 0 then okR 5 0 R.s (1 + R.k) else noR (1 + R.k) R.e) = .tuple #[.agg #[.int .i64 0, .int .i64 0, .int .i64 0, .string ⟨#[]⟩], .int .i64 (k : Int), .int .i64 5]) := Lib.hid (by
            rw [if_neg (by rw [e1]; decide), e1, e2, rv_no _ _ _ (by decide)]
            congr 5
            omega)
          clear hdr hr e1 e2 HE
          go_wp2
          simp only [Exit.jump]
          refine bodyPost_ret (v := _) (by simp [results, Tryz.results38, go_sem, c0, c1, c2, c3]; try rfl) rfl ⟨by rw [HG.out], below_4 hB (Nat.le_refl _) _ _ _ _⟩
        · have hs : stp deep (l.drop k) = .go [40] 1 (deep + 1) := by rw [hdr]; simp [stp, hd]
          have HE2 := Lib.hid (sr_step HE.out hs hpk)
          have td : ((deep : Int) == 32) = false := by rw [beq_eq_false_iff_ne]; omega
          clear hdr hs HE
          go_wp2_with (at_builtin; refine wpList_append_lies _ rfl _ _ _ rfl (w.heap.size + 1) 5 i0 (.int .u8 0) 1 1 Tryz.underlying93 hi hz0 hz1 hz2 rfl (by omega) v _ _ rfl (hown.alloc _) ⟨wr.heap.size, 0, none⟩ 1 1 (bvs [40]) rfl rfl (World.news_of_block (heap_alloc_new wr _)) (bvs_one _) (by omega) (by unfold maxLen; omega) (by omega) (by simp; omega) _ rfl ?_; intro g cap w3 hown3 hgrow hat hgl)
          go_step3
          exact ⟨rfl, ⟨k + 1, deep + 1, out ++ [40], _, ⟨_, _, _, _, _, _, _, _, _, _, _, _, _, _, _, _, _, _, _, _, _, _, _, _, _, _, _, _, _, _, _, _, _, _, _, _, _, _, _, _, _, _, _, _, _, _, _, _, _, _, _, _, _, _, _, _, _, _, _, _, _, _, _, _, _, _, _, _, _, rfl⟩, by omega, by omega, by omega, by omega, by simp; omega, HE2, own_one 40 hown3 rfl, (hbel.alloc (by simpa using hsz) _).grown hgrow (by simp; omega) (fun q hq => by have := (hown.lt q hq).1; simpa using this)⟩, by simp [intOf]; omega⟩
      · by_cases h41 : x = 41
        · subst h41
          by_cases hd : deep = 1
          · subst hd
            have hr := HE.out
            rw [hdr, strT_stop (k := 1) (e := 0) rfl] at hr
            have e1 : R.e = 0 := by rw [hr]; rfl
            have e2 : R.k = k - (p + 1) + 1 := by rw [hr]; rfl
            have e3 : R.s = out := by rw [hr]; simp [Sr.add]
            have HG : Hid (rv p (if R.e = 0 then okR 5 0 R.s (1 + R.k) else noR (1 + R.k) R.e) = .tuple #[.agg #[.int .i64 5, .int .i64 (p : Int), .int .i64 0, .string (str out)], .int .i64 ((k : Int) + 1), .int .i64 0]) := Lib.hid (by
              rw [if_pos e1, e2, e3, rv_ok]
              congr 5
              omega)
            obtain ⟨c', _, hc', A', hv, hsl⟩ := Sl.of_own hown
            subst hv
            have hconv := conv8 hsl c'
            clear hdr hr e1 e2 e3 HE h40
            go_wp2
            simp only [Exit.jump]
            refine bodyPost_ret (v := _) (by simp [results, Tryz.results38, go_sem, c0, c1, c2, c3]; try rfl) rfl ⟨by rw [HG.out], below_4 hB (Nat.le_refl _) _ _ _ _⟩
          · have hs : stp deep (l.drop k) = .go [41] 1 (deep - 1) := by rw [hdr]; simp [stp, hd]
            have HE2 := Lib.hid (sr_step HE.out hs hpk)
            have td : ((deep : Int) - 1 == 0) = false := by rw [beq_eq_false_iff_ne]; omega
            have ed : (deep : Int) - 1 = ((deep - 1 : Nat) : Int) := by omega
            clear hdr hs HE h40
            generalize deep - 1 = deep2 at *
            go_wp2_with (at_builtin; refine wpList_append_lies _ rfl _ _ _ rfl (w.heap.size + 1) 5 i0 (.int .u8 0) 1 1 Tryz.underlying93 hi hz0 hz1 hz2 rfl (by omega) v _ _ rfl (hown.alloc _) ⟨wr.heap.size, 0, none⟩ 1 1 (bvs [41]) rfl rfl (World.news_of_block (heap_alloc_new wr _)) (bvs_one _) (by omega) (by unfold maxLen; omega) (by omega) (by simp; omega) _ rfl ?_; intro g cap w3 hown3 hgrow hat hgl)
            go_step3
            exact ⟨rfl, ⟨k + 1, deep2, out ++ [41], _, ⟨_, _, _, _, _, _, _, _, _, _, _, _, _, _, _, _, _, _, _, _, _, _, _, _, _, _, _, _, _, _, _, _, _, _, _, _, _, _, _, _, _, _, _, _, _, _, _, _, _, _, _, _, _, _, _, _, _, _, _, _, _, _, _, _, _, _, _, _, _, rfl⟩, by omega, by omega, by omega, by omega, by simp; omega, HE2, own_one 41 hown3 rfl, (hbel.alloc (by simpa using hsz) _).grown hgrow (by simp; omega) (fun q hq => by have := (hown.lt q hq).1; simpa using this)⟩, by simp [intOf]; omega⟩
        · by_cases h92 : x = 92
          · subst h92
            have hs : stp deep (l.drop k) = .go (esB (l.drop (k + 1))) (1 + esN (l.drop (k + 1))) deep := by rw [hdr]; rfl
            have HE2 := Lib.hid (sr_step HE.out hs hpk)
            have hsl := run_from (P := Tryz.prog) l (k + 1) (by omega) 9 Tryz.underlying9
            rw [hcast] at hsl
            have hC : ∀ w, Calls Tryz.prog 61 #[.string (str (l.drop (k + 1)))] w fun e w' => e = .returned (.tuple #[.string (str (esB (l.drop (k + 1)))), .int .i64 (esN (l.drop (k + 1)) : Nat)]) ∧ Below w.heap.size w w' := fun w => escaped_tok _ w (by rw [List.length_drop]; omega)
            have hnl := esN_le (l.drop (k + 1))
            rw [List.length_drop] at hnl
            have hbl : (esB (l.drop (k + 1))).length ≤ 1 := by
              unfold esB
              repeat' split
              all_goals simp
            generalize esB (l.drop (k + 1)) = ob at *
            generalize esN (l.drop (k + 1)) = on' at *
            generalize l.drop (k + 1) = dd at *
            have HC := Lib.hid hC
            clear hdr hs HE h40 h41 hC
            go_wp2_with (first | (go_at_call 61; refine (HC.out _).mono ?_; rintro e w2 ⟨rfl, hb2⟩; have hown2 := own_below hown hb2 (Nat.le_refl _); have hbel2 := hbel.trans (hb2.mono hbel.size); have hsz2 := hbel2.size) | (at_builtin; refine Lib.wpList_append_own_string w2 rfl _ _ 93 9 rfl (w.heap.size + 1) 5 i0 Tryz.underlying93 Tryz.underlying9 hi hz0 hz1 hz2 _ _ _ rfl hown2 _ rfl (by rw [str_size]; unfold maxLen; omega) (by rw [str_size]; omega) (by simp at hsz2; omega) ?_; intro v6 w6 hown6 hgrow6 _))
            have hown7 : w6.ownsRow (w.heap.size + 1) 5 1 v6 (out ++ ob).length (bvs (out ++ ob)) := by rw [List.length_append, bvs_append]; exact hown6
            go_step3
            exact ⟨rfl, ⟨k + (1 + on'), deep, out ++ ob, _, ⟨_, _, _, _, _, _, _, _, _, _, _, _, _, _, _, _, _, _, _, _, _, _, _, _, _, _, _, _, _, _, _, _, _, _, _, _, _, _, _, _, _, _, _, _, _, _, _, _, _, _, _, _, _, _, _, _, _, _, _, _, _, _, _, _, _, _, _, _, _, rfl⟩, by omega, by omega, by omega, by omega, by simp; omega, HE2, hown7, hbel2.grown hgrow6 hsz2 (fun q hq => by have := (hown2.lt q hq).1; simpa using this)⟩, by simp [intOf]; omega⟩
          · by_cases h13 : x = 13
            · subst h13
              have hs : stp deep (l.drop k) = .go [10] (len (l.drop k)) deep := by rw [hdr]; rfl
              have HE2 := Lib.hid (sr_step HE.out hs hpk)
              have hsl := run_from (P := Tryz.prog) l k hk 9 Tryz.underlying9
              have hC : ∀ w, Calls Tryz.prog 62 #[.string (str (l.drop k))] w fun e w' => e = .returned (.int .i64 (len (l.drop k) : Nat)) ∧ w = w' := fun w => lineEnd_any _ w
              have hnl := len_le (l.drop k)
              rw [List.length_drop] at hnl
              have hn1 := (stp_pos hs).1
              generalize len (l.drop k) = on' at *
              have HC := Lib.hid hC
              clear hdr hs HE h40 h41 h92 hC
              generalize l.drop k = dd at *
              go_wp2_with (first | (go_at_call 62; refine (HC.out _).mono ?_; rintro e w2 ⟨rfl, rfl⟩) | (at_builtin; refine wpList_append_lies _ rfl _ _ _ rfl (w.heap.size + 1) 5 i0 (.int .u8 0) 1 1 Tryz.underlying93 hi hz0 hz1 hz2 rfl (by omega) v _ _ rfl (hown.alloc _) ⟨wr.heap.size, 0, none⟩ 1 1 (bvs [10]) rfl rfl (World.news_of_block (heap_alloc_new wr _)) (bvs_one _) (by omega) (by unfold maxLen; omega) (by omega) (by simp; omega) _ rfl ?_; intro g cap w3 hown3 hgrow hat hgl))
              go_step3
              exact ⟨rfl, ⟨k + on', deep, out ++ [10], _, ⟨_, _, _, _, _, _, _, _, _, _, _, _, _, _, _, _, _, _, _, _, _, _, _, _, _, _, _, _, _, _, _, _, _, _, _, _, _, _, _, _, _, _, _, _, _, _, _, _, _, _, _, _, _, _, _, _, _, _, _, _, _, _, _, _, _, _, _, _, _, rfl⟩, by omega, by omega, by omega, by omega, by simp; omega, HE2, own_one 10 hown3 rfl, (hbel.alloc (by simpa using hsz) _).grown hgrow (by simp; omega) (fun q hq => by have := (hown.lt q hq).1; simpa using this)⟩, by simp [intOf]; omega⟩
            · have hs : stp deep (l.drop k) = .go [x] 1 deep := by rw [hdr]; simp [stp, h40, h41, h92, h13]
              have HE2 := Lib.hid (sr_step HE.out hs hpk)
              have n40 : ((x.toNat : Int) == 40) = false := by rw [beq_eq_false_iff_ne]; intro e; exact h40 (eq_of_toNat (by show x.toNat = 40; omega))
              have n41 : ((x.toNat : Int) == 41) = false := by rw [beq_eq_false_iff_ne]; intro e; exact h41 (eq_of_toNat (by show x.toNat = 41; omega))
              have n92 : ((x.toNat : Int) == 92) = false := by rw [beq_eq_false_iff_ne]; intro e; exact h92 (eq_of_toNat (by show x.toNat = 92; omega))
              have n13 : ((x.toNat : Int) == 13) = false := by rw [beq_eq_false_iff_ne]; intro e; exact h13 (eq_of_toNat (by show x.toNat = 13; omega))
              clear hdr hs HE h40 h41 h92 h13
              go_wp2_with (at_builtin; refine wpList_append_lies _ rfl _ _ _ rfl (w.heap.size + 1) 5 i0 (.int .u8 0) 1 1 Tryz.underlying93 hi hz0 hz1 hz2 rfl (by omega) v _ _ rfl (hown.alloc _) ⟨wr.heap.size, 0, none⟩ 1 1 (bvs [x]) rfl rfl (World.news_of_block (heap_alloc_new wr _)) (bvs_one _) (by omega) (by unfold maxLen; omega) (by omega) (by simp; omega) _ rfl ?_; intro g cap w3 hown3 hgrow hat hgl)
              go_step3
              exact ⟨rfl, ⟨k + 1, deep, out ++ [x], _, ⟨_, _, _, _, _, _, _, _, _, _, _, _, _, _, _, _, _, _, _, _, _, _, _, _, _, _, _, _, _, _, _, _, _, _, _, _, _, _, _, _, _, _, _, _, _, _, _, _, _, _, _, _, _, _, _, _, _, _, _, _, _, _, _, _, _, _, _, _, _, rfl⟩, by omega, by omega, by omega, by omega, by simp; omega, HE2, own_one x hown3 rfl, (hbel.alloc (by simpa using hsz) _).grown hgrow (by simp; omega) (fun q hq => by have := (hown.lt q hq).1; simpa using this)⟩, by simp [intOf]; omega⟩
    · have hr := HE.out
      rw [List.drop_eq_nil_of_le (by omega), strT_stop (k := 0) (e := 2) rfl] at hr
      have hkl : k = l.length := by omega
      have e1 : R.e = 2 := by rw [hr]; rfl
      have e2 : R.k = k - (p + 1) := by rw [hr]; rfl
      have HG : Hid (rv p (if R.e = 0 then okR 5 0 R.s (1 + R.k) else noR (1 + R.k) R.e) = .tuple #[.agg #[.int .i64 0, .int .i64 0, .int .i64 0, .string ⟨#[]⟩], .int .i64 (k : Int), .int .i64 2]) := Lib.hid (by
        rw [if_neg (by rw [e1]; decide), e1, e2, rv_no _ _ _ (by decide)]
        congr 5
        omega)
      have t0 : ((k : Int) == (l.length : Int)) = true := by rw [beq_iff_eq]; omega
      have t0' : (k == l.length) = true := by rw [beq_iff_eq]; omega
      clear hr e1 e2 HE hlt hkl
      go_wp2
      simp only [Exit.jump]
      refine bodyPost_ret (v := _) (by simp [results, Tryz.results38, go_sem, c0, c1, c2, c3]; try rfl) rfl ⟨by rw [HG.out], below_4 hB (Nat.le_refl _) _ _ _ _⟩
end Go.Proofs.YthcnjiigkmljnaaGreatDoor
