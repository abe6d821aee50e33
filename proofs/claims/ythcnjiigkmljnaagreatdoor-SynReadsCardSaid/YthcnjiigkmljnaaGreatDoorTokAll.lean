/-
  tok.All: all tokens of any text of at most 65,535 bytes.
-/
import Derived.Test.YthcnjiigkmljnaaGreatDoorPart5
import Derived.Test.YthcnjiigkmljnaaGreatDoorTokNext
namespace Go.Proofs.YthcnjiigkmljnaaGreatDoor
open Go.RowKit

set_option maxRecDepth 100000 in
set_option maxHeartbeats 4000000 in
theorem All_any (l : List UInt8) (w : World) (ht : Tab w) (hm : Mks w) (hl : l.length ≤ 65535) :
    Calls Tryz.prog 13 #[.string (str l)] w fun e w' => RetTk w (all 0 l) e w' := by
  obtain ⟨i0, hi, hz0, hz1, hz2⟩ := info_parts infoT
  go_enter Tryz.func13, Tryz.ntmps13
  go_wp2
  go_loopw [5, 6] (fun v i wr => ∃ (q : Nat) (out : List Tk), q ≤ l.length ∧ out.length ≤ q ∧ i = .int .i64 (q : Int) ∧ Hid (all 0 l = Al.pre out (all q (l.drop q))) ∧ wr.ownsRow w.heap.size 42 4 v out.length (tvs out) ∧ Below w.heap.size w wr) (fun _ i _ => l.length - (intOf i).toNat)
  case atStart => exact ⟨0, [], Nat.zero_le _, Nat.le_refl _, rfl, Lib.hid (by rw [pre_nil]; rfl), World.ownsRow_nil _ _ _ _, Below.refl _ _⟩
  case round =>
    obtain ⟨q, out, hq, hout, rfl, HE, hown, hbel⟩ := hrel
    have hsz := hbel.size
    have htr := ht.below' hbel
    have hmr := hm.below' hbel
    have hN := Next_any l (q : Int) wr htr hmr (by omega)
    rw [skN_of hq] at hN
    have hsl := sk_le (l.drop q) false
    rw [List.length_drop] at hsl
    have hE := HE.out
    by_cases hp : q + sk false (l.drop q) = l.length
    · have e1 : nxv l (q + sk false (l.drop q)) = .tuple #[.agg #[.int .i64 0, .int .i64 (l.length : Int), .int .i64 0, .string ⟨#[]⟩], .int .i64 (l.length : Int), .int .i64 0] := by
        unfold nxv; rw [if_pos hp, hp]; rfl
      rw [e1] at hN
      rw [all_end q (by rw [List.length_drop]; omega), List.length_drop] at hE
      have hG : all 0 l = ⟨out, l.length, 0⟩ := by rw [hE]; unfold Al.pre; simp; omega
      have HG := Lib.hid hG
      have HN := Lib.hid hN
      clear hN hE hG e1 hp HE
      obtain ⟨c', _, hc', A', hv, hst⟩ := St.of_own hown
      subst hv
      go_wp2_with (go_at_call 23; refine HN.out.mono ?_; rintro e w2 ⟨rfl, hb2⟩)
      go_ret3
      rw [HG.out]
      exact ⟨A', c', rfl, hc', (hst.over hb2).over (((Below.refl _ _).alloc (Nat.le_refl _) _)), hbel.trans ((hb2.trans (((Below.refl _ _).alloc (Nat.le_refl _) _).mono hb2.size)).mono hsz)⟩
    · have hlt : q + sk false (l.drop q) < l.length := by omega
      have hs : sk false (l.drop q) < (l.drop q).length := by rw [List.length_drop]; omega
      have hne := rest_ne hs
      have hz := sk_end (l.drop q) false
      have e1 : nxv l (q + sk false (l.drop q)) = rv (q + sk false (l.drop q)) (tk (l.drop (q + sk false (l.drop q)))) := by unfold nxv; rw [if_neg hp]
      rw [e1, ← List.drop_drop] at hN
      by_cases he : (tk ((l.drop q).drop (sk false (l.drop q)))).e = 0
      · have ok := tk_ok hne hz he
        rw [all_ok q hs he, pre_add] at hE
        have h1 := ok.pos
        have h2 := ok.le
        rw [List.length_drop, List.length_drop] at h2
        have hk0 : (tk ((l.drop q).drop (sk false (l.drop q)))).kind ≠ 0 := by
          rcases ok.gd with ⟨h, _⟩ | ⟨h, _⟩ | ⟨h, _⟩ | ⟨h, _⟩ | ⟨h, _⟩ | ⟨m, hm, h, _⟩ <;> rw [h] <;> omega
        rw [rv_eq] at hN
        clear ok hne hz e1 hs hp hlt HE
        generalize tk ((l.drop q).drop (sk false (l.drop q))) = r at *
        have hT : rT (q + sk false (l.drop q)) r = r.tok (q + sk false (l.drop q)) := by unfold rT; rw [if_pos he]
        have hkk : (r.tok (q + sk false (l.drop q))).kind = r.kind := rfl
        rw [← hkk] at hk0
        rw [hT, he] at hN
        rw [show ((q + sk false (l.drop q) : Nat) : Int) + (r.k : Int) = ((q + sk false (l.drop q) + r.k : Nat) : Int) by omega] at hN
        rw [List.drop_drop, ← Nat.add_assoc] at hE
        have hQ : q < q + sk false (l.drop q) + r.k ∧ q + sk false (l.drop q) + r.k ≤ l.length := by omega
        clear hT hkk h1 h2 he hsl
        generalize r.tok (q + sk false (l.drop q)) = t at *
        generalize q + sk false (l.drop q) + r.k = Q at *
        obtain ⟨kind, at_, n, s⟩ := t
        simp only at hk0 hN
        have HE2 := Lib.hid hE
        have HN := Lib.hid hN
        have tk0 : (kind == 0) = false := by rw [beq_eq_false_iff_ne]; exact hk0
        have to : ((out.length : Int) == 65536) = false := by rw [beq_eq_false_iff_ne]; omega
        have hol : out.length < 65536 := by omega
        clear hN hE hk0
        obtain ⟨c', _, hc', A', hv, hst⟩ := St.of_own hown
        subst hv
        clear hst
        go_wp2_with (first | (go_at_call 23; refine HN.out.mono ?_; rintro e w2 ⟨rfl, hb2⟩; have hown2 := own_belowN hown hb2 (Nat.le_refl _); have hbel2 := hbel.trans (hb2.mono hsz); have hsz2 := hbel2.size) | (at_builtin; refine wpList_append_lies _ rfl _ _ _ rfl w.heap.size 42 i0 (.agg #[.int .i64 0, .int .i64 0, .int .i64 0, .string ⟨#[]⟩]) 4 40 Tryz.underlying22 hi hz0 hz1 hz2 rfl (by omega) _ _ _ rfl ((hown2.alloc _).alloc _) ⟨w2.heap.size + 1, 0, none⟩ 1 1 (tq ⟨kind, at_, n, s⟩) rfl rfl (World.news_of_block (heap_alloc_two w2 _ _)) (by intro u hu; exact tvs_one [⟨kind, at_, n, s⟩] u (by simpa [tvs] using hu)) (by omega) (by unfold maxLen; omega) (by omega) (by simp; omega) _ rfl ?_; intro g cap w3 hown3 hgrow hat hgl))
        refine ⟨⟨Q, out ++ [⟨kind, at_, n, s⟩], hQ.2, by simp; omega, rfl, HE2, own_tok hown3 rfl, ?_⟩, by simp [intOf]; omega⟩
        exact ((hbel2.alloc hsz2 _).alloc (by simp; omega) _).grown hgrow (by simp; omega) (fun k hk => (hown2.lt k hk).1)
      · rw [all_no q hs he] at hE
        have hk := (tk_err_k hne hz he).1
        rw [List.length_drop, List.length_drop] at hk
        rw [rv_eq] at hN
        clear hne hz e1 hs hp hlt HE
        generalize tk ((l.drop q).drop (sk false (l.drop q))) = r at *
        have hT : rT (q + sk false (l.drop q)) r = noT := by unfold rT; rw [if_neg he]
        rw [hT] at hN
        have hG : all 0 l = ⟨[], q + sk false (l.drop q) + r.k, r.e⟩ := by rw [hE]; unfold Al.pre; rw [if_neg he]
        rw [show ((q + sk false (l.drop q) : Nat) : Int) + (r.k : Int) = ((q + sk false (l.drop q) + r.k : Nat) : Int) by omega] at hN
        have HG := Lib.hid hG
        have te : (r.e != 0) = true := by rw [bne_iff_ne]; exact he
        clear hT hE hG he hsl
        generalize q + sk false (l.drop q) + r.k = Q at *
        generalize r.e = E at *
        unfold noT at hN
        simp only at hN
        have HN := Lib.hid hN
        clear hN
        go_wp2_with (go_at_call 23; refine HN.out.mono ?_; rintro e w2 ⟨rfl, hb2⟩)
        go_ret3
        rw [HG.out]
        exact ⟨none, 0, rfl, Nat.le_refl _, St.nil, hbel.trans ((hb2.trans (((Below.refl _ _).alloc (Nat.le_refl _) _).mono hb2.size)).mono hsz)⟩
end Go.Proofs.YthcnjiigkmljnaaGreatDoor
