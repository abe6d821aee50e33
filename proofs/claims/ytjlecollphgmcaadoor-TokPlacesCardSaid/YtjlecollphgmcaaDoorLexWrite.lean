/-
  lex.needsDigits and lex.Write: a name, written.
-/
import Derived.Test.YtjlecollphgmcaaDoorLexName
import Derived.Test.YtjlecollphgmcaaDoorConv
import Derived.Lib.AppendStr
namespace Go.Proofs.YtjlecollphgmcaaDoor
open Go.RowKit

theorem eq35 {x : UInt8} : ((x.toNat : Int) == 35) = (x == 35) := by
  cases h : x == 35 with
  | true => rw [beq_iff_eq] at h; subst h; rfl
  | false => rw [beq_eq_false_iff_ne] at h; exact ne35.2 h
set_option maxHeartbeats 1000000 in
theorem needsDigits_any (x : UInt8) (w : World) (ht : Tab w) :
    Calls Tryd.prog 42 #[.int .u8 (x.toNat : Int)] w fun e w' => e = .returned (.bool (need x)) ∧ w = w' := by
  have hx1 := x.toNat_lt
  have hC : ∀ w, Tab w → Calls Tryd.prog 12 #[.int .i64 (x.toNat : Int)] w fun e w' => e = .returned (.int .i64 (cb x)) ∧ w = w' := fun w ht => Class_any _ w ht
  have HC := Lib.hid hC
  clear hC
  cases h1 : (x == 35) with
  | true =>
    have e : need x = true := by simp [need, h1]
    have t1 : ((x.toNat : Int) == 35) = true := by rw [eq35]; exact h1
    rw [e]
    clear e h1
    go_enter Tryd.func42, Tryd.ntmps42
    go_wp2
    go_ret
    exact ⟨rfl, rfl⟩
  | false =>
    have t1 : ((x.toNat : Int) == 35) = false := by rw [eq35]; exact h1
    by_cases h2 : x.toNat < 33
    · have e : need x = true := by simp [need, h2]
      have t2 : decide ((x.toNat : Int) < 33) = true := by simp; omega
      rw [e]
      clear e h1 h2
      go_enter Tryd.func42, Tryd.ntmps42
      go_wp2
      go_ret
      exact ⟨rfl, rfl⟩
    · have t2 : decide ((x.toNat : Int) < 33) = false := by simp; omega
      by_cases h3 : 126 < x.toNat
      · have e : need x = true := by simp [need, h3]
        have t3 : decide ((126 : Int) < (x.toNat : Int)) = true := by simp; omega
        rw [e]
        clear e h1 h2 h3
        go_enter Tryd.func42, Tryd.ntmps42
        go_wp2
        go_ret
        exact ⟨rfl, rfl⟩
      · have t3 : decide ((126 : Int) < (x.toNat : Int)) = false := by simp; omega
        have e : need x = (cb x != 0) := by simp [need, h1, h2, h3, rg, bne]
        rw [e]
        clear e h1 h2 h3
        generalize cb x = cx at *
        go_enter Tryd.func42, Tryd.ntmps42
        go_wp2_with (go_at_call 12; refine (HC.out _ ht).mono ?_; rintro e w' ⟨rfl, rfl⟩)
        go_ret
        exact ⟨rfl, rfl⟩

theorem hexL_one (x : UInt8) : hexL [x] = hx x := by simp [hexL]
theorem wr_step {l out : List UInt8} {k : Nat} {x : UInt8} (hlt : k < l.length) (hx : x = l[k]?.getD 0) (h : out ++ wrL (l.drop k) = wrL l) : (out ++ wb x) ++ wrL (l.drop (k + 1)) = wrL l := by
  rw [drop_at hlt hx, wrL_cons] at h
  rw [List.append_assoc]; exact h
theorem strCells_str (l : List UInt8) : Lib.strCells (str l) = bvs l := rfl

theorem own_below {w w' : World} {base n b : Nat} {e : TypeId} {v : Value} {xs : List Value} (h : w.ownsRow base e 1 v n xs) (hb : Below b w w') (hB : w.heap.size ≤ b) : w'.ownsRow base e 1 v n xs := by
  refine ⟨h.1, ?_⟩
  rcases h.2 with hn | ⟨g, cap, cur, rfl, h1, hg, rest⟩
  · exact .inl hn
  · refine .inr ⟨g, cap, cur, rfl, h1, ?_, rest⟩
    have hlt := (Array.getElem?_eq_some_iff.1 hg).1
    rw [hb.block g (by omega)]
    exact hg

set_option maxHeartbeats 2000000 in
theorem Write_any (l : List UInt8) (w : World) (ht : Tab w) (hl : l.length ≤ 65536) :
    Calls Tryd.prog 25 #[.string (str l)] w fun e w' => e = .returned (.string (str (wrL l))) ∧ Below w.heap.size w w' := by
  obtain ⟨i0, hi, hz0, hz1, hz2⟩ := info_parts info8
  go_enter Tryd.func25, Tryd.ntmps25
  go_wp2_with (at_make; refine wpList_make_own _ rfl _ _ _ rfl w.heap.size 5 i0 (.int .u8 0) 1 Tryd.underlying35 hi hz0 hz1 .i64 .i64 _ l.length rfl rfl (by omega) (by rw [hz2]; omega) (by unfold maxLen; omega) (Nat.le_refl _) ?_; intro w1 hown1 hgrow1; obtain ⟨cap, C, w2, hcv, hrow, hget, hb2, hsz2, hcap⟩ := run_bytes_row (P := Tryd.prog) w1 9 35 5 l Tryd.underlying9 Tryd.underlying35 Tryd.underlying5)
  have hb1 : Below w.heap.size w w1 := (Below.refl _ _).grown hgrow1 (Nat.le_refl _) (by simp)
  have hw1 := hb1.size
  have hown2 : w2.ownsRow w.heap.size 5 1 (.slice (some ⟨w.heap.size, 0, none⟩) 0 l.length) 0 [] := own_below hown1 hb2 (Nat.le_refl _)
  have hbw : Below w.heap.size w w2 := hb1.trans (hb2.mono hw1)
  clear hgrow1 hown1 hcv hb1
  generalize (Value.slice (some ⟨w.heap.size, 0, none⟩) 0 l.length) = v1 at *
  generalize w1.heap.size = S at *
  have HG := Lib.hid hget
  have HR := Lib.hid hrow
  clear hget hrow hb2
  go_loopw [3, 12] (fun v i wr => ∃ (k : Nat) (out : List UInt8), k ≤ l.length ∧ out.length ≤ 3 * k ∧ i = .int .i64 k ∧ Hid (out ++ wrL (l.drop k) = wrL l) ∧ Hid (wr.heap[S]? = some (.cells C 5 (C.size, C.size + 1))) ∧ wr.ownsRow w.heap.size 5 1 v out.length (bvs out) ∧ Below w.heap.size w wr) (fun _ i _ => l.length - (intOf i).toNat)
  case atStart => exact ⟨0, [], Nat.zero_le _, Nat.zero_le _, rfl, Lib.hid (by simp), HR, by simpa [bvs] using hown2, hbw⟩
  case round =>
    obtain ⟨k, out, hk, hout, rfl, HE, HS, hown, hbel⟩ := hrel
    have htr := ht.below' hbel
    have hsz := hbel.size
    by_cases hlt : k < l.length
    · obtain ⟨x, hx⟩ : ∃ x, x = l[k]?.getD 0 := ⟨_, rfl⟩
      have hcl : wr.cell? ⟨S, k, none⟩ = some (.int .u8 (x.toNat : Int)) := by rw [cell_of_row _ _ k C 5 _ HS.out, hx]; exact HG.out k hlt
      have hS : S < wr.heap.size := (Array.getElem?_eq_some_iff.1 HS.out).1
      have hx1 := x.toNat_lt
      have hst := wr_step hlt hx HE.out
      have HST := Lib.hid hst
      have hN : ∀ w, Tab w → Calls Tryd.prog 42 #[.int .u8 (x.toNat : Int)] w fun e w' => e = .returned (.bool (need x)) ∧ w = w' := fun w ht => needsDigits_any x w ht
      have hne := own_ne_row hown HS.out
      clear hx hst
      cases hn : need x with
      | false =>
        have hwb : wb x = [x] := by simp [wb, hn]
        rw [hwb] at HST
        rw [hn] at hN
        have HN := Lib.hid hN
        clear hN hwb hn
        go_wp2_with (first | (go_at_call 42; refine (HN.out _ htr).mono ?_; rintro e w' ⟨rfl, rfl⟩) | (at_builtin; refine wpList_append_lies _ rfl _ _ _ rfl w.heap.size 5 i0 (.int .u8 0) 1 1 Tryd.underlying35 hi hz0 hz1 hz2 rfl (by omega) u3 _ _ rfl (hown.alloc _) ⟨wr.heap.size, 0, none⟩ 1 1 (bvs [x]) rfl rfl (World.news_of_block (heap_alloc_new wr _)) (bvs_one _) (by omega) (by unfold maxLen; omega) (by omega) (by simp; omega) _ rfl ?_; intro g cap w3 hown3 hgrow hat hgl))
        go_roundw
        case rel =>
          refine ⟨k + 1, out ++ [x], by omega, by simp; omega, by go_num, HST, ?_, own_byte hown3 rfl, (hbel.alloc hsz _).grown hgrow (by simp; omega) (fun q hq => (hown.lt q hq).1)⟩
          exact (hgrow.block S (by simp; omega) hne).trans ((Below.heap_alloc _ _ _ hS).trans HS.out)
        case measure => simp [intOf]; omega
      | true =>
        have hwb : wb x = 35 :: hx x := by simp [wb, hn]
        rw [hwb] at HST
        rw [hn] at hN
        have HN := Lib.hid hN
        clear hN hwb hn
        go_wp2_with (first | (go_at_call 42; refine (HN.out _ htr).mono ?_; rintro e w' ⟨rfl, rfl⟩) | (at_builtin; refine wpList_append_lies _ rfl (.tmp 18) (.tmp 19) _ rfl w.heap.size 5 i0 (.int .u8 0) 1 1 Tryd.underlying35 hi hz0 hz1 hz2 rfl (by omega) u3 _ _ rfl (hown.alloc _) ⟨wr.heap.size, 0, none⟩ 1 1 (bvs [35]) rfl rfl (World.news_of_block (heap_alloc_new wr _)) (bvs_one _) (by omega) (by unfold maxLen; omega) (by omega) (by simp; omega) _ rfl ?_; intro g cap w3 hown3 hgrow hat hgl))
        have hb3 : Below w.heap.size w w3 := (hbel.alloc hsz _).grown hgrow (by simp; omega) (fun q hq => (hown.lt q hq).1)
        have hs3 : w3.heap[S]? = some (.cells C 5 (C.size, C.size + 1)) := (hgrow.block S (by simp; omega) hne).trans ((Below.heap_alloc _ _ _ hS).trans HS.out)
        have hS3 : S < w3.heap.size := (Array.getElem?_eq_some_iff.1 hs3).1
        have hown4 : (w3.alloc (.cells #[.int .u8 (x.toNat : Int)] 5)).ownsRow w.heap.size 5 1 (.slice (some ⟨g, 0, none⟩) (out.length + 1) cap) (out ++ [35]).length (bvs (out ++ [35])) := (own_byte hown3 rfl).alloc _
        have hs4 := (Below.heap_alloc w3 (.cells #[.int .u8 (x.toNat : Int)] 5) S hS3).trans hs3
        have hb4 : Below w.heap.size w (w3.alloc (.cells #[.int .u8 (x.toNat : Int)] 5)) := hb3.alloc hb3.size _
        have hsl4 := Sl.one w3 x 5
        have hH := Hex_any (some ⟨w3.heap.size, 0, none⟩) 1 [x] _ hsl4 (by simp)
        rw [hexL_one] at hH
        have HS3 := Lib.hid hs3
        clear hown3 hgrow hat hgl hs3
        refine hH.mono ?_
        rintro e w5 ⟨rfl, hb5⟩
        have hb5' := hb4.trans (hb5.mono hb4.size)
        have hs5 := (hb5.block S (by simp; omega)).trans hs4
        have hS5 : S < w5.heap.size := (Array.getElem?_eq_some_iff.1 hs5).1
        have hown5 := own_below hown4 hb5 (Nat.le_refl _)
        have hne5 := own_ne_row hown5 hs5
        have hsz5 := hb5'.size
        have HS5 := Lib.hid hs5
        have hxl : (hx x).length = 2 := rfl
        have hol : (out ++ [35]).length = out.length + 1 := by simp
        clear hH hsl4 hown4 hs4 hb4 hb5 hs5
        go_wp2_with (at_builtin; refine Lib.wpList_append_own_string w5 rfl _ _ 35 9 rfl w.heap.size 5 i0 Tryd.underlying35 Tryd.underlying9 hi hz0 hz1 hz2 _ _ _ rfl hown5 _ rfl (by rw [str_size]; unfold maxLen; omega) (by rw [str_size]; omega) (by omega) ?_; intro v6 w6 hown6 hgrow6 _)
        go_roundw
        case rel =>
          have e : out ++ 35 :: hx x = (out ++ [35]) ++ hx x := by simp
          refine ⟨k + 1, out ++ 35 :: hx x, by omega, by rw [e, List.length_append, hol, hxl]; omega, by go_num, HST, (hgrow6.block S hS5 hne5).trans HS5.out, ?_, hb5'.grown hgrow6 (by omega) (fun q hq => (hown5.lt q hq).1)⟩
          rw [e, List.length_append, bvs_append]
          exact hown6
        case measure => simp [intOf]; omega
    · have he : out = wrL l := by
        have := HE.out
        rw [List.drop_eq_nil_of_le (by omega)] at this
        simpa [wrL] using this
      subst he
      obtain ⟨c', _, hc', A', hv, hsl⟩ := Sl.of_own hown
      subst hv
      have hconv := conv8 hsl c'
      go_wp2
      go_ret
      exact ⟨rfl, hbel⟩
end Go.Proofs.YtjlecollphgmcaaDoor
