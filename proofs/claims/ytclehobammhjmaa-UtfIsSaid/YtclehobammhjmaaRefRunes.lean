/-
  The document's own Runes and Whole; and its Same, of lists that are the same.
-/
import Derived.Test.YtclehobammhjmaaRefTake
namespace Go.Proofs.Ytclehobammhjmaa
open Go.RowKit

/-- How long a string is. -/
def strLen : Value → Nat
  | .string b => b.size
  | _ => 0
theorem strLen_str (l : List UInt8) : strLen (.string (str l)) = l.length := str_size l
theorem tk_bad {l : List UInt8} (h : dec l = (65533, 1)) : tkR l = 0 ∧ tkN l = 0 := by unfold tkR tkN; rw [if_pos h, if_pos h]; exact ⟨rfl, rfl⟩
theorem tk_good {l : List UInt8} (h : dec l ≠ (65533, 1)) : tkR l = ((dec l).1 : Int) ∧ tkN l = (dec l).2 := by unfold tkR tkN; rw [if_neg h, if_neg h]; exact ⟨rfl, rfl⟩
theorem runes_here {d l : List UInt8} {out : List Int} (h : d ≠ []) (he : out ++ runes d = runes l) : (out ++ [((dec d).1 : Int)]) ++ runes (d.drop (dec d).2) = runes l := by
  rw [runes_step h] at he
  rw [List.append_assoc]; exact he
theorem slice_from (d : List UInt8) (k : Nat) (h : k ≤ d.length) (wx : World) : (Instr.slice 9 (.string (str d)) (some (.int .i64 (k : Int))) none none).run Try.prog wx = .ok (.string (str (d.drop k))) wx := by
  rw [run_slice_string_from_if wx 9 (str d) .i64 (k : Int) Try.underlying9]
  simp [str_size, str_extract, h]
  exact str_inj (List.take_of_length_le (by simp))

set_option maxHeartbeats 1000000 in
theorem rRunes_any (l : List UInt8) (w : World) (hl : l.length ≤ 65536) :
    Calls Try.prog 24 #[.string (str l)] w (RetSi w (runes l)) := by
  obtain ⟨i0, hi, hz0, hz1, hz2⟩ := info_parts info64
  go_enter Try.func24, Try.ntmps24
  go_wp2
  go_loopw [0, 3] (fun s v wr => ∃ (d : List UInt8) (out : List Int), s = .string (str d) ∧ out.length + d.length ≤ l.length ∧ Hid (out ++ runes d = runes l) ∧ wr.ownsRow w.heap.size 3 1 v out.length (ivs out) ∧ Below w.heap.size w wr) (fun s _ _ => strLen s)
  case atStart => exact ⟨l, [], rfl, by simp, by rfl, by simpa [ivs] using World.ownsRow_nil _ _ _ _, Below.refl _ _⟩
  case round =>
    obtain ⟨d, out, rfl, hout, HE, hown, hbel⟩ := hrel
    by_cases hne : d = []
    · subst hne
      have he : out = runes l := by
        have := HE.out
        rw [runes_nil] at this
        simpa using this
      subst he
      obtain ⟨c', _, hc', A', hv, hsl⟩ := Si.of_own hown
      subst hv
      go_wp2
      go_ret
      exact ⟨A', c', rfl, hc', hsl, hbel⟩
    · have hd0 : 0 < d.length := List.length_pos_iff.2 hne
      have hT := fun w => rTake_any d w hne (by omega)
      have hok := dec_ok hne
      have hsz := hbel.size
      by_cases hb : dec d = (65533, 1)
      · obtain ⟨e1, e2⟩ := tk_bad hb
        rw [e1, e2] at hT
        have HT := Lib.hid hT
        have HNE := Lib.hid hne
        have HB := Lib.hid hb
        have hsl : ∀ wx, (Instr.slice 9 (.string (str d)) (some (.int .i64 1)) none none).run Try.prog wx = .ok (.string (str (d.drop 1))) wx := slice_from d 1 hd0
        clear hT hne hb e1 e2 hok
        go_wp2_with (first | (go_at_call 36; refine (HT.out _).mono ?_; rintro e w1 ⟨rfl, hb1⟩; have hown1 : w1.ownsRow w.heap.size 3 1 u3 out.length (ivs out) := own_below hown hb1; have hbel1 := hbel.trans (hb1.mono hsz); have hsz1 := hbel1.size) | (at_builtin; refine wpList_append_lies _ rfl _ _ _ rfl w.heap.size 3 i0 (.int .i64 0) 1 8 Try.underlying22 hi hz0 hz1 hz2 rfl (by omega) u3 _ _ rfl (hown1.alloc _) ⟨w1.heap.size, 0, none⟩ 1 1 (ivs [65533]) rfl rfl (World.news_of_block (heap_alloc_new w1 _)) (ivs_one _) (by omega) (by unfold maxLen; omega) (by omega) (by simp; omega) _ rfl ?_; intro g cap w2 hown2 hgrow hat hgl))
        go_roundw
        case rel =>
          have h1 := runes_here HNE.out HE.out
          rw [HB.out] at h1
          exact ⟨d.drop 1, out ++ [65533], by simp, by simp; omega, h1, own_ints hown2 (by simp), (hbel1.alloc hsz1 _).grown hgrow (by simp; omega) (fun q hq => (hown1.lt q hq).1)⟩
        case measure => rw [strLen_str, strLen_str, List.length_tail]; omega
      · obtain ⟨e1, e2⟩ := tk_good hb
        rw [e1, e2] at hT
        have hR : (dec d).1 ≤ 1114111 := by have := (goodB_iff _).1 hok.2.2; omega
        have hK1 := hok.1
        have hK2 := hok.2.1
        have hsl := slice_from d (dec d).2 hK2
        have h1 := runes_here hne HE.out
        have H1 := Lib.hid h1
        generalize (dec d).1 = R at *
        generalize (dec d).2 = K at *
        have HT := Lib.hid hT
        have hK0 : ((K : Int) == 0) = false := by rw [beq_eq_false_iff_ne]; omega
        clear hT hne hb e1 e2 hok h1
        go_wp2_with (first | (go_at_call 36; refine (HT.out _).mono ?_; rintro e w1 ⟨rfl, hb1⟩; have hown1 : w1.ownsRow w.heap.size 3 1 u3 out.length (ivs out) := own_below hown hb1; have hbel1 := hbel.trans (hb1.mono hsz); have hsz1 := hbel1.size) | (at_builtin; refine wpList_append_lies _ rfl _ _ _ rfl w.heap.size 3 i0 (.int .i64 0) 1 8 Try.underlying22 hi hz0 hz1 hz2 rfl (by omega) u3 _ _ rfl (hown1.alloc _) ⟨w1.heap.size, 0, none⟩ 1 1 (ivs [(R : Int)]) rfl rfl (World.news_of_block (heap_alloc_new w1 _)) (ivs_one _) (by omega) (by unfold maxLen; omega) (by omega) (by simp; omega) _ rfl ?_; intro g cap w2 hown2 hgrow hat hgl))
        go_roundw
        case rel => exact ⟨d.drop K, out ++ [(R : Int)], rfl, by simp; omega, H1, own_ints hown2 (by simp), (hbel1.alloc hsz1 _).grown hgrow (by simp; omega) (fun q hq => (hown1.lt q hq).1)⟩
        case measure => rw [strLen_str, strLen_str, List.length_drop]; omega

set_option maxHeartbeats 1000000 in
theorem rWhole_any (l : List UInt8) (w : World) (hl : l.length ≤ 65536) :
    Calls Try.prog 26 #[.string (str l)] w fun e w' => e = .returned (.bool (whole l)) ∧ Below w.heap.size w w' := by
  go_enter Try.func26, Try.ntmps26
  go_wp2
  go_loopw [0] (fun s wr => ∃ d : List UInt8, s = .string (str d) ∧ d.length ≤ l.length ∧ Hid (whole d = whole l) ∧ Below w.heap.size w wr) (fun s _ => strLen s)
  case atStart => exact ⟨l, rfl, Nat.le_refl _, by rfl, Below.refl _ _⟩
  case round =>
    obtain ⟨d, rfl, hout, HE, hbel⟩ := hrel
    by_cases hne : d = []
    · subst hne
      have he : whole l = true := by have := HE.out; rw [whole_nil] at this; exact this.symm
      have HW := Lib.hid he
      clear he
      go_wp2
      go_ret
      rw [HW.out]
      exact ⟨rfl, hbel⟩
    · have hd0 : 0 < d.length := List.length_pos_iff.2 hne
      have hT := fun w => rTake_any d w hne (by omega)
      have hok := dec_ok hne
      have hsz := hbel.size
      by_cases hb : dec d = (65533, 1)
      · obtain ⟨e1, e2⟩ := tk_bad hb
        rw [e1, e2] at hT
        have HT := Lib.hid hT
        have hw := (whole_bad hne hb).symm.trans HE.out
        have HW := Lib.hid hw
        clear hT hne hb e1 e2 hok hw
        go_wp2_with (go_at_call 36; refine (HT.out _).mono ?_; rintro e w1 ⟨rfl, hb1⟩)
        go_ret
        rw [← HW.out]
        exact ⟨rfl, hbel.trans (hb1.mono hsz)⟩
      · obtain ⟨e1, e2⟩ := tk_good hb
        rw [e1, e2] at hT
        have hK1 := hok.1
        have hK2 := hok.2.1
        have hsl := slice_from d (dec d).2 hK2
        have hw := (whole_step hne hb).symm.trans HE.out
        have HW := Lib.hid hw
        generalize (dec d).1 = R at *
        generalize (dec d).2 = K at *
        have HT := Lib.hid hT
        have hK0 : ((K : Int) == 0) = false := by rw [beq_eq_false_iff_ne]; omega
        clear hT hne hb e1 e2 hok hw
        go_wp2_with (go_at_call 36; refine (HT.out _).mono ?_; rintro e w1 ⟨rfl, hb1⟩)
        go_roundw
        case rel => exact ⟨d.drop K, rfl, by simp; omega, HW, hbel.trans (hb1.mono hsz)⟩
        case measure => rw [strLen_str, strLen_str, List.length_drop]; omega

set_option maxHeartbeats 1000000 in
theorem Same_yes (A B : Option Addr) (c c' : Nat) (l : List Int) (w : World) (hA : Si w w.heap.size A l) (hB : Si w w.heap.size B l) (hl : l.length ≤ 1048576) :
    Calls Try.prog 14 #[.slice A l.length c, .slice B l.length c'] w fun e w' => e = .returned (.bool true) ∧ Below w.heap.size w w' := by
  go_enter Try.func14, Try.ntmps14
  go_wp2
  go_loopw [5] (fun i wr => ∃ k : Nat, k ≤ l.length ∧ i = .int .i64 k ∧ Below w.heap.size w wr) (fun i _ => l.length - (intOf i).toNat)
  case atStart => exact ⟨0, Nat.zero_le _, rfl, Below.refl _ _⟩
  case round =>
    obtain ⟨k, hk, rfl, hbel⟩ := hrel
    by_cases hlt : k < l.length
    · obtain ⟨b, o, rfl, hbl, hc⟩ := hA (by omega)
      obtain ⟨b', o', rfl, hbl', hc'⟩ := hB (by omega)
      obtain ⟨x, hx⟩ : ∃ x, x = l[k]?.getD 0 := ⟨_, rfl⟩
      have hcell : wr.cell? ⟨b, o + k, none⟩ = some (.int .i64 x) := by rw [hx]; exact (hbel.cell (p := ⟨b, o + k, none⟩) hbl).trans (hc k hlt)
      have hcell' : wr.cell? ⟨b', o' + k, none⟩ = some (.int .i64 x) := by rw [hx]; exact (hbel.cell (p := ⟨b', o' + k, none⟩) hbl').trans (hc' k hlt)
      have k0 : (0 : Int) ≤ (k : Int) := by omega
      have k1 : (k : Int) < (l.length : Int) := by omega
      clear hc hc' hx
      go_wp2_with fail
      go_quiet (fail)
      go_wp2
      go_roundw
      case rel => exact ⟨k + 1, by omega, by go_num, below_drewN hbel _⟩
      case measure => simp [intOf]; omega
    · go_wp2
      go_ret
      exact ⟨rfl, hbel⟩
end Go.Proofs.Ytclehobammhjmaa
