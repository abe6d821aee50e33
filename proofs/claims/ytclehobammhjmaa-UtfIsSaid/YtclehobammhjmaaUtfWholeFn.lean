/-
  utf.Whole: is a text UTF-8 throughout?
-/
import Derived.Test.YtclehobammhjmaaUtfRunes
namespace Go.Proofs.Ytclehobammhjmaa
open Go.RowKit

theorem form_repl : formV 65533 = [239, 191, 189] := by decide
theorem pre_good {l : List UInt8} (h : l ≠ []) (h1 : (dec l).1 = 65533) (hb : dec l ≠ (65533, 1)) : preB l [239, 191, 189] = true := by
  have hf := formV_dec h hb
  rw [h1] at hf
  rw [show ((65533 : Nat) : Int) = 65533 from rfl, form_repl] at hf
  have hk : 3 = min (dec l).2 l.length := by
    have := congrArg List.length hf
    rw [List.length_take] at this
    exact this
  have hle := (dec_ok h).2.1
  have hk' : (dec l).2 = 3 := by omega
  rw [hk'] at hf
  simp only [preB, List.length_cons, List.length_nil, Bool.and_eq_true, decide_eq_true_eq, beq_iff_eq]
  exact ⟨by omega, hf.symm⟩
theorem pre_bad {l : List UInt8} (hb : dec l = (65533, 1)) : preB l [239, 191, 189] = false := by
  cases hp : preB l [239, 191, 189] with
  | false => rfl
  | true =>
    simp only [preB, List.length_cons, List.length_nil, Bool.and_eq_true, decide_eq_true_eq, beq_iff_eq] at hp
    have := dec_formV (r := 65533) (by decide) (l.drop 3)
    rw [form_repl, ← hp.2, List.take_append_drop, hb] at this
    exact absurd (congrArg Prod.snd this) (by rw [hp.2]; decide)

set_option maxHeartbeats 1000000 in
theorem Whole_any (l : List UInt8) (w : World) :
    Calls Try.prog 25 #[.string (str l)] w fun e w' => e = .returned (.bool (whole l)) ∧ Below w.heap.size w w' := by
  go_enter Try.func25, Try.ntmps25
  go_wp2
  have hit1 := World.iter_heap w (str l) 0
  have hb1' : Below w.heap.size w (w.iter (str l) 0) := (Below.refl _ _).alloc (Nat.le_refl _) _
  generalize w.iter (str l) 0 = w2 at *
  go_loopw [3] (fun _ wr => ∃ k : Nat, k ≤ l.length ∧ Hid (whole (l.drop k) = whole l) ∧ Hid (wr.heap[w.heap.size]? = some (.stringIter (str l) k)) ∧ Below w.heap.size w wr) (fun _ wr => l.length - wr.iterPos w.heap.size)
  case atStart => exact ⟨0, Nat.zero_le _, by rfl, hit1, hb1'⟩
  case round =>
    obtain ⟨k, hk, HE, HI, hbel⟩ := hrel
    by_cases hlt : k < l.length
    · obtain ⟨R, K, hd⟩ : ∃ R K, dec (l.drop k) = (R, K) := ⟨_, _, rfl⟩
      obtain ⟨hK1, hK2, hR⟩ := dec_drop hlt hd
      have hnx : ∀ ty, (Instr.next (.pointer (some ⟨w.heap.size, 0, none⟩)) true ty).run Try.prog wr = .ok (.tuple #[.bool true, .int .i64 k, .int .i32 (R : Int)]) (wr.iterAt w.heap.size (str l) (k + K)) := fun ty => by
        have := Lib.run_next_any_at (P := Try.prog) wr w.heap.size (str l) k ty HI.out (by rw [str_size]; exact hlt)
        rwa [decode_str, hd] at this
      have hit2 := Lib.iterAt_heap wr w.heap.size (str l) k (k + K) HI.out
      have hbel2 := Lib.below_iterAt hbel (k := w.heap.size) (Nat.le_refl _) (str l) (k + K)
      obtain ⟨W, hW⟩ : ∃ W, wr.iterAt w.heap.size (str l) (k + K) = W := ⟨_, rfl⟩
      rw [hW] at hnx hit2 hbel2
      have hp := iterPos_of HI.out
      have hp2 := iterPos_of hit2
      have HP := Lib.hid hp
      have HP2 := Lib.hid hp2
      have HI2 := Lib.hid hit2
      have HD := Lib.hid hd
      have hks : (k : Int) ≤ (l.length : Int) := by omega
      have k0 : (0 : Int) ≤ (k : Int) := by omega
      have hsl : ∀ wx, (Instr.slice 9 (.string (str l)) (some (.int .i64 (k : Int))) none none).run Try.prog wx = .ok (.string (str (l.drop k))) wx := fun wx => by
        rw [run_slice_string_from_if wx 9 (str l) .i64 (k : Int) Try.underlying9]
        simp [str_size, str_extract, hk]
        exact str_inj (List.take_of_length_le (by simp))
      obtain ⟨d, hdd⟩ : ∃ d, d = l.drop k := ⟨_, rfl⟩
      rw [← hdd] at hsl
      have hpr : ∀ w, Calls Try.prog 37 #[.string (str d), .string ⟨#[239, 191, 189]⟩] w fun e w' => e = .returned (.bool (preB d [239, 191, 189])) ∧ w = w' := fun w => HasPrefix_any d [239, 191, 189] w
      generalize hq : preB d [239, 191, 189] = q at hpr
      have HR := Lib.hid hpr
      have HDD := Lib.hid hdd
      have HQ := Lib.hid hq
      clear hd hit2 hW hp hp2 hpr hdd hq
      by_cases hr : R = 65533
      · subst hr
        have hr1 : (((65533 : Nat) : Int) == 65533) = true := by decide
        cases q with
        | true =>
          go_wp2_with (go_at_call 37; refine (HR.out _).mono ?_; rintro e w' ⟨rfl, rfl⟩)
          go_roundw
          case rel =>
            have hb : dec (l.drop k) ≠ (65533, 1) := fun e => by
              have := pre_bad e
              rw [← HDD.out, HQ.out] at this
              cases this
            have h1 := whole_step (drop_ne hlt) hb
            rw [HD.out, List.drop_drop] at h1
            exact ⟨k + K, by omega, h1.symm.trans HE.out, HI2, hbel2⟩
          case measure => rw [HP.out, HP2.out]; omega
        | false =>
          go_wp2_with (go_at_call 37; refine (HR.out _).mono ?_; rintro e w' ⟨rfl, rfl⟩)
          go_ret
          have hb : dec (l.drop k) = (65533, 1) := by
            rcases Decidable.em (dec (l.drop k) = (65533, 1)) with h | h
            · exact h
            · have := pre_good (drop_ne hlt) (by rw [HD.out]) h
              rw [← HDD.out, HQ.out] at this
              cases this
          have h1 := whole_bad (drop_ne hlt) hb
          rw [HE.out] at h1
          rw [h1]
          exact ⟨rfl, hbel2⟩
      · have hr1 : ((R : Int) == 65533) = false := by rw [beq_eq_false_iff_ne]; omega
        go_wp2_with fail
        go_roundw
        case rel =>
          have hb : dec (l.drop k) ≠ (65533, 1) := fun e => by
            rw [HD.out] at e
            injection e with e1 _
            exact hr e1
          have h1 := whole_step (drop_ne hlt) hb
          rw [HD.out, List.drop_drop] at h1
          exact ⟨k + K, by omega, h1.symm.trans HE.out, HI2, hbel2⟩
        case measure => rw [HP.out, HP2.out]; omega
    · have he : whole l = true := by
        have := HE.out
        rw [List.drop_eq_nil_of_le (by omega), whole_nil] at this
        exact this.symm
      have hnx : ∀ ty, (Instr.next (.pointer (some ⟨w.heap.size, 0, none⟩)) true ty).run Try.prog wr = _ := fun ty => Lib.run_next_end_at (P := Try.prog) wr w.heap.size (str l) k ty HI.out (by rw [str_size]; exact hlt)
      have HW := Lib.hid he
      clear he
      go_wp2
      go_ret
      rw [HW.out]
      exact ⟨rfl, hbel⟩
end Go.Proofs.Ytclehobammhjmaa
