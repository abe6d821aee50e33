/-
  lex.Word: regular bytes in a row from a place on.
-/
import Derived.Test.YtjlecollphgmcaaDoorLexClass
import Derived.Test.YtjlecollphgmcaaDoorStrGet
namespace Go.Proofs.YtjlecollphgmcaaDoor
open Go.RowKit

/-- The word from a place on, and the place behind it. -/
def wdL (l : List UInt8) (a : Int) : List UInt8 := (l.drop (pl l.length a)).take (wn (l.drop (pl l.length a)))
def wdN (l : List UInt8) (a : Int) : Nat := pl l.length a + wn (l.drop (pl l.length a))
theorem wdN_le (l : List UInt8) (a : Int) : wdN l a ≤ l.length := by
  have h1 := wn_le (l.drop (pl l.length a))
  have h2 := pl_le l.length a
  rw [List.length_drop] at h1
  unfold wdN; omega

set_option maxHeartbeats 1000000 in
theorem Word_any (l : List UInt8) (a : Int) (w : World) (ht : Tab w) (hl : l.length ≤ 4294967296) :
    Calls Tryd.prog 19 #[.string (str l), .int .i64 a] w fun e w' => e = .returned (.tuple #[.string (str (wdL l a)), .int .i64 (wdN l a : Nat)]) ∧ w = w' := by
  have hp := pl_le l.length a
  have hW : ∀ w, Calls Tryd.prog 32 #[.string (str l), .int .i64 a] w fun e w' => e = .returned (.int .i64 (pl l.length a : Nat)) ∧ w = w' := fun w => within_any l a w
  have hn : wdN l a = pl l.length a + wn (l.drop (pl l.length a)) := rfl
  have hd : wdL l a = (l.drop (pl l.length a)).take (wdN l a - pl l.length a) := by rw [hn]; unfold wdL; congr 1; omega
  have hN := wdN_le l a
  generalize wdN l a = N at *
  generalize wdL l a = D at *
  generalize pl l.length a = p at *
  have HW := Lib.hid hW
  have HD := Lib.hid hd
  have HN := Lib.hid hn
  have hpN : p ≤ N := by omega
  clear hW hd hn
  go_enter Tryd.func19, Tryd.ntmps19
  go_wp2_with (go_at_call 32; refine (HW.out _).mono ?_; rintro e w' ⟨rfl, rfl⟩)
  go_loop [6] (fun i => ∃ k : Nat, p ≤ k ∧ k ≤ l.length ∧ i = .int .i64 k ∧ Hid (k + wn (l.drop k) = N)) (fun i => l.length - (intOf i).toNat)
  case atStart => exact ⟨p, Nat.le_refl _, hp, rfl, HN.out.symm⟩
  case round =>
    obtain ⟨k, hpk, hk, rfl, HE⟩ := hrel
    by_cases hlt : k < l.length
    · obtain ⟨x, hx⟩ : ∃ x, x = l[k]?.getD 0 := ⟨_, rfl⟩
      have hgs : ∀ h, (str l)[k]'h = x := fun h => (get_str l k h).trans hx.symm
      have hx1 := x.toNat_lt
      have hC : ∀ w, Tab w → Calls Tryd.prog 12 #[.int .i64 (x.toNat : Int)] w fun e w' => e = .returned (.int .i64 (cb x)) ∧ w = w' := fun w ht => Class_any _ w ht
      have HC := Lib.hid hC
      have hdr := drop_at hlt hx
      cases hr : rg x with
      | true =>
        have hr' : (cb x == 0) = true := hr
        have hst : (k + 1) + wn (l.drop (k + 1)) = N := by have := HE.out; rw [hdr, wn_y _ hr] at this; omega
        have HS := Lib.hid hst
        clear hx hC hdr hst hr
        generalize cb x = cx at *
        go_wp2_with (go_at_call 12; refine (HC.out _ ht).mono ?_; rintro e w' ⟨rfl, rfl⟩)
        go_round
        case rel => exact ⟨k + 1, by omega, by omega, by go_num, HS⟩
        case measure => simp [intOf]; omega
      | false =>
        have hr' : (cb x == 0) = false := hr
        have hkN : k = N := by have := HE.out; rw [hdr, wn_n _ hr] at this; omega
        subst hkN
        have hsl := run_mid (P := Tryd.prog) l p k hpk hk 9 Tryd.underlying9
        rw [← HD.out] at hsl
        clear hx hC hdr hr
        generalize cb x = cx at *
        go_wp2_with (go_at_call 12; refine (HC.out _ ht).mono ?_; rintro e w' ⟨rfl, rfl⟩)
        go_ret2
        exact ⟨rfl, rfl⟩
    · have hkN : k = N := by have := HE.out; rw [List.drop_eq_nil_of_le (by omega), wn] at this; omega
      subst hkN
      have hsl := run_mid (P := Tryd.prog) l p k hpk hk 9 Tryd.underlying9
      rw [← HD.out] at hsl
      go_wp2
      go_ret2
      exact ⟨rfl, rfl⟩
end Go.Proofs.YtjlecollphgmcaaDoor
