/-
  lex.Skip: behind blanks and remarks, in any text from any place on.
-/
import Derived.Test.YtjlecollphgmcaaDoorLexIndex
import Derived.Test.YtjlecollphgmcaaDoorLexClass
import Derived.Test.YtjlecollphgmcaaDoorStrGet
namespace Go.Proofs.YtjlecollphgmcaaDoor
open Go.RowKit

/-- The first place from one on at which neither a blank stands nor a remark, or the end. -/
def skN (l : List UInt8) (a : Int) : Nat := pl l.length a + sk false (l.drop (pl l.length a))
theorem skN_le (l : List UInt8) (a : Int) : skN l a ≤ l.length := by
  have h1 := sk_le (l.drop (pl l.length a)) false
  have h2 := pl_le l.length a
  rw [List.length_drop] at h1
  unfold skN; omega
theorem wh_iff (x : UInt8) : wh x = (kz (x.toNat : Int) == 1) := rfl
theorem ne37 {x : UInt8} : ((x.toNat : Int) == 37) = false ↔ x ≠ 37 := by
  rw [beq_eq_false_iff_ne]
  constructor
  · rintro h rfl; exact h rfl
  · intro h e; exact h (eq_of_toNat (by show x.toNat = 37; omega))

set_option maxHeartbeats 2000000 in
theorem Skip_any (l : List UInt8) (a : Int) (w : World) (ht : Tab w) (hl : l.length ≤ 1073741824) :
    Calls Tryd.prog 17 #[.string (str l), .int .i64 a] w fun e w' => e = .returned (.int .i64 (skN l a : Nat)) ∧ Below w.heap.size w w' := by
  have hp := pl_le l.length a
  have hW : ∀ w, Calls Tryd.prog 32 #[.string (str l), .int .i64 a] w fun e w' => e = .returned (.int .i64 (pl l.length a : Nat)) ∧ w = w' := fun w => within_any l a w
  have hn : skN l a = pl l.length a + sk false (l.drop (pl l.length a)) := rfl
  generalize skN l a = N at *
  generalize pl l.length a = p at *
  have HW := Lib.hid hW
  have HN := Lib.hid hn
  clear hW hn
  go_enter Tryd.func17, Tryd.ntmps17
  go_wp2_with (go_at_call 32; refine (HW.out _).mono ?_; rintro e w' ⟨rfl, rfl⟩)
  go_loopw [1] (fun i wr => ∃ k : Nat, k ≤ l.length ∧ i = .int .i64 k ∧ Hid (k + sk false (l.drop k) = N) ∧ Below w.heap.size w wr) (fun i _ => l.length - (intOf i).toNat)
  case atStart => exact ⟨p, hp, rfl, HN.out.symm, Below.refl _ _⟩
  case round =>
    obtain ⟨k, hk, rfl, HE, hbel⟩ := hrel
    have htr := ht.below' hbel
    by_cases hlt : k < l.length
    · obtain ⟨x, hx⟩ : ∃ x, x = l[k]?.getD 0 := ⟨_, rfl⟩
      have hgs : ∀ h, (str l)[k]'h = x := fun h => (get_str l k h).trans hx.symm
      have hx1 := x.toNat_lt
      have hdr := drop_at hlt hx
      by_cases h37 : x = 37
      · have t1 : ((x.toNat : Int) == 37) = true := by rw [h37]; rfl
        have hsl := run_from (P := Tryd.prog) l k hk 9 Tryd.underlying9
        have hle := eol_le (l.drop k)
        have hlen : (l.drop k).length = l.length - k := List.length_drop
        have hsk : k + sk true (l.drop k) = N := by have := HE.out; rw [hdr, h37, sk_remark, ← h37, ← hdr] at this; exact this
        rw [sk_eol] at hsk
        have hC : ∀ w, Calls Tryd.prog 33 #[.string (str (l.drop k)), .string (ByteArray.mk #[10, 13])] w fun e w' => e = .returned (.int .i64 (ia (l.drop k))) ∧ Below w.heap.size w w' := fun w => IndexAny_nl (l.drop k) w (by omega)
        by_cases he : eol (l.drop k) < (l.drop k).length
        · rw [if_pos he] at hsk
          have hia : ia (l.drop k) = (eol (l.drop k) : Int) := if_pos he
          rw [hia] at hC
          obtain ⟨e, hee⟩ : ∃ e, e = eol (l.drop k) := ⟨_, rfl⟩
          rw [← hee] at hC hsk he
          rw [List.drop_drop] at hsk
          have hke : k + e < l.length := by omega
          have hst : (k + e + 1) + sk false (l.drop (k + e + 1)) = N := by rw [show k + e + 1 = k + (e + 1) by omega]; omega
          have HS := Lib.hid hst
          have HC := Lib.hid hC
          clear hx hdr hC hst hsk hee hia hle hlen he h37
          generalize l.drop k = d at *
          go_wp2_with (go_at_call 33; refine (HC.out _).mono ?_; rintro e w3 ⟨rfl, hb3⟩)
          go_roundw
          case rel => exact ⟨k + e + 1, by omega, by go_num, HS, hbel.trans (hb3.mono hbel.size)⟩
          case measure => simp [intOf]; omega
        · rw [if_neg he] at hsk
          have hia : ia (l.drop k) = -1 := if_neg he
          rw [hia] at hC
          have hNl : N = l.length := by omega
          have HNL := Lib.hid hNl
          have HC := Lib.hid hC
          clear hx hdr hC hsk hia hle hlen he h37 hNl
          generalize l.drop k = d at *
          go_wp2_with (go_at_call 33; refine (HC.out _).mono ?_; rintro e w3 ⟨rfl, hb3⟩)
          go_ret
          rw [HNL.out]
          exact ⟨rfl, hbel.trans (hb3.mono hbel.size)⟩
      · have t1 := ne37.2 h37
        have hC : ∀ w, Tab w → Calls Tryd.prog 16 #[.int .i64 (x.toNat : Int)] w fun e w' => e = .returned (.bool (wh x)) ∧ w = w' := fun w ht => White_any _ w ht
        have HC := Lib.hid hC
        cases hw : wh x with
        | true =>
          have hst : (k + 1) + sk false (l.drop (k + 1)) = N := by have := HE.out; rw [hdr, sk_wh _ h37 hw] at this; omega
          have HS := Lib.hid hst
          clear hx hdr hC hst h37
          go_wp2_with (go_at_call 16; refine (HC.out _ htr).mono ?_; rintro e w' ⟨rfl, rfl⟩)
          go_roundw
          case rel => exact ⟨k + 1, by omega, by go_num, HS, hbel⟩
          case measure => simp [intOf]; omega
        | false =>
          have hkN : k = N := by have := HE.out; rw [hdr, sk_no _ h37 hw] at this; omega
          subst hkN
          clear hx hdr hC h37
          go_wp2_with (go_at_call 16; refine (HC.out _ htr).mono ?_; rintro e w' ⟨rfl, rfl⟩)
          go_ret
          exact ⟨rfl, hbel⟩
    · have hkN : k = N := by have := HE.out; rw [List.drop_eq_nil_of_le (by omega), sk_nil] at this; omega
      subst hkN
      go_wp2
      go_ret
      exact ⟨rfl, hbel⟩
end Go.Proofs.YtjlecollphgmcaaDoor
