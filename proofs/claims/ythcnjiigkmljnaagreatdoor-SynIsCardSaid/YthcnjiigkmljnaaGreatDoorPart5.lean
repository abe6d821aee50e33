/-
  Parts of this proof, one behind the other: LexSkip, LexName, LexOwn, TokPre, StrHas, TokMark, TokNx, HexUn, TokHex, TokOct, TokEsc, TokSr, LexWord, StrPre.
-/
import Derived.Test.YthcnjiigkmljnaaGreatDoorPart4
import Derived.Test.YthcnjiigkmljnaaGreatDoorPart3
import Derived.Test.YthcnjiigkmljnaaGreatDoorPart1
import Derived.Deep.AppendLies
import Derived.Test.YthcnjiigkmljnaaGreatDoorPart2
import Derived.Lib.AppendStr
import Derived.Test.YthcnjiigkmljnaaGreatDoorProg
import Derived.BigQuiet
import Derived.Deep.QuietTactic
import Derived.Deep.RegionHeld
import Derived.Deep.DrawnRows
/-
  lex.Skip: behind blanks and remarks, in any text from any place on.
-/
namespace Go.Proofs.YthcnjiigkmljnaaGreatDoor
open Go.RowKit

/-- The first place from one on at which neither a blank stands nor a remark, or the end. -/
def skN (l : List UInt8) (a : Int) : Nat := pl l.length a + sk false (l.drop (pl l.length a))
theorem skN_le (l : List UInt8) (a : Int) : skN l a ≤ l.length := by
  have h1 := sk_le (l.drop (pl l.length a)) false
  have h2 := pl_le l.length a
  rw [List.length_drop] at h1
  unfold skN; omega
theorem wh_iff (x : UInt8) : wh x = (kz (x.toNat : Int) == 1) := rfl
theorem ne37 {x : UInt8} : ((x.toNat : Int) == 37) = false ↔ x ≠ 37 := by
  rw [beq_eq_false_iff_ne]
  constructor
  · rintro h rfl; exact h rfl
  · intro h e; exact h (eq_of_toNat (by show x.toNat = 37; omega))

set_option maxHeartbeats 2000000 in
theorem Skip_any (l : List UInt8) (a : Int) (w : World) (ht : Tab w) (hl : l.length ≤ 1073741824) :
    Calls Tryz.prog 33 #[.string (str l), .int .i64 a] w fun e w' => e = .returned (.int .i64 (skN l a : Nat)) ∧ Below w.heap.size w w' := by
  have hp := pl_le l.length a
  have hW : ∀ w, Calls Tryz.prog 53 #[.string (str l), .int .i64 a] w fun e w' => e = .returned (.int .i64 (pl l.length a : Nat)) ∧ w = w' := fun w => within_any l a w
  have hn : skN l a = pl l.length a + sk false (l.drop (pl l.length a)) := rfl
  generalize skN l a = N at *
  generalize pl l.length a = p at *
  have HW := Lib.hid hW
  have HN := Lib.hid hn
  clear hW hn
  go_enter Tryz.func33, Tryz.ntmps33
  go_wp2_with (go_at_call 53; refine (HW.out _).mono ?_; rintro e w' ⟨rfl, rfl⟩)
  go_loopw [1] (fun i wr => ∃ k : Nat, k ≤ l.length ∧ i = .int .i64 k ∧ Hid (k + sk false (l.drop k) = N) ∧ Below w.heap.size w wr) (fun i _ => l.length - (intOf i).toNat)
  case atStart => exact ⟨p, hp, rfl, HN.out.symm, Below.refl _ _⟩
  case round =>
    obtain ⟨k, hk, rfl, HE, hbel⟩ := hrel
    have htr := ht.below' hbel
    by_cases hlt : k < l.length
    · obtain ⟨x, hx⟩ : ∃ x, x = l[k]?.getD 0 := ⟨_, rfl⟩
      have hgs : ∀ h, (str l)[k]'h = x := fun h => (get_str l k h).trans hx.symm
      have hx1 := x.toNat_lt
      have hdr := drop_at hlt hx
      by_cases h37 : x = 37
      · have t1 : ((x.toNat : Int) == 37) = true := by rw [h37]; rfl
        have hsl := run_from (P := Tryz.prog) l k hk 9 Tryz.underlying9
        have hle := eol_le (l.drop k)
        have hlen : (l.drop k).length = l.length - k := List.length_drop
        have hsk : k + sk true (l.drop k) = N := by have := HE.out; rw [hdr, h37, sk_remark, ← h37, ← hdr] at this; exact this
        rw [sk_eol] at hsk
        have hC : ∀ w, Calls Tryz.prog 54 #[.string (str (l.drop k)), .string (ByteArray.mk #[10, 13])] w fun e w' => e = .returned (.int .i64 (ia (l.drop k))) ∧ Below w.heap.size w w' := fun w => IndexAny_nl (l.drop k) w (by omega)
        by_cases he : eol (l.drop k) < (l.drop k).length
        · rw [if_pos he] at hsk
          have hia : ia (l.drop k) = (eol (l.drop k) : Int) := if_pos he
          rw [hia] at hC
          obtain ⟨e, hee⟩ : ∃ e, e = eol (l.drop k) := ⟨_, rfl⟩
          rw [← hee] at hC hsk he
          rw [List.drop_drop] at hsk
          have hke : k + e < l.length := by omega
          have hst : (k + e + 1) + sk false (l.drop (k + e + 1)) = N := by rw [show k + e + 1 = k + (e + 1) by omega]; omega
          have HS := Lib.hid hst
          have HC := Lib.hid hC
          clear hx hdr hC hst hsk hee hia hle hlen he h37
          generalize l.drop k = d at *
          go_wp2_with (go_at_call 54; refine (HC.out _).mono ?_; rintro e w3 ⟨rfl, hb3⟩)
          go_roundw
          case rel => exact ⟨k + e + 1, by omega, by go_num, HS, hbel.trans (hb3.mono hbel.size)⟩
          case measure => simp [intOf]; omega
        · rw [if_neg he] at hsk
          have hia : ia (l.drop k) = -1 := if_neg he
          rw [hia] at hC
          have hNl : N = l.length := by omega
          have HNL := Lib.hid hNl
          have HC := Lib.hid hC
          clear hx hdr hC hsk hia hle hlen he h37 hNl
          generalize l.drop k = d at *
          go_wp2_with (go_at_call 54; refine (HC.out _).mono ?_; rintro e w3 ⟨rfl, hb3⟩)
          go_ret
          rw [HNL.out]
          exact ⟨rfl, hbel.trans (hb3.mono hbel.size)⟩
      · have t1 := ne37.2 h37
        have hC : ∀ w, Tab w → Calls Tryz.prog 55 #[.int .i64 (x.toNat : Int)] w fun e w' => e = .returned (.bool (wh x)) ∧ w = w' := fun w ht => White_any _ w ht
        have HC := Lib.hid hC
        cases hw : wh x with
        | true =>
          have hst : (k + 1) + sk false (l.drop (k + 1)) = N := by have := HE.out; rw [hdr, sk_wh _ h37 hw] at this; omega
          have HS := Lib.hid hst
          clear hx hdr hC hst h37
          go_wp2_with (go_at_call 55; refine (HC.out _ htr).mono ?_; rintro e w' ⟨rfl, rfl⟩)
          go_roundw
          case rel => exact ⟨k + 1, by omega, by go_num, HS, hbel⟩
          case measure => simp [intOf]; omega
        | false =>
          have hkN : k = N := by have := HE.out; rw [hdr, sk_no _ h37 hw] at this; omega
          subst hkN
          clear hx hdr hC h37
          go_wp2_with (go_at_call 55; refine (HC.out _ htr).mono ?_; rintro e w' ⟨rfl, rfl⟩)
          go_ret
          exact ⟨rfl, hbel⟩
    · have hkN : k = N := by have := HE.out; rw [List.drop_eq_nil_of_le (by omega), sk_nil] at this; omega
      subst hkN
      go_wp2
      go_ret
      exact ⟨rfl, hbel⟩
end Go.Proofs.YthcnjiigkmljnaaGreatDoor
/-
  lex.escaped and lex.Name: a written name, as bytes.
-/
namespace Go.Proofs.YthcnjiigkmljnaaGreatDoor
open Go.RowKit

def ev (d : List UInt8) : Int := match esc d with
  | some y => (y.toNat : Int)
  | none => 0
def eb (d : List UInt8) : Bool := (esc d).isSome
theorem ev_some {d : List UInt8} {y : UInt8} (h : esc d = some y) : ev d = (y.toNat : Int) ∧ eb d = true := by simp [ev, eb, h]
theorem ev_none {d : List UInt8} (h : esc d = none) : ev d = 0 ∧ eb d = false := by simp [ev, eb, h]
theorem esc_short {d : List UInt8} (h : d.length < 3) : esc d = none := by
  match d, h with
  | [], _ => rfl
  | [a], _ => rfl
  | [a, b], _ => rfl
  | a :: b :: c :: r, h => simp at h; omega
theorem ne35 {x : UInt8} : ((x.toNat : Int) == 35) = false ↔ x ≠ 35 := by
  rw [beq_eq_false_iff_ne]
  constructor
  · rintro h rfl; exact h rfl
  · intro h e; exact h (eq_of_toNat (by show x.toNat = 35; omega))

set_option maxHeartbeats 2000000 in
theorem escaped_any (d : List UInt8) (w : World) (ht : Tab w) (hl : d.length ≤ 4294967296) :
    Calls Tryz.prog 58 #[.string (str d)] w fun e w' => e = .returned (.tuple #[.int .u8 (ev d), .bool (eb d)]) ∧ w = w' := by
  by_cases h3 : d.length < 3
  · have e := ev_none (esc_short h3)
    rw [e.1, e.2]
    have t1 : decide ((d.length : Int) < 3) = true := by simp; omega
    clear e
    go_enter Tryz.func58, Tryz.ntmps58
    go_wp2
    go_ret2
    exact ⟨rfl, rfl⟩
  · have t1 : decide ((d.length : Int) < 3) = false := by simp; omega
    obtain ⟨c, a, b, r, hd⟩ : ∃ c a b r, d = c :: a :: b :: r := by
      match d, h3 with
      | [], h => simp at h
      | [a], h => simp at h
      | [a, b], h => simp at h
      | c :: a :: b :: r, _ => exact ⟨c, a, b, r, rfl⟩
    have g0 : ∀ h, (str d)[0]'h = c := fun h => by rw [get_str, hd]; rfl
    have g1 : ∀ h, (str d)[1]'h = a := fun h => by rw [get_str, hd]; rfl
    have g2 : ∀ h, (str d)[2]'h = b := fun h => by rw [get_str, hd]; rfl
    have i0 : (0 : Int) < (d.length : Int) := by omega
    have i1 : (1 : Int) < (d.length : Int) := by omega
    have i2 : (2 : Int) < (d.length : Int) := by omega
    have c1 := c.toNat_lt
    have a1 := a.toNat_lt
    have b1 := b.toNat_lt
    have he : esc d = if c = 35 ∧ 2 ≤ kb a ∧ 2 ≤ kb b then some (UInt8.ofNat (16 * (kb a - 2).toNat + (kb b - 2).toNat)) else none := by rw [hd, esc_3]
    clear hd
    by_cases hc : c = 35
    · have t2 : ((c.toNat : Int) != 35) = false := by rw [hc]; rfl
      by_cases ha : 2 ≤ kz (a.toNat : Int)
      · by_cases hb : 2 ≤ kz (b.toNat : Int)
        · obtain ⟨x, hx⟩ : ∃ x : Nat, kz (a.toNat : Int) - 2 = (x : Int) := ⟨(kz (a.toNat : Int) - 2).toNat, by omega⟩
          obtain ⟨y, hy⟩ : ∃ y : Nat, kz (b.toNat : Int) - 2 = (y : Int) := ⟨(kz (b.toNat : Int) - 2).toNat, by omega⟩
          have hx16 : x < 16 := by have := kz_bounds (a.toNat : Int); omega
          have hy16 : y < 16 := by have := kz_bounds (b.toNat : Int); omega
          have e := ev_some (he.trans (if_pos ⟨hc, ha, hb⟩))
          have hv : (16 * (kb a - 2).toNat + (kb b - 2).toNat) = 16 * x + y := by
            have e1 : kb a - 2 = (x : Int) := hx
            have e2 : kb b - 2 = (y : Int) := hy
            rw [e1, e2]; omega
          rw [e.1, e.2, hv]
          obtain ⟨z, hz'⟩ : ∃ z : Nat, z = 16 * x + y := ⟨_, rfl⟩
          have hz1 : z < 256 := by omega
          have ho : bits .or .i64 ((x : Int) * 16) (y : Int) = (z : Int) := by rw [Int.mul_comm, or_nib x y hx16 hy16]; omega
          have hz : ((UInt8.ofNat (16 * x + y)).toNat : Int) = (z : Int) := by rw [UInt8.toNat_ofNat_of_lt' (by show _ < 256; omega)]; omega
          rw [hz]
          clear hz'
          have hA : ∀ w, Tab w → Calls Tryz.prog 86 #[.int .i64 (a.toNat : Int)] w fun e w' => e = .returned (.tuple #[.int .i64 (x : Int), .bool true]) ∧ w = w' := fun w ht => by rw [← hx]; exact Digit_yes _ w ht ha
          have hB : ∀ w, Tab w → Calls Tryz.prog 86 #[.int .i64 (b.toNat : Int)] w fun e w' => e = .returned (.tuple #[.int .i64 (y : Int), .bool true]) ∧ w = w' := fun w ht => by rw [← hy]; exact Digit_yes _ w ht hb
          have HA := Lib.hid hA
          have HB := Lib.hid hB
          clear e hv hz hA hB he hc ha hb hx hy
          go_enter Tryz.func58, Tryz.ntmps58
          go_wp2_with fail
          refine (HA.out _ ht).mono ?_
          rintro e w' ⟨rfl, rfl⟩
          go_wp2_with fail
          refine (HB.out _ ht).mono ?_
          rintro e w' ⟨rfl, rfl⟩
          go_wp2
          go_ret2
          exact ⟨rfl, rfl⟩
        · have e := ev_none (he.trans (if_neg fun h => hb h.2.2))
          rw [e.1, e.2]
          clear e he hc
          go_enter Tryz.func58, Tryz.ntmps58
          go_wp2_with fail
          refine (Digit_yes _ _ ht ha).mono ?_
          rintro e w' ⟨rfl, rfl⟩
          go_wp2_with fail
          refine (Digit_no _ _ ht (by omega)).mono ?_
          rintro e w' ⟨rfl, rfl⟩
          go_wp2
          go_ret2
          exact ⟨rfl, rfl⟩
      · have e := ev_none (he.trans (if_neg fun h => ha h.2.1))
        rw [e.1, e.2]
        clear e he hc
        go_enter Tryz.func58, Tryz.ntmps58
        go_wp2_with fail
        refine (Digit_no _ _ ht (by omega)).mono ?_
        rintro e w' ⟨rfl, rfl⟩
        go_wp2
        go_ret2
        exact ⟨rfl, rfl⟩
    · have t2 : ((c.toNat : Int) != 35) = true := by unfold bne; rw [ne35.2 hc]; rfl
      have e := ev_none (he.trans (if_neg fun h => hc h.1))
      rw [e.1, e.2]
      clear e he hc
      go_enter Tryz.func58, Tryz.ntmps58
      go_wp2
      go_ret2
      exact ⟨rfl, rfl⟩

theorem name_yes {l out : List UInt8} {k : Nat} {y : UInt8} (hlt : k < l.length) (he : esc (l.drop k) = some y) (h : out ++ nameL (l.drop k) = nameL l) : k + 3 ≤ l.length ∧ (out ++ [y]) ++ nameL (l.drop (k + 3)) = nameL l := by
  have hdr := drop_at hlt (rfl : l[k]?.getD 0 = l[k]?.getD 0)
  rw [hdr] at he h
  have hle := (esc_len he).1
  rw [List.length_drop] at hle
  rw [nameL_some he, List.drop_drop] at h
  refine ⟨by omega, ?_⟩
  rw [List.append_assoc]
  exact h
theorem name_no {l out : List UInt8} {k : Nat} {x : UInt8} (hlt : k < l.length) (hx : x = l[k]?.getD 0) (he : esc (l.drop k) = none) (h : out ++ nameL (l.drop k) = nameL l) : (out ++ [x]) ++ nameL (l.drop (k + 1)) = nameL l := by
  rw [drop_at hlt hx] at he h
  rw [nameL_none he] at h
  rw [List.append_assoc]
  exact h
theorem own_byte {w : World} {base n : Nat} {e : TypeId} {v : Value} {out : List UInt8} {x : UInt8} (h : w.ownsRow base e 1 v n (bvs out ++ bvs [x])) (hn : n = out.length + 1) : w.ownsRow base e 1 v (out ++ [x]).length (bvs (out ++ [x])) := by
  rw [bvs_append, List.length_append]; subst hn; exact h

set_option maxHeartbeats 2000000 in
theorem Name_any (l : List UInt8) (w : World) (ht : Tab w) (hl : l.length ≤ 65536) :
    Calls Tryz.prog 36 #[.string (str l)] w fun e w' => e = .returned (.string (str (nameL l))) ∧ Below w.heap.size w w' := by
  obtain ⟨i0, hi, hz0, hz1, hz2⟩ := info_parts info8
  go_enter Tryz.func36, Tryz.ntmps36
  go_wp2_with (at_make; refine wpList_make_own _ rfl _ _ _ rfl w.heap.size 5 i0 (.int .u8 0) 1 Tryz.underlying93 hi hz0 hz1 .i64 .i64 _ l.length rfl rfl (by omega) (by rw [hz2]; omega) (by unfold maxLen; omega) (Nat.le_refl _) ?_; intro w1 hown1 hgrow1)
  have hb1 : Below w.heap.size w w1 := (Below.refl _ _).grown hgrow1 (Nat.le_refl _) (by simp)
  clear hgrow1
  generalize (Value.slice (some ⟨w.heap.size, 0, none⟩) 0 l.length) = v1 at *
  go_loopw [3, 4] (fun v i wr => ∃ (k : Nat) (out : List UInt8), k ≤ l.length ∧ out.length ≤ k ∧ i = .int .i64 k ∧ Hid (out ++ nameL (l.drop k) = nameL l) ∧ wr.ownsRow w.heap.size 5 1 v out.length (bvs out) ∧ Below w.heap.size w wr) (fun _ i _ => l.length - (intOf i).toNat)
  case atStart => exact ⟨0, [], Nat.zero_le _, Nat.zero_le _, rfl, Lib.hid (by simp), by simpa [bvs] using hown1, hb1⟩
  case round =>
    obtain ⟨k, out, hk, hout, rfl, HE, hown, hbel⟩ := hrel
    have htr := ht.below' hbel
    have hsz := hbel.size
    by_cases hlt : k < l.length
    · obtain ⟨x, hx⟩ : ∃ x, x = l[k]?.getD 0 := ⟨_, rfl⟩
      have hgs : ∀ h, (str l)[k]'h = x := fun h => (get_str l k h).trans hx.symm
      have hx1 := x.toNat_lt
      have hsl := run_from (P := Tryz.prog) l k hk 9 Tryz.underlying9
      have hC : ∀ w, Tab w → Calls Tryz.prog 58 #[.string (str (l.drop k))] w fun e w' => e = .returned (.tuple #[.int .u8 (ev (l.drop k)), .bool (eb (l.drop k))]) ∧ w = w' := fun w ht => escaped_any _ w ht (by rw [List.length_drop]; omega)
      cases he : esc (l.drop k) with
      | some y =>
        have e := ev_some he
        rw [e.1, e.2] at hC
        have hst := name_yes hlt he HE.out
        have hk3 := hst.1
        have HS := Lib.hid hst.2
        have HC := Lib.hid hC
        have hy1 := y.toNat_lt
        clear hx hC e hst he hgs
        generalize l.drop k = d at *
        go_wp2_with (first | (go_at_call 58; refine (HC.out _ htr).mono ?_; rintro e w' ⟨rfl, rfl⟩) | (at_builtin; refine wpList_append_lies _ rfl _ _ _ rfl w.heap.size 5 i0 (.int .u8 0) 1 1 Tryz.underlying93 hi hz0 hz1 hz2 rfl (by omega) u3 _ _ rfl (hown.alloc _) ⟨wr.heap.size, 0, none⟩ 1 1 (bvs [y]) rfl rfl (World.news_of_block (heap_alloc_new wr _)) (bvs_one _) (by omega) (by unfold maxLen; omega) (by omega) (by simp; omega) _ rfl ?_; intro g cap w3 hown3 hgrow hat hgl))
        go_roundw
        case rel => exact ⟨k + 3, out ++ [y], by omega, by simp; omega, by go_num, HS, own_byte hown3 rfl, (hbel.alloc hsz _).grown hgrow (by simp; omega) (fun q hq => (hown.lt q hq).1)⟩
        case measure => simp [intOf]; omega
      | none =>
        have e := ev_none he
        rw [e.1, e.2] at hC
        have hst := name_no hlt hx he HE.out
        have HS := Lib.hid hst
        have HC := Lib.hid hC
        clear hx hC e hst he
        generalize l.drop k = d at *
        go_wp2_with (first | (go_at_call 58; refine (HC.out _ htr).mono ?_; rintro e w' ⟨rfl, rfl⟩) | (at_builtin; refine wpList_append_lies _ rfl _ _ _ rfl w.heap.size 5 i0 (.int .u8 0) 1 1 Tryz.underlying93 hi hz0 hz1 hz2 rfl (by omega) u3 _ _ rfl (hown.alloc _) ⟨wr.heap.size, 0, none⟩ 1 1 (bvs [x]) rfl rfl (World.news_of_block (heap_alloc_new wr _)) (bvs_one _) (by omega) (by unfold maxLen; omega) (by omega) (by simp; omega) _ rfl ?_; intro g cap w3 hown3 hgrow hat hgl))
        go_roundw
        case rel => exact ⟨k + 1, out ++ [x], by omega, by simp; omega, by go_num, HS, own_byte hown3 rfl, (hbel.alloc hsz _).grown hgrow (by simp; omega) (fun q hq => (hown.lt q hq).1)⟩
        case measure => simp [intOf]; omega
    · have he : out = nameL l := by
        have := HE.out
        rw [List.drop_eq_nil_of_le (by omega), nameL_nil] at this
        simpa using this
      subst he
      obtain ⟨c', _, hc', A', hv, hsl⟩ := Sl.of_own hown
      subst hv
      have hconv := conv8 hsl c'
      go_wp2
      go_ret
      exact ⟨rfl, hbel⟩

theorem esc_at {l : List UInt8} {k : Nat} (h : k + 2 < l.length) {c a b : UInt8} (hc : c = l[k]?.getD 0) (ha : a = l[k + 1]?.getD 0) (hb : b = l[k + 2]?.getD 0) : esc (l.drop k) = if c = 35 ∧ 2 ≤ kb a ∧ 2 ≤ kb b then some (UInt8.ofNat (16 * (kb a - 2).toNat + (kb b - 2).toNat)) else none := by
  rw [drop_at (by omega) hc, drop_at (show k + 1 < l.length by omega) ha, drop_at (show k + 1 + 1 < l.length by omega) hb, esc_3]
end Go.Proofs.YthcnjiigkmljnaaGreatDoor
/-
  Rows that a call owns: over what leaves them alone; a string's bytes as cells.
-/
namespace Go.Proofs.YthcnjiigkmljnaaGreatDoor
open Go.RowKit

theorem strCells_str (l : List UInt8) : Lib.strCells (str l) = bvs l := rfl

theorem own_below {w w' : World} {base n b : Nat} {e : TypeId} {v : Value} {xs : List Value} (h : w.ownsRow base e 1 v n xs) (hb : Below b w w') (hB : w.heap.size ≤ b) : w'.ownsRow base e 1 v n xs := by
  refine ⟨h.1, ?_⟩
  rcases h.2 with hn | ⟨g, cap, cur, rfl, h1, hg, rest⟩
  · exact .inl hn
  · refine .inr ⟨g, cap, cur, rfl, h1, ?_, rest⟩
    have hlt := (Array.getElem?_eq_some_iff.1 hg).1
    rw [hb.block g (by omega)]
    exact hg
end Go.Proofs.YthcnjiigkmljnaaGreatDoor
/-
  Tokens ahead of all others; a token more in a row that is owned.
-/
namespace Go.Proofs.YthcnjiigkmljnaaGreatDoor
open Go.RowKit

/-- Tokens ahead of all others. -/
def Al.pre (out : List Tk) (a : Al) : Al := if a.e = 0 then ⟨out ++ a.l, a.k, 0⟩ else a
theorem pre_nil {a : Al} : Al.pre [] a = a := by
  unfold Al.pre
  split
  · rename_i h; cases a; simp_all
  · rfl
theorem pre_add (out : List Tk) (t : Tk) (a : Al) : Al.pre out (Al.add t a) = Al.pre (out ++ [t]) a := by
  by_cases h : a.e = 0
  · unfold Al.pre
    rw [if_pos (by rw [add_e]; exact h), if_pos h, add_l h, add_k]
    simp
  · rw [add_no h]
    unfold Al.pre
    rw [if_neg h, if_neg h]
theorem skN_of {l : List UInt8} {q : Nat} (h : q ≤ l.length) : skN l (q : Int) = q + sk false (l.drop q) := by unfold skN; rw [pl_of _ _ h]
theorem own_tok {w : World} {base n : Nat} {e : TypeId} {v : Value} {out : List Tk} {t : Tk} (h : w.ownsRow base e 4 v n (tvs out ++ tq t)) (hn : n = out.length + 1) : w.ownsRow base e 4 v (out ++ [t]).length (tvs (out ++ [t])) := by
  rw [tvs_append, List.length_append]; subst hn
  have : tvs [t] = tq t := by simp [tvs]
  rw [this]; exact h

theorem heap_alloc_two (w : World) (o o' : Obj) : ((w.alloc o).alloc o').heap[w.heap.size + 1]? = some o' := by
  have h := heap_alloc_new (w.alloc o) o'
  have e : (w.alloc o).heap.size = w.heap.size + 1 := by simp
  rwa [e] at h
end Go.Proofs.YthcnjiigkmljnaaGreatDoor
/-
  Does a text begin with another?
-/
namespace Go.Proofs.YthcnjiigkmljnaaGreatDoor
open Go.RowKit

/-- A text begins with another. -/
def preB (l p : List UInt8) : Bool := decide (p.length ≤ l.length) && (l.take p.length == p)
set_option maxHeartbeats 1000000 in
theorem liteHasPrefix_any (l p : List UInt8) (w : World) : Calls Tryz.prog 85 #[.string (str l), .string (str p)] w fun e w' => e = .returned (.bool (preB l p)) ∧ w = w' := by
  by_cases h : p.length ≤ l.length
  · have e : preB l p = (l.take p.length == p) := by simp [preB, h]
    rw [e]
    clear e
    go_enter Tryz.func85, Tryz.ntmps85
    go_wp2
    go_ret
    exact ⟨rfl, rfl⟩
  · have e : preB l p = false := by simp [preB, h]
    rw [e]
    clear e
    go_enter Tryz.func85, Tryz.ntmps85
    go_wp2
    go_ret
    exact ⟨rfl, rfl⟩
end Go.Proofs.YthcnjiigkmljnaaGreatDoor
/-
  tok.markAt: the kind of the mark at a place; tok.lineEnd: how many bytes the end of a line has.
-/
namespace Go.Proofs.YthcnjiigkmljnaaGreatDoor
open Go.RowKit
attribute [local go_sem ↓] Go.wp_at_zero Go.wp_at_succ

/-- The world holds the marks. -/
def Mks (w : World) : Prop := ∀ i, i < 12 → w.cell? ⟨1, i, none⟩ = some (.string (str (mkL i)))
theorem Mks.pos {w : World} (h : Mks w) : 1 < w.heap.size := World.block_lt_of_cell? w _ (h 0 (by omega))
theorem Mks.below' {w w' : World} (h : Mks w) (hb : Below w.heap.size w w') : Mks w' := fun i hi => (hb.cell (p := ⟨1, i, none⟩) h.pos).trans (h i hi)

theorem pre1 (b c : UInt8) (t : List UInt8) : preB (b :: t) [c] = (b == c) := by simp [preB]
theorem pre2 (b c d : UInt8) (t : List UInt8) : preB (b :: t) [c, d] = (b == c && t.head? == some d) := by
  cases t with
  | nil => simp [preB]
  | cons e u => by_cases h : b = c <;> by_cases h2 : e = d <;> simp [preB, h, h2]
theorem pre_mk (d : List UInt8) (j : Nat) (h0 : 6 ≤ j) (h1 : j ≤ 11) : preB d (mkL j) = (mk d == j) := by
  cases d with
  | nil =>
    rcases (show j = 6 ∨ j = 7 ∨ j = 8 ∨ j = 9 ∨ j = 10 ∨ j = 11 by omega) with rfl | rfl | rfl | rfl | rfl | rfl <;> rfl
  | cons b t =>
    rcases (show j = 6 ∨ j = 7 ∨ j = 8 ∨ j = 9 ∨ j = 10 ∨ j = 11 by omega) with rfl | rfl | rfl | rfl | rfl | rfl
    all_goals
      simp only [mkL, Nat.reduceEqDiff, if_true, if_false, pre1, pre2, mk]
      repeat' split
      all_goals simp_all
theorem mk_le (d : List UInt8) : mk d = 0 ∨ (6 ≤ mk d ∧ mk d ≤ 11) := by
  cases d with
  | nil => simp [mk]
  | cons b t => simp only [mk]; repeat' split
                all_goals omega

set_option maxHeartbeats 1000000 in
theorem HasPrefix_any (l p : List UInt8) (w : World) : Calls Tryz.prog 56 #[.string (str l), .string (str p)] w fun e w' => e = .returned (.bool (preB l p)) ∧ w = w' := by
  go_enter Tryz.func56, Tryz.ntmps56
  go_wp2_with (go_at_call 85; refine (liteHasPrefix_any l p _).mono ?_; rintro e w' ⟨rfl, rfl⟩)
  go_ret
  exact ⟨rfl, rfl⟩

set_option maxRecDepth 100000 in
set_option maxHeartbeats 2000000 in
theorem markAt_any (l : List UInt8) (p : Nat) (w : World) (hm : Mks w) (hp : p ≤ l.length) :
    Calls Tryz.prog 34 #[.string (str l), .int .i64 (p : Int)] w fun e w' => e = .returned (.int .i64 (mk (l.drop p) : Nat)) ∧ Below w.heap.size w w' := by
  have hsl := run_from (P := Tryz.prog) l p hp 9 Tryz.underlying9
  have hpm := pre_mk (l.drop p)
  have hle := mk_le (l.drop p)
  have hH : ∀ j w, Calls Tryz.prog 56 #[.string (str (l.drop p)), .string (str (mkL j))] w fun e w' => e = .returned (.bool (preB (l.drop p) (mkL j))) ∧ w = w' := fun j w => HasPrefix_any _ _ w
  generalize mk (l.drop p) = M at *
  generalize l.drop p = d at *
  have HP := Lib.hid hpm
  have HH := Lib.hid hH
  have HL := Lib.hid hle
  clear hpm hH hle
  go_enter Tryz.func34, Tryz.ntmps34
  go_wp2
  go_loopw [5] (fun i wr => ∃ k : Nat, 6 ≤ k ∧ k ≤ 12 ∧ i = .int .i64 k ∧ Hid (∀ j, 6 ≤ j → j < k → M ≠ j) ∧ Below w.heap.size w wr) (fun i _ => 16 - (intOf i).toNat)
  case atStart => exact ⟨6, by omega, by omega, rfl, fun j h1 h2 => by omega, Below.refl _ _⟩
  case round =>
    obtain ⟨k, hk0, hk, rfl, HE, hbel⟩ := hrel
    by_cases hlt : k < 12
    · have hcell : wr.cell? ⟨1, k, none⟩ = some (.string (str (mkL k))) := (hm.below' hbel) k hlt
      have hC := HH.out k
      rw [HP.out k hk0 (by omega)] at hC
      generalize mkL k = q at *
      cases hb : (M == k) with
      | true =>
        rw [hb] at hC
        have HC := Lib.hid hC
        have hMk : M = k := by simpa using hb
        clear hC hb
        go_wp2
        go_region_held (fun w' => w'.cell? ⟨1, k, none⟩ = some (.string (str q))) (exact hcell) ((go_at_call 56; refine (HC.out _).mono ?_; rintro e w' ⟨rfl, rfl⟩))
        all_goals
          go_wp2
          go_ret
          rw [hMk]
          exact ⟨rfl, by first | exact hbel | exact below_drewN hbel _ | exact (below_drewN hbel _).drew | exact below_drewN (below_drewN hbel _) _⟩
      | false =>
        rw [hb] at hC
        have HC := Lib.hid hC
        have hMk : M ≠ k := by simpa using hb
        have HMK := Lib.hid hMk
        clear hC hb hMk
        go_wp2
        go_region_held (fun w' => w'.cell? ⟨1, k, none⟩ = some (.string (str q))) (exact hcell) ((go_at_call 56; refine (HC.out _).mono ?_; rintro e w' ⟨rfl, rfl⟩))
        all_goals
          go_wp2
          go_roundw
          case rel =>
            refine ⟨k + 1, by omega, by omega, by go_num, fun j h1 h2 => ?_, by first | exact hbel | exact below_drewN hbel _ | exact (below_drewN hbel _).drew | exact below_drewN (below_drewN hbel _) _⟩
            by_cases e : j = k
            · rw [e]; exact HMK.out
            · exact HE.out j h1 (by omega)
          case measure => simp [intOf]; omega
    · obtain rfl : k = 12 := by omega
      have hM0 : M = 0 := by
        rcases HL.out with h | h
        · exact h
        · exact absurd rfl (HE.out M h.1 (by omega))
      go_wp2
      go_ret
      rw [hM0]
      exact ⟨rfl, hbel⟩

theorem len_pre (d : List UInt8) : len d = if preB d [13, 10] then 2 else if preB d [13] then 1 else if preB d [10] then 1 else 0 := by
  cases d with
  | nil => rfl
  | cons b t =>
    rw [pre1, pre1, pre2]
    simp only [len]
    by_cases h : b = 13
    · by_cases h2 : t.head? = some 10 <;> simp [h, h2]
    · simp [h]
set_option maxHeartbeats 1000000 in
theorem lineEnd_any (d : List UInt8) (w : World) : Calls Tryz.prog 62 #[.string (str d)] w fun e w' => e = .returned (.int .i64 (len d : Nat)) ∧ w = w' := by
  have hA : ∀ w, Calls Tryz.prog 56 #[.string (str d), .string (ByteArray.mk #[13, 10])] w fun e w' => e = .returned (.bool (preB d [13, 10])) ∧ w = w' := fun w => HasPrefix_any d [13, 10] w
  have hB : ∀ w, Calls Tryz.prog 56 #[.string (str d), .string (ByteArray.mk #[13])] w fun e w' => e = .returned (.bool (preB d [13])) ∧ w = w' := fun w => HasPrefix_any d [13] w
  have hC : ∀ w, Calls Tryz.prog 56 #[.string (str d), .string (ByteArray.mk #[10])] w fun e w' => e = .returned (.bool (preB d [10])) ∧ w = w' := fun w => HasPrefix_any d [10] w
  rw [len_pre]
  generalize preB d [13, 10] = b1 at *
  generalize preB d [13] = b2 at *
  generalize preB d [10] = b3 at *
  have HA := Lib.hid hA
  have HB := Lib.hid hB
  have HC := Lib.hid hC
  clear hA hB hC
  cases b1 <;> cases b2 <;> cases b3
  all_goals
    go_enter Tryz.func62, Tryz.ntmps62
    go_wp2_with (go_at_call 56; (first | (with_reducible refine (HA.out _).mono ?_) | (with_reducible refine (HB.out _).mono ?_) | (with_reducible refine (HC.out _).mono ?_)); rintro e w' ⟨rfl, rfl⟩)
    go_ret
    exact ⟨rfl, rfl⟩
end Go.Proofs.YthcnjiigkmljnaaGreatDoor
/-
  What Next hands back, as a value.
-/
namespace Go.Proofs.YthcnjiigkmljnaaGreatDoor
open Go.RowKit

/-- What Next hands back where what is not skipped begins at p. -/
def nxv (l : List UInt8) (p : Nat) : Value := if p = l.length then .tuple #[tv ⟨0, p, 0, []⟩, .int .i64 (p : Int), .int .i64 0] else rv p (tk (l.drop p))
theorem rv_eq (p : Nat) (r : Rd) : rv p r = .tuple #[.agg #[.int .i64 (rT p r).kind, .int .i64 (rT p r).at_, .int .i64 (rT p r).n, .string (str (rT p r).s)], .int .i64 ((p : Int) + (r.k : Int)), .int .i64 r.e] := by simp [rv, tv]
theorem tk_mk {d : List UInt8} (h : mk d ≠ 0) : tk d = okR (mk d) 0 [] (mkL (mk d)).length := by unfold tk; rw [if_neg h]
theorem tk_0 {x : UInt8} {t : List UInt8} (h : mk (x :: t) = 0) : tk (x :: t) = if x = 41 ∨ x = 62 then noR 0 3 else if x = 47 then okR 2 0 (nameL (t.take (wn t))) (1 + wn t) else if x = 60 then tkHex t else if x = 40 then tkStr t else tkWord (x :: t) := by unfold tk; rw [if_pos h]
theorem b_ne {x : UInt8} (c : UInt8) (h : x ≠ c) : ((x.toNat : Int) == (c.toNat : Int)) = false := by
  rw [beq_eq_false_iff_ne]
  intro e
  exact h (eq_of_toNat (by omega))
end Go.Proofs.YthcnjiigkmljnaaGreatDoor
/-
  hex.UnHex: the bytes of digits, or the place of the first byte that may not be there: of every text of at most a million bytes.
-/
namespace Go.Proofs.YthcnjiigkmljnaaGreatDoor
open Go.RowKit

theorem or_fin : ∀ a d : Fin 16, (16 * a.val) ||| d.val = 16 * a.val + d.val := by decide
theorem or_low (a d : Nat) (ha : a < 16) (hd : d < 16) : bits .or .u8 (16 * (a : Int)) (d : Int) = 16 * (a : Int) + d := by
  have h := u8_or_nat (16 * a) d (by omega) (by omega)
  rw [or_fin ⟨a, ha⟩ ⟨d, hd⟩] at h
  simpa using h
theorem byte_toNat (n : Nat) (h : n < 256) : ((UInt8.ofNat n).toNat : Int) = n := by simp; omega

theorem set_last (p : List UInt8) (x y : UInt8) (z : Int) (h : (y.toNat : Int) = z) : (bvs (p ++ [x])).set p.length (.int .u8 z) = bvs (p ++ [y]) := by
  subst h
  simp only [bvs, List.map_append, List.map_cons, List.map_nil]
  rw [List.set_append_right _ _ (by simp)]
  simp
theorem nibs_white {l : List UInt8} {k : Nat} {x : UInt8} (hk : k < l.length) (hx : x = l[k]?.getD 0) (h : kb x = 1) : nibs (l.take (k + 1)) = nibs (l.take k) := by
  rw [take_snoc l k hk, nibs_append, nibs_one, if_neg (by rw [← hx]; omega), List.append_nil]
theorem nibs_digit {l : List UInt8} {k : Nat} {x : UInt8} (hk : k < l.length) (hx : x = l[k]?.getD 0) (h : 2 ≤ kb x) : nibs (l.take (k + 1)) = nibs (l.take k) ++ [(kb x - 2).toNat] := by
  rw [take_snoc l k hk, nibs_append, nibs_one, if_pos (by rw [← hx]; omega), ← hx]

set_option maxHeartbeats 2000000 in
theorem UnHex_any (l : List UInt8) (w : World) (ht : Tab w) (hl : l.length ≤ 1048576) :
    Calls Tryz.prog 60 #[.string (str l)] w (RetBytes w (unB l) (unN l) (unE l)) := by
  obtain ⟨i0, hi, hz0, hz1, hz2⟩ := info_parts info8
  go_enter Tryz.func60, Tryz.ntmps60
  go_wp2
  go_loopw [5, 6, 7] (fun v h i wr => ∃ k : Nat, k ≤ l.length ∧ i = .int .i64 k ∧ h = .bool (decide ((nibs (l.take k)).length % 2 = 1)) ∧ wr.ownsRow w.heap.size 5 1 v (pack (nibs (l.take k))).length (bvs (pack (nibs (l.take k)))) ∧ Good (l.take k) ∧ Below w.heap.size w wr) (fun _ _ i _ => l.length - (intOf i).toNat)
  case atStart => exact ⟨0, Nat.zero_le _, rfl, by simp [nibs], by simpa [nibs, pack, bvs] using World.ownsRow_nil _ _ _ _, fun b hb => by simp at hb, Below.refl _ _⟩
  case round =>
    obtain ⟨k, hk, rfl, rfl, hown, hgood, hbel⟩ := hrel
    by_cases hlt : k < l.length
    · obtain ⟨x, hx⟩ : ∃ x, x = l[k]?.getD 0 := ⟨_, rfl⟩
      have hgs : ∀ h, (str l)[k]'h = x := fun h => (get_str l k h).trans hx.symm
      have hx1 := x.toNat_lt
      have HX := Lib.hid hx
      have ht' : Tab wr := ht.below' hbel
      have hkb := kb_bounds x
      have hsz := hbel.size
      clear hx
      rcases (show kb x = 1 ∨ kb x = 0 ∨ 2 ≤ kb x by omega) with h1 | h1 | h1
      · have hw : (kz (x.toNat : Int) == 1) = true := by simpa [kb] using h1
        have H1 := Lib.hid h1
        have HG := Lib.hid hgood
        clear h1 hgood
        go_wp2_with (go_at_call 55; refine (White_any _ _ ht').mono ?_; rintro e w' ⟨rfl, rfl⟩)
        go_roundw
        case rel =>
          have e := nibs_white hlt HX.out H1.out
          exact ⟨k + 1, by omega, by go_num, by rw [e], by rw [e]; exact hown, good_snoc hlt HG.out (by rw [← HX.out, H1.out]; decide), hbel⟩
        case measure => simp [intOf]; omega
      · have hw : (kz (x.toNat : Int) == 1) = false := by
          have h1' : kz (x.toNat : Int) = 0 := h1
          rw [h1']; rfl
        have hk0 : kz (x.toNat : Int) < 2 := by
          have h1' : kz (x.toNat : Int) = 0 := h1
          omega
        have hbad := bad_at hlt hgood (by rw [← HX.out]; exact h1)
        have HB := Lib.hid hbad
        have H1 := Lib.hid h1
        have HG := Lib.hid hgood
        clear h1 hgood hbad
        go_wp2_with (first | (go_at_call 55; refine (White_any _ _ ht').mono ?_; rintro e w' ⟨rfl, rfl⟩) | (go_at_call 86; refine (Digit_no _ _ ht' hk0).mono ?_; rintro e w' ⟨rfl, rfl⟩))
        go_ret3
        obtain ⟨e1, e2, e3⟩ := un_bad (l := l) (by rw [HB.out]; exact hlt)
        rw [e1, e2, e3, HB.out]
        exact ⟨none, 0, rfl, Nat.le_refl _, Sl.nil, hbel⟩
      · have hw : (kz (x.toNat : Int) == 1) = false := by
          have h1' : 2 ≤ kz (x.toNat : Int) := h1
          have : kz (x.toNat : Int) ≠ 1 := by omega
          simpa using this
        have hk2 : 2 ≤ kz (x.toNat : Int) := h1
        obtain ⟨d, hd⟩ : ∃ d : Nat, kz (x.toNat : Int) - 2 = (d : Int) := ⟨(kz (x.toNat : Int) - 2).toNat, by omega⟩
        have hd16 : d < 16 := by have := kz_bounds (x.toNat : Int); omega
        have hnd : (kb x - 2).toNat = d := by show (kz (x.toNat : Int) - 2).toNat = d; omega
        have HN := Lib.hid hnd
        have H1 := Lib.hid h1
        have HG := Lib.hid hgood
        have hkl := nibs_length (l.take k)
        have hll : (l.take k).length ≤ k := List.length_take_le _ _
        clear h1 hgood hnd
        by_cases hodd : (nibs (l.take k)).length % 2 = 1
        · obtain ⟨p, a, ha, hp, hpl, hpd⟩ := pack_odd _ hodd
          have ha16 := nibs_lt ha
          have hlen : (pack (nibs (l.take k))).length = p.length + 1 := by rw [hp]; simp
          have hhalf : decide ((nibs (l.take k)).length % 2 = 1) = true := by simpa using hodd
          rw [hlen, hp] at hown
          obtain ⟨g, cap, rfl, hgb, hgl⟩ := hown.form (by omega)
          have hlast : ((UInt8.ofNat (16 * a)).toNat : Int) = 16 * (a : Int) := by rw [byte_toNat _ (by omega)]; omega
          have hcell : wr.cell? ⟨g, p.length, none⟩ = some (.int .u8 (16 * (a : Int))) := by
            rw [hown.cellAt p.length (by omega), bvs_get _ _ (by simp), ← hlast]; simp
          have hfz : wr.frozen? ⟨g, p.length, none⟩ = false := hown.frozenAt p.length
          have hor := or_low a d ha16 hd16
          have hpk : p.length ≤ k := by omega
          have HP := Lib.hid hpd
          have HO := Lib.hid hodd
          have HP2 := Lib.hid hp
          have HP3 := Lib.hid hpl
          have HP4 := Lib.hid hlen
          clear hpd hodd hp hpl hlen hlast
          go_wp2_with (first | (go_at_call 55; refine (White_any _ _ ht').mono ?_; rintro e w' ⟨rfl, rfl⟩) | (go_at_call 86; refine (Digit_yes _ _ ht' hk2).mono ?_; rintro e w' ⟨rfl, rfl⟩))
          go_roundw
          case rel =>
            have e : nibs (l.take (k + 1)) = nibs (l.take k) ++ [d] := by rw [nibs_digit hlt HX.out H1.out, HN.out]
            have e2 : pack (nibs (l.take (k + 1))) = p ++ [UInt8.ofNat (16 * a + d)] := by rw [e, HP.out]
            have e3 : (pack (nibs (l.take (k + 1)))).length = p.length + 1 := by rw [e2]; simp
            have hst := (hown.stored p.length (.int .u8 (16 * (a : Int) + d))).1
            have e4 : (bvs (p ++ [UInt8.ofNat (16 * a)])).set p.length (.int .u8 (16 * (a : Int) + d)) = bvs (p ++ [UInt8.ofNat (16 * a + d)]) := set_last p _ _ _ (by rw [byte_toNat _ (by omega)]; omega)
            refine ⟨k + 1, by omega, by go_num, ?_, ?_, good_snoc hlt HG.out (by rw [← HX.out]; have := H1.out; omega), hbel.setCell hgb _⟩
            · rw [e, List.length_append]
              have := HO.out
              have h2 : ¬ ((nibs (l.take k)).length + [d].length) % 2 = 1 := by simp only [List.length_singleton]; omega
              exact congrArg Value.bool (decide_eq_false h2).symm
            · rw [e3, e2, ← e4]
              exact hst
          case measure => simp [intOf]; omega
        · have hhalf : decide ((nibs (l.take k)).length % 2 = 1) = false := by simpa using hodd
          have hpe := pack_even _ (show (nibs (l.take k)).length % 2 = 0 by omega) [d]
          have hpl := pack_length (nibs (l.take k))
          have HP := Lib.hid hpe
          have HO := Lib.hid hodd
          have hple : (pack (nibs (l.take k))).length ≤ k := by omega
          clear hpe hodd hpl
          go_wp2_with (first | (go_at_call 55; refine (White_any _ _ ht').mono ?_; rintro e w' ⟨rfl, rfl⟩) | (go_at_call 86; refine (Digit_yes _ _ ht' hk2).mono ?_; rintro e w' ⟨rfl, rfl⟩) | (at_builtin; refine wpList_append_lies _ rfl (.tmp 42) (.tmp 46) _ rfl w.heap.size 5 i0 (.int .u8 0) 1 1 Tryz.underlying93 hi hz0 hz1 hz2 rfl (by omega) u5 _ _ rfl (hown.alloc _) ⟨wr.heap.size, 0, none⟩ 1 1 [.int .u8 ((d : Int) * 16)] rfl rfl (World.news_of_block (heap_alloc_new wr _)) (by intro u hu; simp at hu; subst hu; rfl) (by omega) (by unfold maxLen; omega) (by omega) (by simp; omega) _ rfl ?_; intro g cap w1 hown1 hgrow hat hgl))
          go_roundw
          case rel =>
            have e : nibs (l.take (k + 1)) = nibs (l.take k) ++ [d] := by rw [nibs_digit hlt HX.out H1.out, HN.out]
            have e2 : pack (nibs (l.take (k + 1))) = pack (nibs (l.take k)) ++ [UInt8.ofNat (16 * d)] := by rw [e, HP.out]; rfl
            have e3 : (pack (nibs (l.take (k + 1)))).length = (pack (nibs (l.take k))).length + 1 := by rw [e2]; simp
            have e4 : bvs (pack (nibs (l.take (k + 1)))) = bvs (pack (nibs (l.take k))) ++ [.int .u8 ((d : Int) * 16)] := by
              rw [e2, bvs_append]
              have : ((UInt8.ofNat (16 * d)).toNat : Int) = (d : Int) * 16 := by rw [byte_toNat _ (by omega)]; omega
              simp only [bvs, List.map_cons, List.map_nil, this]
            refine ⟨k + 1, by omega, by go_num, ?_, ?_, good_snoc hlt HG.out (by rw [← HX.out]; have := H1.out; omega), (hbel.alloc hsz _).grown hgrow (by simp; omega) (fun q hq => (hown.lt q hq).1)⟩
            · rw [e, List.length_append]
              have := HO.out
              have h2 : ((nibs (l.take k)).length + [d].length) % 2 = 1 := by simp only [List.length_singleton]; omega
              exact congrArg Value.bool (decide_eq_true h2).symm
            · rw [e3, e4]
              exact hown1
          case measure => simp [intOf]; omega
    · have hkl : k = l.length := by omega
      obtain rfl : l.length = k := hkl.symm
      rw [List.take_of_length_le (Nat.le_refl _)] at hown hgood
      obtain ⟨c', _, hc', A', hv, hsl⟩ := Sl.of_own hown
      subst hv
      obtain ⟨e1, e2, e3⟩ := un_good hgood
      have E1 := Lib.hid e1
      have E2 := Lib.hid e2
      have E3 := Lib.hid e3
      have HG := Lib.hid hgood
      clear e1 e2 e3 hgood
      go_wp2
      go_ret3
      rw [E1.out, E2.out, E3.out]
      exact ⟨A', c', rfl, hc', hsl, hbel⟩
theorem UnHex_bad (l : List UInt8) (w : World) (ht : Tab w) (hl : l.length ≤ 1048576) (h : bad l < l.length) : Calls Tryz.prog 60 #[.string (str l)] w (RetBytes w [] (bad l) 1) := by
  obtain ⟨e1, e2, e3⟩ := un_bad h
  have := UnHex_any l w ht hl
  rwa [e1, e2, e3] at this
theorem UnHex_good (l : List UInt8) (w : World) (ht : Tab w) (hl : l.length ≤ 1048576) (h : Good l) : Calls Tryz.prog 60 #[.string (str l)] w (RetBytes w (pack (nibs l)) l.length 0) := by
  obtain ⟨e1, e2, e3⟩ := un_good h
  have := UnHex_any l w ht hl
  rwa [e1, e2, e3] at this
end Go.Proofs.YthcnjiigkmljnaaGreatDoor
/-
  tok.hexAt: a Hex, whose "<" stands at a place; strings.Cut at ">".
-/
namespace Go.Proofs.YthcnjiigkmljnaaGreatDoor
open Go.RowKit
attribute [local go_sem ↓] Go.wp_at_zero Go.wp_at_succ

def gx (t : List UInt8) : Int := if gt t < t.length then (gt t : Int) else -1
theorem gt_le : ∀ t : List UInt8, gt t ≤ t.length
  | [] => Nat.le_refl _
  | b :: t => by have := gt_le t; simp only [gt]; split <;> simp; omega
theorem idx_gt : ∀ t : List UInt8, Lib.indexByte t 62 = gx t
  | [] => rfl
  | b :: t => by
    have ih := idx_gt t
    have hle := gt_le t
    unfold gx at ih ⊢
    by_cases hb : b = 62
    · subst hb
      simp [Lib.indexByte, gt]
    · have hb' : (b == 62) = false := by rw [beq_eq_false_iff_ne]; exact hb
      simp only [Lib.indexByte, hb', gt, if_neg hb, List.length_cons, ih]
      by_cases h : gt t < t.length
      · have h2 : gt t + 1 < t.length + 1 := by omega
        have h3 : ((gt t : Int) == -1) = false := by rw [beq_eq_false_iff_ne]; omega
        simp [h, h2, h3]
      · have h2 : ¬ gt t + 1 < t.length + 1 := by omega
        simp [h, h2]
set_option maxRecDepth 100000 in
set_option maxHeartbeats 2000000 in
theorem Index_gt (t : List UInt8) (w : World) :
    Calls Tryz.prog 107 #[.string (str t), .string (ByteArray.mk #[62])] w fun e w' => e = .returned (.int .i64 (gx t)) ∧ w = w' := by
  have hI : ∀ w, Calls Tryz.prog 108 #[.string (str t), .int .u8 62] w fun e w' => e = .returned (.int .i64 (gx t)) ∧ w' = w := fun w => by
    have := liteIndexByte_any (str t) 62 w
    rw [← idx_gt]
    exact this
  have HI := Lib.hid hI
  clear hI
  obtain ⟨q, hq⟩ : ∃ q : List UInt8, q = [62] := ⟨_, rfl⟩
  have eq : ByteArray.mk #[62] = str q := by rw [hq]; rfl
  have hql : q.length = 1 := by rw [hq]; rfl
  have hqg : ∀ h, (str q)[0]'h = 62 := fun h => (get_str q 0 h).trans (by rw [hq]; rfl)
  rw [eq]
  by_cases hs : t = [62]
  · have e : gx t = 0 := by rw [hs]; rfl
    have t1 : (q == t) = true := by rw [hs, hq]; rfl
    rw [e]
    clear HI e hs hq eq
    go_enter Tryz.func107, Tryz.ntmps107
    go_wp2
    go_ret
    exact ⟨rfl, rfl⟩
  · have t1 : (q == t) = false := by rw [beq_eq_false_iff_ne, hq]; exact fun e => hs e.symm
    clear hs hq eq
    go_enter Tryz.func107, Tryz.ntmps107
    go_wp2_with (go_at_call 108; refine (HI.out _).mono ?_; rintro e w' ⟨rfl, rfl⟩)
    go_ret
    exact ⟨rfl, rfl⟩

theorem run_to {P : Program} (l : List UInt8) (k : Nat) (h : k ≤ l.length) (t : TypeId) (ht : P.underlying t = some .string) (wx : World) : (Instr.slice t (.string (str l)) none (some (.int .i64 (k : Int))) none).run P wx = .ok (.string (str (l.take k))) wx := by
  rw [run_slice_string_to_if wx t (str l) .i64 (k : Int) ht]
  simp [str_size, str_extract, h]
set_option maxRecDepth 100000 in
set_option maxHeartbeats 2000000 in
theorem Cut_gt (t : List UInt8) (w : World) (hl : t.length ≤ 1073741824) :
    Calls Tryz.prog 59 #[.string (str t), .string (ByteArray.mk #[62])] w fun e w' => e = .returned (.tuple #[.string (str (if gt t < t.length then t.take (gt t) else t)), .string (str (if gt t < t.length then t.drop (gt t + 1) else [])), .bool (decide (gt t < t.length))]) ∧ Below w.heap.size w w' := by
  have hC : ∀ w, Calls Tryz.prog 87 #[.string (str t), .string (ByteArray.mk #[62])] w fun e w' => e = .returned (.tuple #[.string (str (if gt t < t.length then t.take (gt t) else t)), .string (str (if gt t < t.length then t.drop (gt t + 1) else [])), .bool (decide (gt t < t.length))]) ∧ Below w.heap.size w w' := by
    intro w
    have hI : ∀ w, Calls Tryz.prog 107 #[.string (str t), .string (ByteArray.mk #[62])] w fun e w' => e = .returned (.int .i64 (gx t)) ∧ w = w' := fun w => Index_gt t w
    by_cases h : gt t < t.length
    · have e : gx t = (gt t : Int) := if_pos h
      rw [e] at hI
      rw [if_pos h, if_pos h, decide_eq_true h]
      have s1 := run_to (P := Tryz.prog) t (gt t) (by omega) 9 Tryz.underlying9
      have s2 := run_from (P := Tryz.prog) t (gt t + 1) (by omega) 9 Tryz.underlying9
      have hcast : ((gt t + 1 : Nat) : Int) = (gt t : Int) + 1 := by omega
      rw [hcast] at s2
      clear e
      generalize gt t = g at *
      generalize t.take g = a at *
      generalize t.drop (g + 1) = b at *
      have HI := Lib.hid hI
      have hwr : IntKind.i64.wrap ((g : Int) + 1) = (g : Int) + 1 := IntWalk.i64_in _ (by omega)
      clear hI hcast
      go_enter Tryz.func87, Tryz.ntmps87
      go_wp2_with (go_at_call 107; refine (HI.out _).mono ?_; rintro e w' ⟨rfl, rfl⟩)
      go_region_held (fun _ => True) (trivial) (fail)
      all_goals
        go_wp2
        go_ret3
        exact ⟨rfl, by first | exact Below.refl _ _ | exact below_drewN (Below.refl _ _) _ | exact (below_drewN (Below.refl _ _) _).drew | exact below_drewN (below_drewN (Below.refl _ _) _) _⟩
    · have e : gx t = -1 := if_neg h
      rw [e] at hI
      rw [if_neg h, if_neg h, decide_eq_false h]
      have HI := Lib.hid hI
      clear hI e
      go_enter Tryz.func87, Tryz.ntmps87
      go_wp2_with (go_at_call 107; refine (HI.out _).mono ?_; rintro e w' ⟨rfl, rfl⟩)
      go_ret3
      exact ⟨rfl, Below.refl _ _⟩
  generalize (if gt t < t.length then t.take (gt t) else t) = a at *
  generalize (if gt t < t.length then t.drop (gt t + 1) else []) = b at *
  generalize decide (gt t < t.length) = c at *
  have HC := Lib.hid hC
  clear hC
  go_enter Tryz.func59, Tryz.ntmps59
  go_wp2_with (go_at_call 87; refine (HC.out _).mono ?_; rintro e w2 ⟨rfl, hb2⟩)
  go_ret3
  exact ⟨rfl, hb2⟩

set_option maxRecDepth 100000 in
set_option maxHeartbeats 2000000 in
theorem hexAt_any (l : List UInt8) (p : Nat) (w : World) (ht : Tab w) (hp : p < l.length) (hl : l.length ≤ 1048576) :
    Calls Tryz.prog 37 #[.string (str l), .int .i64 (p : Int)] w fun e w' => e = .returned (rv p (tkHex (l.drop (p + 1)))) ∧ Below w.heap.size w w' := by
  have hsl := run_from (P := Tryz.prog) l (p + 1) (by omega) 9 Tryz.underlying9
  have hcast : ((p + 1 : Nat) : Int) = (p : Int) + 1 := by omega
  rw [hcast] at hsl
  have hta := ht.below' ((Below.refl _ _).alloc (Nat.le_refl _) tok0)
  unfold tok0 at hta
  have hlen : (l.drop (p + 1)).length = l.length - (p + 1) := List.length_drop
  have hgl := gt_le (l.drop (p + 1))
  have hC : ∀ w, Calls Tryz.prog 59 #[.string (str (l.drop (p + 1))), .string (ByteArray.mk #[62])] w _ := fun w => Cut_gt (l.drop (p + 1)) w (by omega)
  unfold tkHex
  generalize l.drop (p + 1) = d at *
  by_cases hg : gt d < d.length
  · simp only [if_pos hg, decide_eq_true hg] at hC
    rw [if_pos hg]
    have htl : (d.take (gt d)).length = gt d := by simp; omega
    have hU : ∀ w, Tab w → Calls Tryz.prog 60 #[.string (str (d.take (gt d)))] w (RetBytes w (unB (d.take (gt d))) (unN (d.take (gt d))) (unE (d.take (gt d)))) := fun w ht => UnHex_any _ w ht (by omega)
    have hbad := bad_le (d.take (gt d))
    have hun : unN (d.take (gt d)) = (bad (d.take (gt d)) : Int) := rfl
    have hE : unE (d.take (gt d)) = 0 ∨ unE (d.take (gt d)) = 1 := by unfold unE; split <;> simp
    rw [hun] at hU
    generalize d.take (gt d) = a at *
    generalize d.drop (gt d + 1) = b at *
    generalize gt d = g at *
    generalize unB a = ub at *
    generalize bad a = bn at *
    have HC := Lib.hid hC
    clear hC hun
    rcases hE with h0 | h1
    · rw [h0] at hU ⊢
      have e1 : (p : Int) + ((g + 2 : Nat) : Int) = (p : Int) + 2 + (g : Int) := by omega
      rw [if_pos rfl, rv_ok, e1]
      clear e1
      have HU := Lib.hid hU
      clear hU h0
      go_enter Tryz.func37, Tryz.ntmps37
      go_wp2_with (first | (go_at_call 59; refine (HC.out _).mono ?_; rintro e w2 ⟨rfl, hb2⟩; have ht2 := hta.below' hb2) | (go_at_call 60; refine (HU.out _ ht2).mono ?_; rintro e w3 ⟨A, c, rfl, hc, hsl3, hb3⟩; obtain ⟨⟨c0, c1, c2, c3⟩, ⟨z0, z1, z2, z3⟩, hlt, hB⟩ := res_of (hb2.trans (hb3.mono hb2.size)); have hcv := conv8 hsl3 c; clear hb2 hb3 hsl3))
      refine bodyPost_ret (v := _) (by simp [results, Tryz.results37, go_sem, c0, c1, c2, c3]; try rfl) rfl ⟨rfl, below_4 hB (Nat.le_refl _) _ _ _ _⟩
    · rw [h1] at hU ⊢
      have e1 : (p : Int) + ((1 + bn : Nat) : Int) = (p : Int) + 1 + (bn : Int) := by omega
      rw [if_neg (by decide), rv_no _ _ _ (by decide), e1]
      clear e1
      have HU := Lib.hid hU
      clear hU h1
      go_enter Tryz.func37, Tryz.ntmps37
      go_wp2_with (first | (go_at_call 59; refine (HC.out _).mono ?_; rintro e w2 ⟨rfl, hb2⟩; have ht2 := hta.below' hb2) | (go_at_call 60; refine (HU.out _ ht2).mono ?_; rintro e w3 ⟨A, c, rfl, hc, hsl3, hb3⟩; obtain ⟨⟨c0, c1, c2, c3⟩, ⟨z0, z1, z2, z3⟩, hlt, hB⟩ := res_of (hb2.trans (hb3.mono hb2.size)); clear hb2 hb3 hsl3))
      refine bodyPost_ret (v := _) (by simp [results, Tryz.results37, go_sem, c0, c1, c2, c3]; try rfl) rfl ⟨rfl, below_4 hB (Nat.le_refl _) _ _ _ _⟩
  · simp only [if_neg hg, decide_eq_false hg] at hC
    rw [if_neg hg, rv_no _ _ _ (by decide)]
    have hpl : (p : Int) + ((1 + d.length : Nat) : Int) = (l.length : Int) := by omega
    rw [hpl]
    have HC := Lib.hid hC
    clear hC hg hgl hpl hlen
    go_enter Tryz.func37, Tryz.ntmps37
    go_wp2_with (go_at_call 59; refine (HC.out _).mono ?_; rintro e w2 ⟨rfl, hb2⟩; obtain ⟨⟨c0, c1, c2, c3⟩, ⟨z0, z1, z2, z3⟩, hlt, hB⟩ := res_of hb2; clear hb2)
    refine bodyPost_ret (v := _) (by simp [results, Tryz.results37, go_sem, c0, c1, c2, c3]; try rfl) rfl ⟨rfl, below_4 hB (Nat.le_refl _) _ _ _ _⟩
end Go.Proofs.YthcnjiigkmljnaaGreatDoor
/-
  Digits of 0 to 7, as plain lists.
-/
namespace Go.Proofs.YthcnjiigkmljnaaGreatDoor

theorem octF_snoc (l : List UInt8) (b : UInt8) : octF 0 (l ++ [b]) = octF 0 l * 8 + (b.toNat - 48) := by simp [octF]
theorem octF_take {d : List UInt8} {k : Nat} {x : UInt8} (h : k < d.length) (hx : x = d[k]?.getD 0) : octF 0 (d.take (k + 1)) = octF 0 (d.take k) * 8 + (x.toNat - 48) := by rw [take_at h hx, octF_snoc]
/-- From a place on there are as many digits more. -/
theorem on_drop : ∀ (m : Nat) (d : List UInt8) (k : Nat), k < d.length → k < m → (∀ j, j < k → od (d[j]?.getD 0) = true) → (od (d[k]?.getD 0) = false → on m d = k) ∧ (od (d[k]?.getD 0) = true → k + 1 ≤ on m d)
  | 0, d, k, _, h, _ => by omega
  | m + 1, [], k, h, _, _ => by simp at h
  | m + 1, b :: t, 0, _, _, _ => by
    constructor
    · intro h; simp at h; simp [on, h]
    · intro h; simp at h; simp [on, h]
  | m + 1, b :: t, k + 1, h, hm, ha => by
    have hb : od b = true := by simpa using ha 0 (by omega)
    obtain ⟨h1, h2⟩ := on_drop m t k (by simpa using h) (by omega) (fun j hj => by simpa using ha (j + 1) (by omega))
    constructor
    · intro h; simp at h h1; simp [on, hb, h1 h]
    · intro h; simp at h h2; have := h2 h; simp [on, hb]; omega
theorem on_all : ∀ (m : Nat) (d : List UInt8) (k : Nat), k ≤ d.length → k ≤ m → (∀ j, j < k → od (d[j]?.getD 0) = true) → (k = d.length ∨ k = m) → on m d = k
  | 0, d, k, _, h, _, _ => by simp [on]; omega
  | m + 1, [], k, h, _, _, _ => by simp at h; simp [on, h]
  | m + 1, b :: t, 0, _, _, _, h => by simp at h
  | m + 1, b :: t, k + 1, h, hm, ha, he => by
    have hb : od b = true := by simpa using ha 0 (by omega)
    have := on_all m t k (by simpa using h) (by omega) (fun j hj => by simpa using ha (j + 1) (by omega)) (by simp at he; omega)
    simp [on, hb, this]
end Go.Proofs.YthcnjiigkmljnaaGreatDoor
/-
  tok.octal and tok.escaped: what a backslash tells.
-/
namespace Go.Proofs.YthcnjiigkmljnaaGreatDoor
open Go.RowKit

theorem or_oct (v x : Nat) (hv : v < 4096) (hx : x < 8) : bits .or .i64 ((v : Int) * 8) (x : Int) = (v : Int) * 8 + x := by
  have h1 := i64_or_nat (v * 8) x (by omega) (by omega)
  have h2 : (v * 8) ||| x = v * 8 + x := by
    have := Nat.two_pow_add_eq_or_of_lt (i := 3) (b := x) (by omega) v
    rw [show 2 ^ 3 = 8 from rfl, Nat.mul_comm] at this
    exact this.symm
  rw [h2] at h1
  simpa using h1
set_option maxRecDepth 100000 in
set_option maxHeartbeats 2000000 in
theorem octal_any (d : List UInt8) (w : World) (hl : d.length ≤ 1073741824) :
    Calls Tryz.prog 88 #[.string (str d)] w fun e w' => e = .returned (.tuple #[.int .u8 ((octB d).toNat : Int), .int .i64 (octN d : Nat)]) ∧ w = w' := by
  go_enter Tryz.func88, Tryz.ntmps88
  go_wp2
  go_loop [4, 5] (fun v i => ∃ (k V : Nat), k ≤ d.length ∧ k ≤ 3 ∧ V < 8 ^ k ∧ v = .int .i64 V ∧ i = .int .i64 k ∧ Hid (V = octF 0 (d.take k)) ∧ Hid (∀ j, j < k → od (d[j]?.getD 0) = true)) (fun _ i => 8 - (intOf i).toNat)
  case atStart => exact ⟨0, 0, Nat.zero_le _, by omega, by decide, rfl, rfl, Lib.hid (by simp [octF]), fun j hj => by omega⟩
  case round =>
    obtain ⟨k, V, hk, hk3, hV, rfl, rfl, HV, HA⟩ := hrel
    have hV' : V < 512 := Nat.lt_of_lt_of_le hV (by rcases (show k = 0 ∨ k = 1 ∨ k = 2 ∨ k = 3 by omega) with rfl | rfl | rfl | rfl <;> decide)
    by_cases hend : k = d.length ∨ k = 3
    · have hN : octN d = k := on_all 3 d k hk hk3 HA.out hend
      have hB : ((octB d).toNat : Int) = (V : Int) % 256 := by
        unfold octB; rw [hN, ← HV.out]; simp
      have HN := Lib.hid hN
      have HB := Lib.hid hB
      clear hN hB
      by_cases hkl : k = d.length
      · have t1 : decide (k < d.length) = false := by simp; omega
        have t1' : decide ((k : Int) < (d.length : Int)) = false := by simp; omega
        clear hkl hend
        go_wp2
        go_ret2
        rw [HN.out, HB.out]
        exact ⟨rfl, rfl⟩
      · obtain rfl : k = 3 := by omega
        have t1 : decide (3 < d.length) = true := by simp; omega
        have t1' : decide ((3 : Int) < (d.length : Int)) = true := by simp; omega
        go_wp2
        go_ret2
        rw [HN.out, HB.out]
        exact ⟨rfl, rfl⟩
    · have hlt : k < d.length := by omega
      have hlt3 : k < 3 := by omega
      have t1 : decide (k < d.length) = true := by simp; omega
      have t1' : decide ((k : Int) < (d.length : Int)) = true := by simp; omega
      have t2 : decide (k < 3) = true := by simp; omega
      have t2' : decide ((k : Int) < 3) = true := by simp; omega
      obtain ⟨x, hx⟩ : ∃ x, x = d[k]?.getD 0 := ⟨_, rfl⟩
      have hgs : ∀ h, (str d)[k]'h = x := fun h => (get_str d k h).trans hx.symm
      have hx1 := x.toNat_lt
      obtain ⟨hno, hyes⟩ := on_drop 3 d k hlt hlt3 HA.out
      rw [← hx] at hno hyes
      cases ho : od x with
      | false =>
        have hN : octN d = k := hno ho
        have hB : ((octB d).toNat : Int) = (V : Int) % 256 := by
          unfold octB; rw [hN, ← HV.out]; simp
        have HN := Lib.hid hN
        have HB := Lib.hid hB
        clear hN hB
        have hc : decide ((48 : Int) ≤ (x.toNat : Int)) = false ∨ (decide ((48 : Int) ≤ (x.toNat : Int)) = true ∧ decide ((x.toNat : Int) ≤ 55) = false) := by
          simp only [od, Bool.and_eq_false_iff, decide_eq_false_iff_not] at ho
          simp; omega
        clear hno hyes hx ho
        rcases hc with t3 | ⟨t3, t4⟩
        · go_wp2
          go_ret2
          rw [HN.out, HB.out]
          exact ⟨rfl, rfl⟩
        · go_wp2
          go_ret2
          rw [HN.out, HB.out]
          exact ⟨rfl, rfl⟩
      | true =>
        have hc : 48 ≤ x.toNat ∧ x.toNat ≤ 55 := by simpa [od] using ho
        have t3 : decide ((48 : Int) ≤ (x.toNat : Int)) = true := by simp; omega
        have t4 : decide ((x.toNat : Int) ≤ 55) = true := by simp; omega
        have hor := or_oct V (x.toNat - 48) (by omega) (by omega)
        have hc' : ((x.toNat - 48 : Nat) : Int) = (x.toNat : Int) - 48 := by omega
        rw [hc'] at hor
        have hcast : ((V * 8 + (x.toNat - 48) : Nat) : Int) = (V : Int) * 8 + ((x.toNat : Int) - 48) := by omega
        have HX := Lib.hid hx
        have HV2 := Lib.hid ((octF_take hlt hx).symm)
        clear hno hyes hx
        go_wp2
        go_round
        case rel =>
          refine ⟨k + 1, V * 8 + (x.toNat - 48), by omega, by omega, by rw [Nat.pow_succ]; omega, by rw [hcast], by go_num, Lib.hid (by rw [← HV2.out, ← HV.out]), fun j hj => ?_⟩
          by_cases e : j = k
          · rw [e, ← HX.out]; exact ho
          · exact HA.out j (by omega)
        case measure => simp [intOf]; omega

def lets : List UInt8 := [110, 114, 116, 98, 102]
def meant : List UInt8 := [10, 13, 9, 8, 12]
theorem idx_lets (b : UInt8) : (Lib.indexByte lets b = -1 ∧ esc1 b = b) ∨ ∃ i : Nat, i < 5 ∧ Lib.indexByte lets b = (i : Int) ∧ [esc1 b] = (meant.drop i).take 1 := by
  by_cases h1 : b = 110
  · subst h1; right; exact ⟨0, by omega, rfl, rfl⟩
  · by_cases h2 : b = 114
    · subst h2; right; exact ⟨1, by omega, rfl, rfl⟩
    · by_cases h3 : b = 116
      · subst h3; right; exact ⟨2, by omega, rfl, rfl⟩
      · by_cases h4 : b = 98
        · subst h4; right; exact ⟨3, by omega, rfl, rfl⟩
        · by_cases h5 : b = 102
          · subst h5; right; exact ⟨4, by omega, rfl, rfl⟩
          · left
            refine ⟨?_, by simp [esc1, h1, h2, h3, h4, h5]⟩
            have e1 : (110 == b) = false := by rw [beq_eq_false_iff_ne]; exact fun h => h1 h.symm
            have e2 : (114 == b) = false := by rw [beq_eq_false_iff_ne]; exact fun h => h2 h.symm
            have e3 : (116 == b) = false := by rw [beq_eq_false_iff_ne]; exact fun h => h3 h.symm
            have e4 : (98 == b) = false := by rw [beq_eq_false_iff_ne]; exact fun h => h4 h.symm
            have e5 : (102 == b) = false := by rw [beq_eq_false_iff_ne]; exact fun h => h5 h.symm
            simp [lets, Lib.indexByte, e1, e2, e3, e4, e5]

set_option maxRecDepth 100000 in
set_option maxHeartbeats 2000000 in
theorem escaped_tok (d : List UInt8) (w : World) (hl : d.length ≤ 1073741824) :
    Calls Tryz.prog 61 #[.string (str d)] w fun e w' => e = .returned (.tuple #[.string (str (esB d)), .int .i64 (esN d : Nat)]) ∧ Below w.heap.size w w' := by
  cases d with
  | nil =>
    have e1 : esB [] = [] := rfl
    have e2 : esN [] = 0 := rfl
    rw [e1, e2]
    go_enter Tryz.func61, Tryz.ntmps61
    go_wp2
    go_ret2
    exact ⟨rfl, Below.refl _ _⟩
  | cons b t =>
    obtain ⟨x, hx⟩ : ∃ x, x = b :: t := ⟨_, rfl⟩
    have hL : ∀ w, Calls Tryz.prog 62 #[.string (str x)] w fun e w' => e = .returned (.int .i64 (len x : Nat)) ∧ w = w' := fun w => lineEnd_any x w
    have hO : ∀ w, Calls Tryz.prog 88 #[.string (str x)] w fun e w' => e = .returned (.tuple #[.int .u8 ((octB x).toNat : Int), .int .i64 (octN x : Nat)]) ∧ w = w' := fun w => octal_any x w (by rw [hx]; exact hl)
    have hI : ∀ w, Calls Tryz.prog 89 #[.string (ByteArray.mk #[110, 114, 116, 98, 102]), .int .u8 (b.toNat : Int)] w fun e w' => e = .returned (.int .i64 (Lib.indexByte lets b)) ∧ w' = w := fun w => by
      have := IndexByte_any (ByteArray.mk #[110, 114, 116, 98, 102]) (b.toNat : Int) w
      have e : (b.toNat : Int).toNat.toUInt8 = b := by simp
      rw [e] at this
      exact this
    have HL := Lib.hid hL
    have HO := Lib.hid hO
    have HI := Lib.hid hI
    have hg : ∀ h, (str x)[0]'h = b := fun h => (get_str x 0 h).trans (by rw [hx]; rfl)
    have hne : (x == []) = false := by rw [hx]; rfl
    have hne' : x.isEmpty = false := by rw [hx]; rfl
    have hpos : 0 < x.length := by rw [hx]; simp
    have hb1 := b.toNat_lt
    have hs1 : ∀ wx, (Instr.slice 9 (.string (str x)) none (some (.int .i64 1)) none).run Tryz.prog wx = .ok (.string (str [b])) wx := fun wx => by
      rw [run_slice_string_to_if wx 9 (str x) .i64 1 Tryz.underlying9]
      simp [str_size, str_extract, hx]
      intro h
      omega
    rw [← hx]
    have hB : esB x = if len x = 0 then (if octN x = 0 then [esc1 b] else [octB x]) else [] := by rw [hx]; rfl
    have hN : esN x = if len x = 0 then (if octN x = 0 then 1 else octN x) else len x := by rw [hx]; rfl
    have hidx := idx_lets b
    generalize Lib.indexByte lets b = ix at *
    generalize octB x = ob at *
    generalize octN x = on' at *
    generalize len x = le at *
    clear hL hO hI hx
    by_cases h0 : le = 0
    · subst h0
      rw [if_pos rfl] at hB hN
      by_cases h1 : on' = 0
      · subst h1
        rw [if_pos rfl] at hB hN
        rw [hN]
        rcases hidx with ⟨rfl, e⟩ | ⟨i, hi, rfl, e⟩
        · rw [hB, e]
          clear hB hN e
          go_enter Tryz.func61, Tryz.ntmps61
          go_wp2_with (first | (go_at_call 62; refine (HL.out _).mono ?_; rintro e w' ⟨rfl, rfl⟩) | (go_at_call 88; refine (HO.out _).mono ?_; rintro e w' ⟨rfl, rfl⟩) | (go_at_call 89; refine (HI.out _).mono ?_; rintro e w' ⟨rfl, rfl⟩))
          go_ret2
          exact ⟨rfl, Below.refl _ _⟩
        · rw [hB, e]
          have hs2 : ∀ wx, (Instr.slice 9 (.string (ByteArray.mk #[10, 13, 9, 8, 12])) (some (.int .i64 (i : Int))) (some (.int .i64 ((i : Int) + 1))) none).run Tryz.prog wx = .ok (.string (str ((meant.drop i).take 1))) wx := fun wx => by
            have := run_mid (P := Tryz.prog) meant i (i + 1) (by omega) (by show i + 1 ≤ 5; omega) 9 Tryz.underlying9 wx
            rw [Nat.add_sub_cancel_left] at this
            exact this
          clear hB hN e
          generalize (meant.drop i).take 1 = mm at *
          go_enter Tryz.func61, Tryz.ntmps61
          go_wp2_with (first | (go_at_call 62; refine (HL.out _).mono ?_; rintro e w' ⟨rfl, rfl⟩) | (go_at_call 88; refine (HO.out _).mono ?_; rintro e w' ⟨rfl, rfl⟩) | (go_at_call 89; refine (HI.out _).mono ?_; rintro e w' ⟨rfl, rfl⟩))
          go_ret2
          exact ⟨rfl, Below.refl _ _⟩
      · rw [if_neg h1] at hB hN
        rw [hN, hB]
        have t1 : decide (0 < on') = true := by simp; omega
        have t1' : decide ((0 : Int) < (on' : Int)) = true := by simp; omega
        have hcv : (convert 93 9 (.slice (some ⟨w.heap.size, 0, none⟩) 1 1)).run Tryz.prog (w.alloc (.cells #[.int .u8 (ob.toNat : Int)] 5)) = .ok (.string (str [ob])) (w.alloc (.cells #[.int .u8 (ob.toNat : Int)] 5)) := conv8 (Sl.one w ob 5) 1
        have hb4 : Below w.heap.size w (w.alloc (.cells #[.int .u8 (ob.toNat : Int)] 5)) := (Below.refl _ _).alloc (Nat.le_refl _) _
        clear hB hN h1 hidx
        go_enter Tryz.func61, Tryz.ntmps61
        go_wp2_with (first | (go_at_call 62; refine (HL.out _).mono ?_; rintro e w' ⟨rfl, rfl⟩) | (go_at_call 88; refine (HO.out _).mono ?_; rintro e w' ⟨rfl, rfl⟩))
        go_ret2
        exact ⟨rfl, hb4⟩
    · rw [if_neg h0] at hB hN
      rw [hN, hB]
      have t1 : decide (0 < le) = true := by simp; omega
      have t1' : decide ((0 : Int) < (le : Int)) = true := by simp; omega
      clear hB hN h0 hidx
      go_enter Tryz.func61, Tryz.ntmps61
      go_wp2_with (first | (go_at_call 62; refine (HL.out _).mono ?_; rintro e w' ⟨rfl, rfl⟩))
      go_ret2
      exact ⟨rfl, Below.refl _ _⟩
end Go.Proofs.YthcnjiigkmljnaaGreatDoor
/-
  A string's bytes, step by step; a byte more in a row that is owned.
-/
namespace Go.Proofs.YthcnjiigkmljnaaGreatDoor
open Go.RowKit

theorem own_one {w : World} {base n : Nat} {e : TypeId} {v : Value} {out : List UInt8} (x : UInt8) (h : w.ownsRow base e 1 v n (bvs out ++ bvs [x])) (hn : n = out.length + 1) : w.ownsRow base e 1 v (out ++ [x]).length (bvs (out ++ [x])) := own_byte h hn
theorem Sr.add_add (a b : List UInt8) (n m : Nat) (r : Sr) : Sr.add a n (Sr.add b m r) = Sr.add (a ++ b) (n + m) r := by simp [Sr.add, Nat.add_assoc]
theorem sr_step {R : Sr} {l out o : List UInt8} {p k n deep deep' : Nat} (h : R = Sr.add out (k - (p + 1)) (strT deep (l.drop k))) (hs : stp deep (l.drop k) = .go o n deep') (hk : p + 1 ≤ k) : R = Sr.add (out ++ o) (k + n - (p + 1)) (strT deep' (l.drop (k + n))) := by
  rw [h, strT_go hs, Sr.add_add, List.drop_drop]
  congr 1
  omega
end Go.Proofs.YthcnjiigkmljnaaGreatDoor
/-
  lex.Word: regular bytes in a row from a place on.
-/
namespace Go.Proofs.YthcnjiigkmljnaaGreatDoor
open Go.RowKit

/-- The word from a place on, and the place behind it. -/
def wdL (l : List UInt8) (a : Int) : List UInt8 := (l.drop (pl l.length a)).take (wn (l.drop (pl l.length a)))
def wdN (l : List UInt8) (a : Int) : Nat := pl l.length a + wn (l.drop (pl l.length a))
theorem wdN_le (l : List UInt8) (a : Int) : wdN l a ≤ l.length := by
  have h1 := wn_le (l.drop (pl l.length a))
  have h2 := pl_le l.length a
  rw [List.length_drop] at h1
  unfold wdN; omega

set_option maxHeartbeats 1000000 in
theorem Word_any (l : List UInt8) (a : Int) (w : World) (ht : Tab w) (hl : l.length ≤ 4294967296) :
    Calls Tryz.prog 35 #[.string (str l), .int .i64 a] w fun e w' => e = .returned (.tuple #[.string (str (wdL l a)), .int .i64 (wdN l a : Nat)]) ∧ w = w' := by
  have hp := pl_le l.length a
  have hW : ∀ w, Calls Tryz.prog 53 #[.string (str l), .int .i64 a] w fun e w' => e = .returned (.int .i64 (pl l.length a : Nat)) ∧ w = w' := fun w => within_any l a w
  have hn : wdN l a = pl l.length a + wn (l.drop (pl l.length a)) := rfl
  have hd : wdL l a = (l.drop (pl l.length a)).take (wdN l a - pl l.length a) := by rw [hn]; unfold wdL; congr 1; omega
  have hN := wdN_le l a
  generalize wdN l a = N at *
  generalize wdL l a = D at *
  generalize pl l.length a = p at *
  have HW := Lib.hid hW
  have HD := Lib.hid hd
  have HN := Lib.hid hn
  have hpN : p ≤ N := by omega
  clear hW hd hn
  go_enter Tryz.func35, Tryz.ntmps35
  go_wp2_with (go_at_call 53; refine (HW.out _).mono ?_; rintro e w' ⟨rfl, rfl⟩)
  go_loop [6] (fun i => ∃ k : Nat, p ≤ k ∧ k ≤ l.length ∧ i = .int .i64 k ∧ Hid (k + wn (l.drop k) = N)) (fun i => l.length - (intOf i).toNat)
  case atStart => exact ⟨p, Nat.le_refl _, hp, rfl, HN.out.symm⟩
  case round =>
    obtain ⟨k, hpk, hk, rfl, HE⟩ := hrel
    by_cases hlt : k < l.length
    · obtain ⟨x, hx⟩ : ∃ x, x = l[k]?.getD 0 := ⟨_, rfl⟩
      have hgs : ∀ h, (str l)[k]'h = x := fun h => (get_str l k h).trans hx.symm
      have hx1 := x.toNat_lt
      have hC : ∀ w, Tab w → Calls Tryz.prog 57 #[.int .i64 (x.toNat : Int)] w fun e w' => e = .returned (.int .i64 (cb x)) ∧ w = w' := fun w ht => Class_any _ w ht
      have HC := Lib.hid hC
      have hdr := drop_at hlt hx
      cases hr : rg x with
      | true =>
        have hr' : (cb x == 0) = true := hr
        have hst : (k + 1) + wn (l.drop (k + 1)) = N := by have := HE.out; rw [hdr, wn_y _ hr] at this; omega
        have HS := Lib.hid hst
        clear hx hC hdr hst hr
        generalize cb x = cx at *
        go_wp2_with (go_at_call 57; refine (HC.out _ ht).mono ?_; rintro e w' ⟨rfl, rfl⟩)
        go_round
        case rel => exact ⟨k + 1, by omega, by omega, by go_num, HS⟩
        case measure => simp [intOf]; omega
      | false =>
        have hr' : (cb x == 0) = false := hr
        have hkN : k = N := by have := HE.out; rw [hdr, wn_n _ hr] at this; omega
        subst hkN
        have hsl := run_mid (P := Tryz.prog) l p k hpk hk 9 Tryz.underlying9
        rw [← HD.out] at hsl
        clear hx hC hdr hr
        generalize cb x = cx at *
        go_wp2_with (go_at_call 57; refine (HC.out _ ht).mono ?_; rintro e w' ⟨rfl, rfl⟩)
        go_ret2
        exact ⟨rfl, rfl⟩
    · have hkN : k = N := by have := HE.out; rw [List.drop_eq_nil_of_le (by omega), wn] at this; omega
      subst hkN
      have hsl := run_mid (P := Tryz.prog) l p k hpk hk 9 Tryz.underlying9
      rw [← HD.out] at hsl
      go_wp2
      go_ret2
      exact ⟨rfl, rfl⟩
end Go.Proofs.YthcnjiigkmljnaaGreatDoor
/-
  strings.CutPrefix and TrimPrefix: a text without what it begins with.
-/
namespace Go.Proofs.YthcnjiigkmljnaaGreatDoor
open Go.RowKit

def cutL (l p : List UInt8) : List UInt8 := if preB l p then l.drop p.length else l
theorem pre_le {l p : List UInt8} (h : preB l p = true) : p.length ≤ l.length := by simp [preB] at h; exact h.1
set_option maxHeartbeats 1000000 in
theorem liteCut_any (l p : List UInt8) (w : World) : Calls Tryz.prog 121 #[.string (str l), .string (str p)] w fun e w' => e = .returned (.tuple #[.string (str (cutL l p)), .bool (preB l p)]) ∧ w = w' := by
  have hp := liteHasPrefix_any l p w
  cases hb : preB l p with
  | true =>
    have e : cutL l p = l.drop p.length := by simp [cutL, hb]
    have hs := run_from (P := Tryz.prog) l p.length (pre_le hb) 9 Tryz.underlying9
    rw [hb] at hp
    rw [e]
    generalize l.drop p.length = d at *
    clear e
    go_enter Tryz.func121, Tryz.ntmps121
    go_wp2_with (go_at_call 85; refine hp.mono ?_; rintro e w' ⟨rfl, rfl⟩)
    go_ret2
    exact ⟨rfl, rfl⟩
  | false =>
    have e : cutL l p = l := by simp [cutL, hb]
    rw [hb] at hp
    rw [e]
    clear e
    go_enter Tryz.func121, Tryz.ntmps121
    go_wp2_with (go_at_call 85; refine hp.mono ?_; rintro e w' ⟨rfl, rfl⟩)
    go_ret2
    exact ⟨rfl, rfl⟩
set_option maxHeartbeats 1000000 in
theorem liteTrim_any (l p : List UInt8) (w : World) : Calls Tryz.prog 122 #[.string (str l), .string (str p)] w fun e w' => e = .returned (.string (str (cutL l p))) ∧ w = w' := by
  have hp := liteHasPrefix_any l p w
  cases hb : preB l p with
  | true =>
    have e : cutL l p = l.drop p.length := by simp [cutL, hb]
    have hs := run_from (P := Tryz.prog) l p.length (pre_le hb) 9 Tryz.underlying9
    rw [hb] at hp
    rw [e]
    generalize l.drop p.length = d at *
    clear e
    go_enter Tryz.func122, Tryz.ntmps122
    go_wp2_with (go_at_call 85; refine hp.mono ?_; rintro e w' ⟨rfl, rfl⟩)
    go_ret
    exact ⟨rfl, rfl⟩
  | false =>
    have e : cutL l p = l := by simp [cutL, hb]
    rw [hb] at hp
    rw [e]
    clear e
    go_enter Tryz.func122, Tryz.ntmps122
    go_wp2_with (go_at_call 85; refine hp.mono ?_; rintro e w' ⟨rfl, rfl⟩)
    go_ret
    exact ⟨rfl, rfl⟩
set_option maxHeartbeats 1000000 in
theorem CutPrefix_any (l p : List UInt8) (w : World) : Calls Tryz.prog 109 #[.string (str l), .string (str p)] w fun e w' => e = .returned (.tuple #[.string (str (cutL l p)), .bool (preB l p)]) ∧ w = w' := by
  go_enter Tryz.func109, Tryz.ntmps109
  go_wp2_with (go_at_call 121; refine (liteCut_any l p _).mono ?_; rintro e w' ⟨rfl, rfl⟩)
  go_ret2
  exact ⟨rfl, rfl⟩
set_option maxHeartbeats 1000000 in
theorem TrimPrefix_any (l p : List UInt8) (w : World) : Calls Tryz.prog 110 #[.string (str l), .string (str p)] w fun e w' => e = .returned (.string (str (cutL l p))) ∧ w = w' := by
  go_enter Tryz.func110, Tryz.ntmps110
  go_wp2_with (go_at_call 122; refine (liteTrim_any l p _).mono ?_; rintro e w' ⟨rfl, rfl⟩)
  go_ret
  exact ⟨rfl, rfl⟩
end Go.Proofs.YthcnjiigkmljnaaGreatDoor
