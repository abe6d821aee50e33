/-
  lex.escaped and lex.Name: a written name, as bytes.
-/
import Derived.Test.YtjlecollphgmcaaDoorLexClass
import Derived.Test.YtjlecollphgmcaaDoorBits
import Derived.Test.YtjlecollphgmcaaDoorStrGet
import Derived.Deep.AppendLies
namespace Go.Proofs.YtjlecollphgmcaaDoor
open Go.RowKit

def ev (d : List UInt8) : Int := match esc d with
  | some y => (y.toNat : Int)
  | none => 0
def eb (d : List UInt8) : Bool := (esc d).isSome
theorem ev_some {d : List UInt8} {y : UInt8} (h : esc d = some y) : ev d = (y.toNat : Int) ∧ eb d = true := by simp [ev, eb, h]
theorem ev_none {d : List UInt8} (h : esc d = none) : ev d = 0 ∧ eb d = false := by simp [ev, eb, h]
theorem esc_short {d : List UInt8} (h : d.length < 3) : esc d = none := by
  match d, h with
  | [], _ => rfl
  | [a], _ => rfl
  | [a, b], _ => rfl
  | a :: b :: c :: r, h => simp at h; omega
theorem ne35 {x : UInt8} : ((x.toNat : Int) == 35) = false ↔ x ≠ 35 := by
  rw [beq_eq_false_iff_ne]
  constructor
  · rintro h rfl; exact h rfl
  · intro h e; exact h (eq_of_toNat (by show x.toNat = 35; omega))

set_option maxHeartbeats 2000000 in
theorem escaped_any (d : List UInt8) (w : World) (ht : Tab w) (hl : d.length ≤ 4294967296) :
    Calls Tryd.prog 35 #[.string (str d)] w fun e w' => e = .returned (.tuple #[.int .u8 (ev d), .bool (eb d)]) ∧ w = w' := by
  by_cases h3 : d.length < 3
  · have e := ev_none (esc_short h3)
    rw [e.1, e.2]
    have t1 : decide ((d.length : Int) < 3) = true := by simp; omega
    clear e
    go_enter Tryd.func35, Tryd.ntmps35
    go_wp2
    go_ret2
    exact ⟨rfl, rfl⟩
  · have t1 : decide ((d.length : Int) < 3) = false := by simp; omega
    obtain ⟨c, a, b, r, hd⟩ : ∃ c a b r, d = c :: a :: b :: r := by
      match d, h3 with
      | [], h => simp at h
      | [a], h => simp at h
      | [a, b], h => simp at h
      | c :: a :: b :: r, _ => exact ⟨c, a, b, r, rfl⟩
    have g0 : ∀ h, (str d)[0]'h = c := fun h => by rw [get_str, hd]; rfl
    have g1 : ∀ h, (str d)[1]'h = a := fun h => by rw [get_str, hd]; rfl
    have g2 : ∀ h, (str d)[2]'h = b := fun h => by rw [get_str, hd]; rfl
    have i0 : (0 : Int) < (d.length : Int) := by omega
    have i1 : (1 : Int) < (d.length : Int) := by omega
    have i2 : (2 : Int) < (d.length : Int) := by omega
    have c1 := c.toNat_lt
    have a1 := a.toNat_lt
    have b1 := b.toNat_lt
    have he : esc d = if c = 35 ∧ 2 ≤ kb a ∧ 2 ≤ kb b then some (UInt8.ofNat (16 * (kb a - 2).toNat + (kb b - 2).toNat)) else none := by rw [hd, esc_3]
    clear hd
    by_cases hc : c = 35
    · have t2 : ((c.toNat : Int) != 35) = false := by rw [hc]; rfl
      by_cases ha : 2 ≤ kz (a.toNat : Int)
      · by_cases hb : 2 ≤ kz (b.toNat : Int)
        · obtain ⟨x, hx⟩ : ∃ x : Nat, kz (a.toNat : Int) - 2 = (x : Int) := ⟨(kz (a.toNat : Int) - 2).toNat, by omega⟩
          obtain ⟨y, hy⟩ : ∃ y : Nat, kz (b.toNat : Int) - 2 = (y : Int) := ⟨(kz (b.toNat : Int) - 2).toNat, by omega⟩
          have hx16 : x < 16 := by have := kz_bounds (a.toNat : Int); omega
          have hy16 : y < 16 := by have := kz_bounds (b.toNat : Int); omega
          have e := ev_some (he.trans (if_pos ⟨hc, ha, hb⟩))
          have hv : (16 * (kb a - 2).toNat + (kb b - 2).toNat) = 16 * x + y := by
            have e1 : kb a - 2 = (x : Int) := hx
            have e2 : kb b - 2 = (y : Int) := hy
            rw [e1, e2]; omega
          rw [e.1, e.2, hv]
          obtain ⟨z, hz'⟩ : ∃ z : Nat, z = 16 * x + y := ⟨_, rfl⟩
          have hz1 : z < 256 := by omega
          have ho : bits .or .i64 ((x : Int) * 16) (y : Int) = (z : Int) := by rw [Int.mul_comm, or_nib x y hx16 hy16]; omega
          have hz : ((UInt8.ofNat (16 * x + y)).toNat : Int) = (z : Int) := by rw [UInt8.toNat_ofNat_of_lt' (by show _ < 256; omega)]; omega
          rw [hz]
          clear hz'
          have hA : ∀ w, Tab w → Calls Tryd.prog 51 #[.int .i64 (a.toNat : Int)] w fun e w' => e = .returned (.tuple #[.int .i64 (x : Int), .bool true]) ∧ w = w' := fun w ht => by rw [← hx]; exact Digit_yes _ w ht ha
          have hB : ∀ w, Tab w → Calls Tryd.prog 51 #[.int .i64 (b.toNat : Int)] w fun e w' => e = .returned (.tuple #[.int .i64 (y : Int), .bool true]) ∧ w = w' := fun w ht => by rw [← hy]; exact Digit_yes _ w ht hb
          have HA := Lib.hid hA
          have HB := Lib.hid hB
          clear e hv hz hA hB he hc ha hb hx hy
          go_enter Tryd.func35, Tryd.ntmps35
          go_wp2_with fail
          refine (HA.out _ ht).mono ?_
          rintro e w' ⟨rfl, rfl⟩
          go_wp2_with fail
          refine (HB.out _ ht).mono ?_
          rintro e w' ⟨rfl, rfl⟩
          go_wp2
          go_ret2
          exact ⟨rfl, rfl⟩
        · have e := ev_none (he.trans (if_neg fun h => hb h.2.2))
          rw [e.1, e.2]
          clear e he hc
          go_enter Tryd.func35, Tryd.ntmps35
          go_wp2_with fail
          refine (Digit_yes _ _ ht ha).mono ?_
          rintro e w' ⟨rfl, rfl⟩
          go_wp2_with fail
          refine (Digit_no _ _ ht (by omega)).mono ?_
          rintro e w' ⟨rfl, rfl⟩
          go_wp2
          go_ret2
          exact ⟨rfl, rfl⟩
      · have e := ev_none (he.trans (if_neg fun h => ha h.2.1))
        rw [e.1, e.2]
        clear e he hc
        go_enter Tryd.func35, Tryd.ntmps35
        go_wp2_with fail
        refine (Digit_no _ _ ht (by omega)).mono ?_
        rintro e w' ⟨rfl, rfl⟩
        go_wp2
        go_ret2
        exact ⟨rfl, rfl⟩
    · have t2 : ((c.toNat : Int) != 35) = true := by unfold bne; rw [ne35.2 hc]; rfl
      have e := ev_none (he.trans (if_neg fun h => hc h.1))
      rw [e.1, e.2]
      clear e he hc
      go_enter Tryd.func35, Tryd.ntmps35
      go_wp2
      go_ret2
      exact ⟨rfl, rfl⟩

theorem name_yes {l out : List UInt8} {k : Nat} {y : UInt8} (hlt : k < l.length) (he : esc (l.drop k) = some y) (h : out ++ nameL (l.drop k) = nameL l) : k + 3 ≤ l.length ∧ (out ++ [y]) ++ nameL (l.drop (k + 3)) = nameL l := by
  have hdr := drop_at hlt (rfl : l[k]?.getD 0 = l[k]?.getD 0)
  rw [hdr] at he h
  have hle := (esc_len he).1
  rw [List.length_drop] at hle
  rw [nameL_some he, List.drop_drop] at h
  refine ⟨by omega, ?_⟩
  rw [List.append_assoc]
  exact h
theorem name_no {l out : List UInt8} {k : Nat} {x : UInt8} (hlt : k < l.length) (hx : x = l[k]?.getD 0) (he : esc (l.drop k) = none) (h : out ++ nameL (l.drop k) = nameL l) : (out ++ [x]) ++ nameL (l.drop (k + 1)) = nameL l := by
  rw [drop_at hlt hx] at he h
  rw [nameL_none he] at h
  rw [List.append_assoc]
  exact h
theorem own_byte {w : World} {base n : Nat} {e : TypeId} {v : Value} {out : List UInt8} {x : UInt8} (h : w.ownsRow base e 1 v n (bvs out ++ bvs [x])) (hn : n = out.length + 1) : w.ownsRow base e 1 v (out ++ [x]).length (bvs (out ++ [x])) := by
  rw [bvs_append, List.length_append]; subst hn; exact h

set_option maxHeartbeats 2000000 in
theorem Name_any (l : List UInt8) (w : World) (ht : Tab w) (hl : l.length ≤ 65536) :
    Calls Tryd.prog 20 #[.string (str l)] w fun e w' => e = .returned (.string (str (nameL l))) ∧ Below w.heap.size w w' := by
  obtain ⟨i0, hi, hz0, hz1, hz2⟩ := info_parts info8
  go_enter Tryd.func20, Tryd.ntmps20
  go_wp2_with (at_make; refine wpList_make_own _ rfl _ _ _ rfl w.heap.size 5 i0 (.int .u8 0) 1 Tryd.underlying35 hi hz0 hz1 .i64 .i64 _ l.length rfl rfl (by omega) (by rw [hz2]; omega) (by unfold maxLen; omega) (Nat.le_refl _) ?_; intro w1 hown1 hgrow1)
  have hb1 : Below w.heap.size w w1 := (Below.refl _ _).grown hgrow1 (Nat.le_refl _) (by simp)
  clear hgrow1
  generalize (Value.slice (some ⟨w.heap.size, 0, none⟩) 0 l.length) = v1 at *
  go_loopw [3, 4] (fun v i wr => ∃ (k : Nat) (out : List UInt8), k ≤ l.length ∧ out.length ≤ k ∧ i = .int .i64 k ∧ Hid (out ++ nameL (l.drop k) = nameL l) ∧ wr.ownsRow w.heap.size 5 1 v out.length (bvs out) ∧ Below w.heap.size w wr) (fun _ i _ => l.length - (intOf i).toNat)
  case atStart => exact ⟨0, [], Nat.zero_le _, Nat.zero_le _, rfl, Lib.hid (by simp), by simpa [bvs] using hown1, hb1⟩
  case round =>
    obtain ⟨k, out, hk, hout, rfl, HE, hown, hbel⟩ := hrel
    have htr := ht.below' hbel
    have hsz := hbel.size
    by_cases hlt : k < l.length
    · obtain ⟨x, hx⟩ : ∃ x, x = l[k]?.getD 0 := ⟨_, rfl⟩
      have hgs : ∀ h, (str l)[k]'h = x := fun h => (get_str l k h).trans hx.symm
      have hx1 := x.toNat_lt
      have hsl := run_from (P := Tryd.prog) l k hk 9 Tryd.underlying9
      have hC : ∀ w, Tab w → Calls Tryd.prog 35 #[.string (str (l.drop k))] w fun e w' => e = .returned (.tuple #[.int .u8 (ev (l.drop k)), .bool (eb (l.drop k))]) ∧ w = w' := fun w ht => escaped_any _ w ht (by rw [List.length_drop]; omega)
      cases he : esc (l.drop k) with
      | some y =>
        have e := ev_some he
        rw [e.1, e.2] at hC
        have hst := name_yes hlt he HE.out
        have hk3 := hst.1
        have HS := Lib.hid hst.2
        have HC := Lib.hid hC
        have hy1 := y.toNat_lt
        clear hx hC e hst he hgs
        generalize l.drop k = d at *
        go_wp2_with (first | (go_at_call 35; refine (HC.out _ htr).mono ?_; rintro e w' ⟨rfl, rfl⟩) | (at_builtin; refine wpList_append_lies _ rfl _ _ _ rfl w.heap.size 5 i0 (.int .u8 0) 1 1 Tryd.underlying35 hi hz0 hz1 hz2 rfl (by omega) u3 _ _ rfl (hown.alloc _) ⟨wr.heap.size, 0, none⟩ 1 1 (bvs [y]) rfl rfl (World.news_of_block (heap_alloc_new wr _)) (bvs_one _) (by omega) (by unfold maxLen; omega) (by omega) (by simp; omega) _ rfl ?_; intro g cap w3 hown3 hgrow hat hgl))
        go_roundw
        case rel => exact ⟨k + 3, out ++ [y], by omega, by simp; omega, by go_num, HS, own_byte hown3 rfl, (hbel.alloc hsz _).grown hgrow (by simp; omega) (fun q hq => (hown.lt q hq).1)⟩
        case measure => simp [intOf]; omega
      | none =>
        have e := ev_none he
        rw [e.1, e.2] at hC
        have hst := name_no hlt hx he HE.out
        have HS := Lib.hid hst
        have HC := Lib.hid hC
        clear hx hC e hst he
        generalize l.drop k = d at *
        go_wp2_with (first | (go_at_call 35; refine (HC.out _ htr).mono ?_; rintro e w' ⟨rfl, rfl⟩) | (at_builtin; refine wpList_append_lies _ rfl _ _ _ rfl w.heap.size 5 i0 (.int .u8 0) 1 1 Tryd.underlying35 hi hz0 hz1 hz2 rfl (by omega) u3 _ _ rfl (hown.alloc _) ⟨wr.heap.size, 0, none⟩ 1 1 (bvs [x]) rfl rfl (World.news_of_block (heap_alloc_new wr _)) (bvs_one _) (by omega) (by unfold maxLen; omega) (by omega) (by simp; omega) _ rfl ?_; intro g cap w3 hown3 hgrow hat hgl))
        go_roundw
        case rel => exact ⟨k + 1, out ++ [x], by omega, by simp; omega, by go_num, HS, own_byte hown3 rfl, (hbel.alloc hsz _).grown hgrow (by simp; omega) (fun q hq => (hown.lt q hq).1)⟩
        case measure => simp [intOf]; omega
    · have he : out = nameL l := by
        have := HE.out
        rw [List.drop_eq_nil_of_le (by omega), nameL_nil] at this
        simpa using this
      subst he
      obtain ⟨c', _, hc', A', hv, hsl⟩ := Sl.of_own hown
      subst hv
      have hconv := conv8 hsl c'
      go_wp2
      go_ret
      exact ⟨rfl, hbel⟩

theorem esc_at {l : List UInt8} {k : Nat} (h : k + 2 < l.length) {c a b : UInt8} (hc : c = l[k]?.getD 0) (ha : a = l[k + 1]?.getD 0) (hb : b = l[k + 2]?.getD 0) : esc (l.drop k) = if c = 35 ∧ 2 ≤ kb a ∧ 2 ≤ kb b then some (UInt8.ofNat (16 * (kb a - 2).toNat + (kb b - 2).toNat)) else none := by
  rw [drop_at (by omega) hc, drop_at (show k + 1 < l.length by omega) ha, drop_at (show k + 1 + 1 < l.length by omega) hb, esc_3]
end Go.Proofs.YtjlecollphgmcaaDoor
