/-
  strings.IndexRune at the text of the two bytes that end a line: where a value of UTF-8 stands in it.
-/
import Derived.Test.YtjlecollphgmcaaDoorProg
import Derived.Test.YtjlecollphgmcaaDoorDec
import Derived.Lib.Bytealg
import Derived.Laws.Runes
import Derived.BigQuiet
import Derived.WalkMore
import Derived.Deep.QuietTactic
import Derived.Deep.RegionHeld
import Derived.Deep.DrawnRows
namespace Go.Proofs.YtjlecollphgmcaaDoor
open Go.RowKit
attribute [local go_sem ↓] Go.wp_at_zero Go.wp_at_succ

set_option maxHeartbeats 1000000 in
theorem liteIndexByte_any (s : ByteArray) (c : Int) (w : World) :
    Calls Tryd.prog 63 #[.string s, .int .u8 c] w fun e w' => e = .returned (.int .i64 (Lib.indexByte s.data.toList c.toNat.toUInt8)) ∧ w' = w := by
  go_enter Tryd.func63, Tryd.ntmps63
  go_wp2
  rw [run_callFunc_extern Tryd.func71 (by kernel_rfl) (by kernel_rfl) (by kernel_rfl) (e := Extern.BytealgIndexByte.indexByte) (by kernel_rfl), Lib.run_indexByteString]
  simp only [Result.andThen]
  rw [Oper.upon_value]
  go_wp2
  go_ret
  exact ⟨rfl, rfl⟩
set_option maxHeartbeats 1000000 in
theorem IndexByte_any (s : ByteArray) (c : Int) (w : World) :
    Calls Tryd.prog 54 #[.string s, .int .u8 c] w fun e w' => e = .returned (.int .i64 (Lib.indexByte s.data.toList c.toNat.toUInt8)) ∧ w' = w := by
  go_enter Tryd.func54, Tryd.ntmps54
  go_wp2_with (go_at_call 63; refine (liteIndexByte_any _ _ _).mono ?_; rintro e w' ⟨rfl, rfl⟩)
  go_ret
  exact ⟨rfl, rfl⟩
set_option maxHeartbeats 1000000 in
theorem ValidRune_yes (r : Int) (w : World) (h : (0 ≤ r ∧ r < 55296) ∨ (57343 < r ∧ r ≤ 1114111)) :
    Calls Tryd.prog 59 #[.int .i32 r] w fun e w' => e = .returned (.bool true) ∧ w' = w := by
  rcases h with ⟨h0, h1⟩ | ⟨h0, h1⟩
  · go_enter Tryd.func59, Tryd.ntmps59
    go_wp2
    go_ret
    exact ⟨rfl, rfl⟩
  · have h2 : ¬ r < 55296 := by omega
    have h3 : (0 : Int) ≤ r := by omega
    go_enter Tryd.func59, Tryd.ntmps59
    go_wp2
    go_ret
    exact ⟨rfl, rfl⟩

/-- Where a value stands in the text of 10 and 13. -/
def ri (r : Int) : Int := if r = 10 then 0 else if r = 13 then 1 else -1
theorem ri_byte (r : Int) (h0 : 0 ≤ r) (h1 : r < 128) : Lib.indexByte [10, 13] r.toNat.toUInt8 = ri r := by
  obtain ⟨n, rfl⟩ := Int.eq_ofNat_of_zero_le h0
  have hn : n < 128 := by omega
  have key : ∀ n : Fin 128, Lib.indexByte [10, 13] ((n.val : Int).toNat.toUInt8) = ri (n.val : Int) := by decide
  exact key ⟨n, hn⟩

set_option maxRecDepth 100000 in
set_option maxHeartbeats 1000000 in
theorem IndexRune_low (r : Int) (w : World) (h0 : 0 ≤ r) (h1 : r < 128) :
    Calls Tryd.prog 46 #[.string (str [10, 13]), .int .i32 r] w fun e w' => e = .returned (.int .i64 (ri r)) ∧ w' = w := by
  have hB : ∀ w, Calls Tryd.prog 54 #[.string (str [10, 13]), .int .u8 r] w fun e w' => e = .returned (.int .i64 (ri r)) ∧ w' = w := fun w => by
    rw [← ri_byte r h0 h1]; exact IndexByte_any (str [10, 13]) r w
  have HB := Lib.hid hB
  clear hB
  go_enter Tryd.func46, Tryd.ntmps46
  go_wp2_with (go_at_call 54; refine (HB.out _).mono ?_; rintro e w' ⟨rfl, rfl⟩)
  go_ret
  exact ⟨rfl, rfl⟩

theorem dec_nl : dec ([10, 13].drop 0) = (10, 1) ∧ dec ([10, 13].drop 1) = (13, 1) := by decide
set_option maxRecDepth 100000 in
set_option maxHeartbeats 1000000 in
theorem IndexRune_err (w : World) :
    Calls Tryd.prog 46 #[.string (str [10, 13]), .int .i32 65533] w fun e w' => e = .returned (.int .i64 (-1)) ∧ Below w.heap.size w w' := by
  obtain ⟨l, hl⟩ : ∃ l : List UInt8, l = [10, 13] := ⟨_, rfl⟩
  rw [← hl]
  have h2 : l.length = 2 := by rw [hl]; rfl
  have HL := Lib.hid hl
  clear hl
  go_enter Tryd.func46, Tryd.ntmps46
  go_wp2
  have hit1 := World.iter_heap w (str l) 0
  have hb1' : Below w.heap.size w (w.iter (str l) 0) := (Below.refl _ _).alloc (Nat.le_refl _) _
  generalize w.iter (str l) 0 = w2 at *
  go_loopw [5, 6] (fun _ _ wr => ∃ k : Nat, k ≤ 2 ∧ Hid (wr.heap[w.heap.size]? = some (.stringIter (str l) k)) ∧ Below w.heap.size w wr) (fun _ _ wr => 2 - wr.iterPos w.heap.size)
  case atStart => exact ⟨0, Nat.zero_le _, hit1, hb1'⟩
  case round =>
    obtain ⟨k, hk, HI, hbel⟩ := hrel
    by_cases hlt : k < 2
    · obtain ⟨R, hR, hd⟩ : ∃ R, R ≤ 13 ∧ dec (l.drop k) = (R, 1) := by
        rw [HL.out]
        rcases (show k = 0 ∨ k = 1 by omega) with rfl | rfl
        · exact ⟨10, by decide, dec_nl.1⟩
        · exact ⟨13, by decide, dec_nl.2⟩
      have hnx : ∀ ty, (Instr.next (.pointer (some ⟨w.heap.size, 0, none⟩)) true ty).run Tryd.prog wr = .ok (.tuple #[.bool true, .int .i64 k, .int .i32 (R : Int)]) (wr.iterAt w.heap.size (str l) (k + 1)) := fun ty => by
        have := Lib.run_next_any_at (P := Tryd.prog) wr w.heap.size (str l) k ty HI.out (by rw [str_size, h2]; exact hlt)
        rwa [decode_str, hd] at this
      have hit2 := Lib.iterAt_heap wr w.heap.size (str l) k (k + 1) HI.out
      have hbel2 := Lib.below_iterAt hbel (k := w.heap.size) (Nat.le_refl _) (str l) (k + 1)
      obtain ⟨W, hW⟩ : ∃ W, wr.iterAt w.heap.size (str l) (k + 1) = W := ⟨_, rfl⟩
      rw [hW] at hnx hit2 hbel2
      have hp := iterPos_of HI.out
      have hp2 := iterPos_of hit2
      have HP := Lib.hid hp
      have HP2 := Lib.hid hp2
      have HI2 := Lib.hid hit2
      have hr1 : ((R : Int) == 65533) = false := by rw [beq_eq_false_iff_ne]; omega
      clear hd hit2 hW hp hp2
      go_wp2
      go_roundw
      case rel => exact ⟨k + 1, by omega, HI2, hbel2⟩
      case measure => rw [HP.out, HP2.out]; omega
    · have hnx : ∀ ty, (Instr.next (.pointer (some ⟨w.heap.size, 0, none⟩)) true ty).run Tryd.prog wr = _ := fun ty => Lib.run_next_end_at (P := Tryd.prog) wr w.heap.size (str l) k ty HI.out (by rw [str_size, h2]; exact hlt)
      go_wp2
      go_ret
      exact ⟨rfl, hbel⟩

theorem idx_none (y : UInt8) : Lib.indexByte [] y = -1 := rfl
set_option maxRecDepth 100000 in
set_option maxHeartbeats 2000000 in
theorem IndexRune_high (r : Int) (w : World) (h0 : 128 ≤ r) (hv : (0 ≤ r ∧ r < 55296) ∨ (57343 < r ∧ r ≤ 1114111)) (hne : r ≠ 65533) :
    Calls Tryd.prog 46 #[.string (str [10, 13]), .int .i32 r] w fun e w' => e = .returned (.int .i64 (-1)) ∧ Below w.heap.size w w' := by
  have hV : ∀ w, Calls Tryd.prog 59 #[.int .i32 r] w fun e w' => e = .returned (.bool true) ∧ w' = w := fun w => ValidRune_yes r w hv
  have HV := Lib.hid hV
  obtain ⟨s2, s4, hlast⟩ := encode_facts r (by rw [validRune_eq]; exact decide_eq_true hv) h0
  have t1 : (r == 65533) = false := by rw [beq_eq_false_iff_ne]; exact hne
  have t2 : decide (r < 128) = false := by simp; omega
  have t3 : decide (0 ≤ r) = true := by simp; omega
  generalize hE : Utf8.encode r = E at *
  obtain ⟨n, hn⟩ : ∃ n, E.size = n := ⟨_, rfl⟩
  clear hV hne hv
  rcases (show n = 2 ∨ (3 ≤ n ∧ n ≤ 4) by omega) with rfl | hn3
  · obtain ⟨y, hy⟩ : ∃ y, y = E[1]'(by omega) := ⟨_, rfl⟩
    have hy0 : 128 ≤ y.toNat := by
      have := hlast (by omega)
      simp only [hn] at this
      rw [hy]; exact this
    have hy1 := y.toNat_lt
    have hget : ∀ h, E[1]'h = y := fun h => hy.symm
    clear hlast hy
    have hsl : ∀ wx, (Instr.slice 9 (.string (str [10, 13])) (some (.int .i64 2)) none none).run Tryd.prog wx = .ok (.string (str [])) wx := fun wx => by
      rw [run_slice_string_from_if wx 9 (str [10, 13]) .i64 2 Tryd.underlying9]
      rfl
    have hB : ∀ w, Calls Tryd.prog 54 #[.string (str []), .int .u8 y.toNat] w fun e w' => e = .returned (.int .i64 (-1)) ∧ w' = w := fun w => IndexByte_any (str []) y.toNat w
    have HB := Lib.hid hB
    clear hB
    have g1 : ∀ h, (str [10, 13])[1]'h = 13 := fun h => rfl
    have ty : ((13 : Int) != (y.toNat : Int)) = true := by rw [bne_iff_ne]; omega
    go_enter Tryd.func46, Tryd.ntmps46
    go_wp2_with (go_at_call 59; refine (HV.out _).mono ?_; rintro e w' ⟨rfl, rfl⟩)
    go_step3
    go_wp2
    go_loop [9, 10] (fun i f => i = .int .i64 1 ∧ f = .int .i64 0) (fun _ _ => 0)
    case atStart => exact ⟨rfl, rfl⟩
    case round =>
      obtain ⟨rfl, rfl⟩ := hrel
      go_wp2
      go_step3
      go_wp2
      go_quiet (fail)
      go_wp2
      go_region_held (fun _ => True) (trivial) ((go_at_call 54; refine (HB.out _).mono ?_; rintro e w' ⟨rfl, rfl⟩))
      all_goals
        go_wp2
        rw [Exit.noGoto_ret]
        go_wp2
        (try rw [Exit.noGoto_ret])
        go_ret
        exact ⟨rfl, by first | exact Below.refl _ _ | exact below_drewN (Below.refl _ _) _ | exact (below_drewN (Below.refl _ _) _).drew | exact below_drewN (below_drewN (Below.refl _ _) _) _⟩
  · clear hlast
    have hn' : (2 : Int) ≤ (n : Int) - 1 := by omega
    go_enter Tryd.func46, Tryd.ntmps46
    go_wp2_with (go_at_call 59; refine (HV.out _).mono ?_; rintro e w' ⟨rfl, rfl⟩)
    go_step3
    go_wp2
    go_loop [9, 10] (fun i f => i = .int .i64 ((n : Int) - 1) ∧ f = .int .i64 0) (fun _ _ => 0)
    case atStart => exact ⟨rfl, rfl⟩
    case round =>
      obtain ⟨rfl, rfl⟩ := hrel
      go_wp2
      go_ret
      exact ⟨rfl, Below.refl _ _⟩
/-- IndexRune at the text of 10 and 13, of every value that a text may tell. -/
theorem IndexRune_nl (r : Int) (w : World) (hv : (0 ≤ r ∧ r < 55296) ∨ (57343 < r ∧ r ≤ 1114111)) :
    Calls Tryd.prog 46 #[.string (str [10, 13]), .int .i32 r] w fun e w' => e = .returned (.int .i64 (ri r)) ∧ Below w.heap.size w w' := by
  by_cases h1 : r < 128
  · exact (IndexRune_low r w (by omega) h1).mono fun e w' ⟨h, h'⟩ => ⟨h, h' ▸ Below.refl _ _⟩
  · have e : ri r = -1 := by unfold ri; rw [if_neg (by omega), if_neg (by omega)]
    rw [e]
    by_cases h2 : r = 65533
    · subst h2; exact IndexRune_err w
    · exact IndexRune_high r w (by omega) hv h2
end Go.Proofs.YtjlecollphgmcaaDoor
