/-
  hex.Bytes: a code's bytes, the highest first; nothing of a code that is not Sane.
-/
import Derived.Test.YtcnpegembccbmaaDoorHexSane
import Derived.Deep.AppendLies
import Derived.Handy
namespace Go.Proofs.YtcnpegembccbmaaDoor
open Go.RowKit

/-- So many bytes of a number, the highest first. -/
def beL : Nat → Int → List UInt8
  | 0, _ => []
  | n + 1, v => beL n (v / 256) ++ [UInt8.ofNat (v % 256).toNat]
theorem beL_length (n : Nat) (v : Int) : (beL n v).length = n := by
  induction n generalizing v with
  | zero => rfl
  | succ n ih => simp [beL, ih]
theorem low_byte (v : Int) : ((UInt8.ofNat (v % 256).toNat).toNat : Int) = v % 256 := by
  have h : (v % 256).toNat < 256 := by omega
  rw [UInt8.toNat_ofNat_of_lt' h]; omega

theorem ret_lit {w w1 : World} {O : Obj} {t : TypeId} (hb : Below (w.alloc O).heap.size (w.alloc O) w1) (l : List UInt8) (cs : List Value) (hcs : cs = bvs l) (n : Nat) (hn : n = l.length) :
    RetSl w l (.returned (.slice (some ⟨w1.heap.size, 0, none⟩) n n)) (w1.alloc (.cells cs.toArray t)) := by
  subst hcs hn
  have h1 : w.heap.size ≤ w1.heap.size := by have := hb.size; simp at this; omega
  refine ⟨some ⟨w1.heap.size, 0, none⟩, l.length, rfl, Nat.le_refl _, fun _ => ⟨w1.heap.size, 0, rfl, by simp, fun j hj => ?_⟩, ?_⟩
  · have := World.news_of_block (heap_alloc_new w1 (.cells (bvs l).toArray t)) j _ (bvs_get l j hj)
    rwa [addr_add] at this
  · exact (((Below.refl _ _).alloc (Nat.le_refl _) O).trans (hb.mono (by simp))).alloc h1 _

set_option maxHeartbeats 1000000 in
theorem Bytes_1 (v : Int) (w : World) (h0 : 0 ≤ v) (h1 : v < 256) :
    Calls Tryd.prog 23 #[.agg #[.int .i64 1, .int .i64 v]] w (RetSl w (beL 1 v)) := by
  have hs : saneB 1 v = true := by rw [saneB_iff]; simp; omega
  have hmk : ∀ w, (Instr.makeSlice 22 (.int .i64 1) (.int .i64 1)).run Tryd.prog w = .ok (.slice (some ⟨w.heap.size, 0, none⟩) 1 1) (w.alloc (.cells #[.int .u8 0] 5)) := fun _ => by kernel_rfl
  go_enter Tryd.func23, Tryd.ntmps23
  go_wp2_with (go_at_call 21; refine (Sane_any _ _ _).mono ?_; rintro e w1 ⟨rfl, hb⟩; have hc0 : w1.cell? ⟨w.heap.size, 0, none⟩ = some (.int .i64 1) := (hb.cell (p := ⟨w.heap.size, 0, none⟩) (by simp)).trans (by simp); have hc1 : w1.cell? ⟨w.heap.size, 1, none⟩ = some (.int .i64 v) := (hb.cell (p := ⟨w.heap.size, 1, none⟩) (by simp)).trans (by simp); have hz : w.heap.size < w1.heap.size := (by have := hb.size; simp at this; omega))
  go_rounds 2
  go_ret
  refine ret_lit hb _ _ ?_ _ (beL_length _ _).symm
  simp only [bvs, beL, List.map_cons, List.map_nil, List.nil_append, low_byte]
  simp only [List.cons.injEq, Value.int.injEq, true_and, and_true]
  omega
set_option maxHeartbeats 1000000 in
theorem Bytes_2 (v : Int) (w : World) (h0 : 0 ≤ v) (h1 : v < 65536) :
    Calls Tryd.prog 23 #[.agg #[.int .i64 2, .int .i64 v]] w (RetSl w (beL 2 v)) := by
  have hs : saneB 2 v = true := by rw [saneB_iff]; simp; omega
  have hmk : ∀ w, (Instr.makeSlice 22 (.int .i64 2) (.int .i64 2)).run Tryd.prog w = .ok (.slice (some ⟨w.heap.size, 0, none⟩) 2 2) (w.alloc (.cells #[.int .u8 0, .int .u8 0] 5)) := fun _ => by kernel_rfl
  go_enter Tryd.func23, Tryd.ntmps23
  go_wp2_with (go_at_call 21; refine (Sane_any _ _ _).mono ?_; rintro e w1 ⟨rfl, hb⟩; have hc0 : w1.cell? ⟨w.heap.size, 0, none⟩ = some (.int .i64 2) := (hb.cell (p := ⟨w.heap.size, 0, none⟩) (by simp)).trans (by simp); have hc1 : w1.cell? ⟨w.heap.size, 1, none⟩ = some (.int .i64 v) := (hb.cell (p := ⟨w.heap.size, 1, none⟩) (by simp)).trans (by simp); have hz : w.heap.size < w1.heap.size := (by have := hb.size; simp at this; omega))
  go_rounds 3
  go_ret
  refine ret_lit hb _ _ ?_ _ (beL_length _ _).symm
  simp only [bvs, beL, List.map_cons, List.map_nil, List.nil_append, List.cons_append, low_byte]
  simp only [List.cons.injEq, Value.int.injEq, true_and, and_true]
  omega
set_option maxHeartbeats 1000000 in
theorem Bytes_3 (v : Int) (w : World) (h0 : 0 ≤ v) (h1 : v < 16777216) :
    Calls Tryd.prog 23 #[.agg #[.int .i64 3, .int .i64 v]] w (RetSl w (beL 3 v)) := by
  have hs : saneB 3 v = true := by rw [saneB_iff]; simp; omega
  have hmk : ∀ w, (Instr.makeSlice 22 (.int .i64 3) (.int .i64 3)).run Tryd.prog w = .ok (.slice (some ⟨w.heap.size, 0, none⟩) 3 3) (w.alloc (.cells #[.int .u8 0, .int .u8 0, .int .u8 0] 5)) := fun _ => by kernel_rfl
  go_enter Tryd.func23, Tryd.ntmps23
  go_wp2_with (go_at_call 21; refine (Sane_any _ _ _).mono ?_; rintro e w1 ⟨rfl, hb⟩; have hc0 : w1.cell? ⟨w.heap.size, 0, none⟩ = some (.int .i64 3) := (hb.cell (p := ⟨w.heap.size, 0, none⟩) (by simp)).trans (by simp); have hc1 : w1.cell? ⟨w.heap.size, 1, none⟩ = some (.int .i64 v) := (hb.cell (p := ⟨w.heap.size, 1, none⟩) (by simp)).trans (by simp); have hz : w.heap.size < w1.heap.size := (by have := hb.size; simp at this; omega))
  go_rounds 4
  go_ret
  refine ret_lit hb _ _ ?_ _ (beL_length _ _).symm
  simp only [bvs, beL, List.map_cons, List.map_nil, List.nil_append, List.cons_append, low_byte]
  simp only [List.cons.injEq, Value.int.injEq, true_and, and_true]
  omega
set_option maxHeartbeats 1000000 in
theorem Bytes_4 (v : Int) (w : World) (h0 : 0 ≤ v) (h1 : v < 4294967296) :
    Calls Tryd.prog 23 #[.agg #[.int .i64 4, .int .i64 v]] w (RetSl w (beL 4 v)) := by
  have hs : saneB 4 v = true := by rw [saneB_iff]; simp; omega
  have hmk : ∀ w, (Instr.makeSlice 22 (.int .i64 4) (.int .i64 4)).run Tryd.prog w = .ok (.slice (some ⟨w.heap.size, 0, none⟩) 4 4) (w.alloc (.cells #[.int .u8 0, .int .u8 0, .int .u8 0, .int .u8 0] 5)) := fun _ => by kernel_rfl
  go_enter Tryd.func23, Tryd.ntmps23
  go_wp2_with (go_at_call 21; refine (Sane_any _ _ _).mono ?_; rintro e w1 ⟨rfl, hb⟩; have hc0 : w1.cell? ⟨w.heap.size, 0, none⟩ = some (.int .i64 4) := (hb.cell (p := ⟨w.heap.size, 0, none⟩) (by simp)).trans (by simp); have hc1 : w1.cell? ⟨w.heap.size, 1, none⟩ = some (.int .i64 v) := (hb.cell (p := ⟨w.heap.size, 1, none⟩) (by simp)).trans (by simp); have hz : w.heap.size < w1.heap.size := (by have := hb.size; simp at this; omega))
  go_rounds 5
  go_ret
  refine ret_lit hb _ _ ?_ _ (beL_length _ _).symm
  simp only [bvs, beL, List.map_cons, List.map_nil, List.nil_append, List.cons_append, low_byte]
  simp only [List.cons.injEq, Value.int.injEq, true_and, and_true]
  omega

set_option maxHeartbeats 1000000 in
theorem Bytes_no (n v : Int) (w : World) (hs : saneB n v = false) :
    Calls Tryd.prog 23 #[.agg #[.int .i64 n, .int .i64 v]] w (RetSl w []) := by
  go_enter Tryd.func23, Tryd.ntmps23
  go_wp2_with (go_at_call 21; refine (Sane_any _ _ _).mono ?_; rintro e w1 ⟨rfl, hb⟩)
  go_ret
  exact ⟨none, 0, rfl, Nat.le_refl _, Sl.nil, ((Below.refl _ _).alloc (Nat.le_refl _) _).trans (hb.mono (by simp))⟩

/-- What Bytes hands back. -/
def codeL (n v : Int) : List UInt8 := if saneB n v then beL n.toNat v else []
theorem Bytes_any (n v : Int) (w : World) : Calls Tryd.prog 23 #[.agg #[.int .i64 n, .int .i64 v]] w (RetSl w (codeL n v)) := by
  by_cases hs : saneB n v = true
  · have e : codeL n v = beL n.toNat v := by simp [codeL, hs]
    rw [e]
    obtain ⟨h1, h2, h3, h4⟩ := (saneB_iff n v).1 hs
    rcases (show n = 1 ∨ n = 2 ∨ n = 3 ∨ n = 4 by omega) with rfl | rfl | rfl | rfl
    · exact Bytes_1 v w h3 (by simpa using h4)
    · exact Bytes_2 v w h3 (by simpa using h4)
    · exact Bytes_3 v w h3 (by simpa using h4)
    · exact Bytes_4 v w h3 (by simpa using h4)
  · have hs' : saneB n v = false := by simpa using hs
    have e : codeL n v = [] := by simp [codeL, hs']
    rw [e]
    exact Bytes_no n v w hs'
end Go.Proofs.YtcnpegembccbmaaDoor
