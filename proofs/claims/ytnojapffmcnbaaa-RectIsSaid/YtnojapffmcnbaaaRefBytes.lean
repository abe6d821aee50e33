/-
  hornbookref01.Bytes: the bytes of a code, by the document's own.
-/
import Derived.Test.YtnojapffmcnbaaaCodeL
import Derived.Test.YtnojapffmcnbaaaRefSane
namespace Go.Proofs.Ytnojapffmcnbaaa
open Go.RowKit

set_option maxHeartbeats 1000000 in
theorem rBytes_1 (v : Int) (w : World) (h0 : 0 ≤ v) (h1 : v < 256) :
    Calls Try.prog 35 #[.agg #[.int .i64 1, .int .i64 v]] w (RetSl w (beL 1 v)) := by
  have hs : saneB 1 v = true := by rw [saneB_iff]; simp; omega
  have hmk : ∀ w, (Instr.makeSlice 26 (.int .i64 1) (.int .i64 1)).run Try.prog w = .ok (.slice (some ⟨w.heap.size, 0, none⟩) 1 1) (w.alloc (.cells #[.int .u8 0] 5)) := fun _ => by kernel_rfl
  go_enter Try.func35, Try.ntmps35
  go_wp2_with (go_at_call 34; refine (rSane_any _ _ _).mono ?_; rintro e w1 ⟨rfl, hb⟩; have hc0 : w1.cell? ⟨w.heap.size, 0, none⟩ = some (.int .i64 1) := (hb.cell (p := ⟨w.heap.size, 0, none⟩) (by simp)).trans (by simp); have hc1 : w1.cell? ⟨w.heap.size, 1, none⟩ = some (.int .i64 v) := (hb.cell (p := ⟨w.heap.size, 1, none⟩) (by simp)).trans (by simp); have hz : w.heap.size < w1.heap.size := (by have := hb.size; simp at this; omega))
  go_rounds 2
  go_ret
  refine ret_lit hb _ _ ?_ _ (beL_length _ _).symm
  simp only [bvs, beL, List.map_cons, List.map_nil, List.nil_append, low_byte]
set_option maxHeartbeats 1000000 in
theorem rBytes_2 (v : Int) (w : World) (h0 : 0 ≤ v) (h1 : v < 65536) :
    Calls Try.prog 35 #[.agg #[.int .i64 2, .int .i64 v]] w (RetSl w (beL 2 v)) := by
  have hs : saneB 2 v = true := by rw [saneB_iff]; simp; omega
  have hmk : ∀ w, (Instr.makeSlice 26 (.int .i64 2) (.int .i64 2)).run Try.prog w = .ok (.slice (some ⟨w.heap.size, 0, none⟩) 2 2) (w.alloc (.cells #[.int .u8 0, .int .u8 0] 5)) := fun _ => by kernel_rfl
  go_enter Try.func35, Try.ntmps35
  go_wp2_with (go_at_call 34; refine (rSane_any _ _ _).mono ?_; rintro e w1 ⟨rfl, hb⟩; have hc0 : w1.cell? ⟨w.heap.size, 0, none⟩ = some (.int .i64 2) := (hb.cell (p := ⟨w.heap.size, 0, none⟩) (by simp)).trans (by simp); have hc1 : w1.cell? ⟨w.heap.size, 1, none⟩ = some (.int .i64 v) := (hb.cell (p := ⟨w.heap.size, 1, none⟩) (by simp)).trans (by simp); have hz : w.heap.size < w1.heap.size := (by have := hb.size; simp at this; omega))
  go_rounds 3
  go_ret
  refine ret_lit hb _ _ ?_ _ (beL_length _ _).symm
  simp only [bvs, beL, List.map_cons, List.map_nil, List.nil_append, List.cons_append, low_byte]
set_option maxHeartbeats 1000000 in
theorem rBytes_3 (v : Int) (w : World) (h0 : 0 ≤ v) (h1 : v < 16777216) :
    Calls Try.prog 35 #[.agg #[.int .i64 3, .int .i64 v]] w (RetSl w (beL 3 v)) := by
  have hs : saneB 3 v = true := by rw [saneB_iff]; simp; omega
  have hmk : ∀ w, (Instr.makeSlice 26 (.int .i64 3) (.int .i64 3)).run Try.prog w = .ok (.slice (some ⟨w.heap.size, 0, none⟩) 3 3) (w.alloc (.cells #[.int .u8 0, .int .u8 0, .int .u8 0] 5)) := fun _ => by kernel_rfl
  go_enter Try.func35, Try.ntmps35
  go_wp2_with (go_at_call 34; refine (rSane_any _ _ _).mono ?_; rintro e w1 ⟨rfl, hb⟩; have hc0 : w1.cell? ⟨w.heap.size, 0, none⟩ = some (.int .i64 3) := (hb.cell (p := ⟨w.heap.size, 0, none⟩) (by simp)).trans (by simp); have hc1 : w1.cell? ⟨w.heap.size, 1, none⟩ = some (.int .i64 v) := (hb.cell (p := ⟨w.heap.size, 1, none⟩) (by simp)).trans (by simp); have hz : w.heap.size < w1.heap.size := (by have := hb.size; simp at this; omega))
  go_rounds 4
  go_ret
  refine ret_lit hb _ _ ?_ _ (beL_length _ _).symm
  simp only [bvs, beL, List.map_cons, List.map_nil, List.nil_append, List.cons_append, low_byte]
set_option maxHeartbeats 1000000 in
theorem rBytes_4 (v : Int) (w : World) (h0 : 0 ≤ v) (h1 : v < 4294967296) :
    Calls Try.prog 35 #[.agg #[.int .i64 4, .int .i64 v]] w (RetSl w (beL 4 v)) := by
  have hs : saneB 4 v = true := by rw [saneB_iff]; simp; omega
  have hmk : ∀ w, (Instr.makeSlice 26 (.int .i64 4) (.int .i64 4)).run Try.prog w = .ok (.slice (some ⟨w.heap.size, 0, none⟩) 4 4) (w.alloc (.cells #[.int .u8 0, .int .u8 0, .int .u8 0, .int .u8 0] 5)) := fun _ => by kernel_rfl
  go_enter Try.func35, Try.ntmps35
  go_wp2_with (go_at_call 34; refine (rSane_any _ _ _).mono ?_; rintro e w1 ⟨rfl, hb⟩; have hc0 : w1.cell? ⟨w.heap.size, 0, none⟩ = some (.int .i64 4) := (hb.cell (p := ⟨w.heap.size, 0, none⟩) (by simp)).trans (by simp); have hc1 : w1.cell? ⟨w.heap.size, 1, none⟩ = some (.int .i64 v) := (hb.cell (p := ⟨w.heap.size, 1, none⟩) (by simp)).trans (by simp); have hz : w.heap.size < w1.heap.size := (by have := hb.size; simp at this; omega))
  go_rounds 5
  go_ret
  refine ret_lit hb _ _ ?_ _ (beL_length _ _).symm
  simp only [bvs, beL, List.map_cons, List.map_nil, List.nil_append, List.cons_append, low_byte]

set_option maxHeartbeats 1000000 in
theorem rBytes_no (n v : Int) (w : World) (hs : saneB n v = false) :
    Calls Try.prog 35 #[.agg #[.int .i64 n, .int .i64 v]] w (RetSl w []) := by
  go_enter Try.func35, Try.ntmps35
  go_wp2_with (go_at_call 34; refine (rSane_any _ _ _).mono ?_; rintro e w1 ⟨rfl, hb⟩)
  go_ret
  exact ⟨none, 0, rfl, Nat.le_refl _, Sl.nil, ((Below.refl _ _).alloc (Nat.le_refl _) _).trans (hb.mono (by simp))⟩

theorem rBytes_any (n v : Int) (w : World) : Calls Try.prog 35 #[.agg #[.int .i64 n, .int .i64 v]] w (RetSl w (codeL n v)) := by
  by_cases hs : saneB n v = true
  · have e : codeL n v = beL n.toNat v := by simp [codeL, hs]
    rw [e]
    obtain ⟨h1, h2, h3, h4⟩ := (saneB_iff n v).1 hs
    rcases (show n = 1 ∨ n = 2 ∨ n = 3 ∨ n = 4 by omega) with rfl | rfl | rfl | rfl
    · exact rBytes_1 v w h3 (by simpa using h4)
    · exact rBytes_2 v w h3 (by simpa using h4)
    · exact rBytes_3 v w h3 (by simpa using h4)
    · exact rBytes_4 v w h3 (by simpa using h4)
  · have hs' : saneB n v = false := by simpa using hs
    have e : codeL n v = [] := by simp [codeL, hs']
    rw [e]
    exact rBytes_no n v w hs'
end Go.Proofs.Ytnojapffmcnbaaa
