/-
  A string as a slice of its bytes: new memory, which may be written.
-/
import Derived.Test.YtcnpegembccbmaaDoorMem
namespace Go.Proofs.YtcnpegembccbmaaDoor
open Go.RowKit

theorem run_bytes {P : Program} (w : World) (src dst e : TypeId) (l : List UInt8) (hs : P.underlying src = some .string) (hd : P.underlying dst = some (.slice e)) (he : P.underlying e = some (.int .u8)) :
    ∃ cap w', (convert src dst (.string (str l))).run P w = .ok (.slice (some ⟨w.heap.size, 0, none⟩) l.length cap) w' ∧
      (∀ j, j < l.length → w'.cell? ⟨w.heap.size, j, none⟩ = some (.int .u8 ((l[j]?.getD 0).toNat : Int))) ∧ (∀ j, j < l.length → w'.frozen? ⟨w.heap.size, j, none⟩ = false) ∧ Below w.heap.size w w' ∧ w.heap.size < w'.heap.size ∧ l.length ≤ cap := by
  have h := run_bytes_of_string (P := P) w src dst e (str l) hs hd he
  rw [str_size] at h
  have hge := grownCap_ge w l.length 0 e
  generalize grownCap w l.length 0 e = cap at h hge
  obtain ⟨C, hC⟩ : ∃ C, C = bytesRow (str l) cap := ⟨_, rfl⟩
  have hsz : C.size = cap := by rw [hC]; simp [bytesRow, str, ByteArray.size]; omega
  rw [← hC] at h
  have hb : (w.drew.alloc (.cells C e (C.size, C.size + 1))).heap[w.heap.size]? = some (.cells C e (C.size, C.size + 1)) := heap_alloc_new w.drew _
  refine ⟨cap, _, h, fun j hj => ?_, fun j hj => ?_, (Below.refl _ _).drew.alloc (Nat.le_refl _) _, by simp, hge⟩
  · rw [cell_of_row _ _ j C e _ hb, hC]
    have hj' : j < ((str l).data.map fun b => Value.int .u8 (b.toNat : Int)).size := by simpa [str] using hj
    unfold bytesRow
    rw [Array.getElem?_append_left hj']
    simp [str, hj]
  · simp only [World.frozen?, hb]
    simp
    omega
end Go.Proofs.YtcnpegembccbmaaDoor
