/-
  A string as a slice of its bytes: new memory, which may be written.
-/
import Derived.Test.YtjlecollphgmcaaDoorMem
namespace Go.Proofs.YtjlecollphgmcaaDoor
open Go.RowKit

theorem run_bytes {P : Program} (w : World) (src dst e : TypeId) (l : List UInt8) (hs : P.underlying src = some .string) (hd : P.underlying dst = some (.slice e)) (he : P.underlying e = some (.int .u8)) :
    ∃ cap w', (convert src dst (.string (str l))).run P w = .ok (.slice (some ⟨w.heap.size, 0, none⟩) l.length cap) w' ∧
      (∀ j, j < l.length → w'.cell? ⟨w.heap.size, j, none⟩ = some (.int .u8 ((l[j]?.getD 0).toNat : Int))) ∧ (∀ j, j < l.length → w'.frozen? ⟨w.heap.size, j, none⟩ = false) ∧ Below w.heap.size w w' ∧ w.heap.size < w'.heap.size ∧ l.length ≤ cap := by
  have h := run_bytes_of_string (P := P) w src dst e (str l) hs hd he
  rw [str_size] at h
  have hge := grownCap_ge w l.length 0 e
  generalize grownCap w l.length 0 e = cap at h hge
  obtain ⟨C, hC⟩ : ∃ C, C = bytesRow (str l) cap := ⟨_, rfl⟩
  have hsz : C.size = cap := by rw [hC]; simp [bytesRow, str, ByteArray.size]; omega
  rw [← hC] at h
  have hb : (w.drew.alloc (.cells C e (C.size, C.size + 1))).heap[w.heap.size]? = some (.cells C e (C.size, C.size + 1)) := heap_alloc_new w.drew _
  refine ⟨cap, _, h, fun j hj => ?_, fun j hj => ?_, (Below.refl _ _).drew.alloc (Nat.le_refl _) _, by simp, hge⟩
  · rw [cell_of_row _ _ j C e _ hb, hC]
    have hj' : j < ((str l).data.map fun b => Value.int .u8 (b.toNat : Int)).size := by simpa [str] using hj
    unfold bytesRow
    rw [Array.getElem?_append_left hj']
    simp [str, hj]
  · simp only [World.frozen?, hb]
    simp
    omega
/-- The same, with the block itself: its mark parts it from every row that a call owns. -/
theorem run_bytes_row {P : Program} (w : World) (src dst e : TypeId) (l : List UInt8) (hs : P.underlying src = some .string) (hd : P.underlying dst = some (.slice e)) (he : P.underlying e = some (.int .u8)) :
    ∃ cap C w', (convert src dst (.string (str l))).run P w = .ok (.slice (some ⟨w.heap.size, 0, none⟩) l.length cap) w' ∧ w'.heap[w.heap.size]? = some (.cells C e (C.size, C.size + 1)) ∧
      (∀ j, j < l.length → C[j]? = some (.int .u8 ((l[j]?.getD 0).toNat : Int))) ∧ Below w.heap.size w w' ∧ w.heap.size < w'.heap.size ∧ l.length ≤ cap := by
  have h := run_bytes_of_string (P := P) w src dst e (str l) hs hd he
  rw [str_size] at h
  have hge := grownCap_ge w l.length 0 e
  generalize grownCap w l.length 0 e = cap at h hge
  obtain ⟨C, hC⟩ : ∃ C, C = bytesRow (str l) cap := ⟨_, rfl⟩
  rw [← hC] at h
  have hb : (w.drew.alloc (.cells C e (C.size, C.size + 1))).heap[w.heap.size]? = some (.cells C e (C.size, C.size + 1)) := heap_alloc_new w.drew _
  refine ⟨cap, C, _, h, hb, fun j hj => ?_, (Below.refl _ _).drew.alloc (Nat.le_refl _) _, by simp, hge⟩
  rw [hC]
  have hj' : j < ((str l).data.map fun b => Value.int .u8 (b.toNat : Int)).size := by simpa [str] using hj
  unfold bytesRow
  rw [Array.getElem?_append_left hj']
  simp [str, hj]
theorem own_ne_row {w : World} {B e size n S m : Nat} {e' : TypeId} {v : Value} {xs : List Value} {C : Array Value} (h : w.ownsRow B e size v n xs) (hk : w.heap[S]? = some (.cells C e' (m, m + 1))) : some S ≠ v.ownBlock := by
  rcases h.2 with ⟨rfl, _⟩ | ⟨g, cap, cur, rfl, _, hg, _⟩
  · simp [Value.ownBlock]
  · intro e
    simp [Value.ownBlock] at e
    subst e
    rw [hk] at hg
    injection hg with hg
    injection hg with _ _ hf
    injection hf with h1 h2
    omega
/-- A byte in a block of its own. -/
theorem Sl.one (w : World) (x : UInt8) (t : TypeId) : Sl (w.alloc (.cells #[.int .u8 (x.toNat : Int)] t)) (w.alloc (.cells #[.int .u8 (x.toNat : Int)] t)).heap.size (some ⟨w.heap.size, 0, none⟩) [x] := fun _ => by
  refine ⟨w.heap.size, 0, rfl, by simp, fun j hj => ?_⟩
  have hj0 : j = 0 := by simpa using hj
  subst hj0
  rw [cell_of_row _ _ (0 + 0) _ t _ (heap_alloc_new w _)]
  rfl
end Go.Proofs.YtjlecollphgmcaaDoor
