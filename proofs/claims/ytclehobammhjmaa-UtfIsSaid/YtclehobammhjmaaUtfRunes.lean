/-
  utf.Runes and utf.Whole: a text in UTF-8, gone over value by value.
-/
import Derived.Test.YtclehobammhjmaaUtfEnc
import Derived.WalkSmall
import Derived.Lib.OthersKept
namespace Go.Proofs.Ytclehobammhjmaa
open Go.RowKit

theorem get_str! (l : List UInt8) (i : Nat) : (str l).get! i = l[i]?.getD 0 := by
  show l.toArray[i]! = _
  by_cases h : i < l.length
  · rw [getElem!_pos l.toArray i (by simpa using h), List.getElem?_eq_getElem h]
    simp
  · rw [getElem!_neg l.toArray i (by simpa using h), List.getElem?_eq_none (by omega)]
    rfl
theorem decode_str (l : List UInt8) (k : Nat) : Utf8.decode (str l) k = dec (l.drop k) := by
  rw [Lib.decode_at]
  unfold dec
  simp only [get_str!, str_size, List.length_drop, List.getElem?_drop, Nat.add_zero]
theorem own_ne_iter {w : World} {B e size n : Nat} {v : Value} {xs : List Value} {k : Nat} {s : ByteArray} {pos : Nat} (h : w.ownsRow B e size v n xs) (hk : w.heap[k]? = some (.stringIter s pos)) : some k ≠ v.ownBlock := by
  rcases h.2 with ⟨rfl, _⟩ | ⟨g, cap, cur, rfl, _, hg, _⟩
  · simp [Value.ownBlock]
  · intro e
    simp [Value.ownBlock] at e
    subst e
    rw [hk] at hg
    cases hg
theorem own_iter_at {w : World} {B e size n : Nat} {v : Value} {xs : List Value} {k : Nat} {s : ByteArray} {pos : Nat} (h : w.ownsRow B e size v n xs) (hk : w.heap[k]? = some (.stringIter s pos)) (pos' : Nat) : (w.iterAt k s pos').ownsRow B e size v n xs := by
  refine ⟨h.1, ?_⟩
  rcases h.2 with hn | ⟨g, cap, cur, rfl, h1, hg, rest⟩
  · exact .inl hn
  · refine .inr ⟨g, cap, cur, rfl, h1, ?_, rest⟩
    rw [Lib.iterAt_other _ _ _ _ _ (fun e => by subst e; rw [hk] at hg; cases hg)]
    exact hg
theorem drop_ne {l : List UInt8} {k : Nat} (h : k < l.length) : l.drop k ≠ [] := by
  intro e
  have := congrArg List.length e
  rw [List.length_drop, List.length_nil] at this
  omega
theorem runes_at {l : List UInt8} {out : List Int} {k R K : Nat} (h : k < l.length) (hd : dec (l.drop k) = (R, K)) (he : out ++ runes (l.drop k) = runes l) : (out ++ [(R : Int)]) ++ runes (l.drop (k + K)) = runes l := by
  rw [runes_step (drop_ne h), hd, List.drop_drop] at he
  rw [List.append_assoc]; exact he
theorem dec_drop {l : List UInt8} {k R K : Nat} (h : k < l.length) (hd : dec (l.drop k) = (R, K)) : 1 ≤ K ∧ k + K ≤ l.length ∧ R ≤ 1114111 := by
  have h1 := dec_ok (drop_ne h)
  rw [hd, List.length_drop, goodB_iff] at h1
  simp only at h1
  omega

set_option maxHeartbeats 1000000 in
theorem Runes_any (l : List UInt8) (w : World) (hl : l.length ≤ 65536) :
    Calls Try.prog 23 #[.string (str l)] w (RetSi w (runes l)) := by
  obtain ⟨i0, hi, hz0, hz1, hz2⟩ := info_parts info64
  go_enter Try.func23, Try.ntmps23
  go_wp2_with (at_make; refine wpList_make_own _ rfl _ _ _ rfl w.heap.size 3 i0 (.int .i64 0) 1 Try.underlying22 hi hz0 hz1 .i64 .i64 _ l.length rfl rfl (by omega) (by rw [hz2]; omega) (by unfold maxLen; omega) (Nat.le_refl _) ?_; intro w1 hown1 hgrow1)
  have hb1 : Below w.heap.size w w1 := (Below.refl _ _).grown hgrow1 (Nat.le_refl _) (by simp)
  have hit1 := World.iter_heap w1 (str l) 0
  have hown1' : (w1.iter (str l) 0).ownsRow w.heap.size 3 1 (.slice (some ⟨w.heap.size, 0, none⟩) 0 l.length) 0 [] := hown1.alloc _
  have hb1' : Below w.heap.size w (w1.iter (str l) 0) := hb1.alloc hb1.size _
  have hIT : w.heap.size ≤ w1.heap.size := hb1.size
  clear hgrow1 hown1 hb1
  generalize (Value.slice (some ⟨w.heap.size, 0, none⟩) 0 l.length) = v1 at *
  generalize w1.iter (str l) 0 = w2 at *
  generalize w1.heap.size = IT at *
  go_loopw [3] (fun v wr => ∃ (k : Nat) (out : List Int), k ≤ l.length ∧ out.length ≤ k ∧ Hid (out ++ runes (l.drop k) = runes l) ∧ Hid (wr.heap[IT]? = some (.stringIter (str l) k)) ∧ wr.ownsRow w.heap.size 3 1 v out.length (ivs out) ∧ Below w.heap.size w wr) (fun _ wr => l.length - wr.iterPos IT)
  case atStart => exact ⟨0, [], Nat.zero_le _, by simp, by rfl, hit1, by simpa [ivs] using hown1', hb1'⟩
  case round =>
    obtain ⟨k, out, hk, hout, HE, HI, hown, hbel⟩ := hrel
    by_cases hlt : k < l.length
    · obtain ⟨R, K, hd⟩ : ∃ R K, dec (l.drop k) = (R, K) := ⟨_, _, rfl⟩
      obtain ⟨hK1, hK2, hR⟩ := dec_drop hlt hd
      have hnx : ∀ ty, (Instr.next (.pointer (some ⟨IT, 0, none⟩)) true ty).run Try.prog wr = .ok (.tuple #[.bool true, .int .i64 k, .int .i32 (R : Int)]) (wr.iterAt IT (str l) (k + K)) := fun ty => by
        have := Lib.run_next_any_at (P := Try.prog) wr IT (str l) k ty HI.out (by rw [str_size]; exact hlt)
        rwa [decode_str, hd] at this
      have hit2 := Lib.iterAt_heap wr IT (str l) k (k + K) HI.out
      have hbel2 := Lib.below_iterAt hbel (k := IT) hIT (str l) (k + K)
      have hown2 := own_iter_at hown HI.out (k + K)
      obtain ⟨W, hW⟩ : ∃ W, wr.iterAt IT (str l) (k + K) = W := ⟨_, rfl⟩
      rw [hW] at hnx hit2 hbel2 hown2
      have hsz := hbel2.size
      have HD := Lib.hid hd
      have HI2 := Lib.hid hit2
      have hITW : IT < W.heap.size := (Array.getElem?_eq_some_iff.1 hit2).1
      have hp := iterPos_of HI.out
      have HP := Lib.hid hp
      clear hd hit2 hW hp
      go_wp2_with (at_builtin; refine wpList_append_lies _ rfl _ _ _ rfl w.heap.size 3 i0 (.int .i64 0) 1 8 Try.underlying22 hi hz0 hz1 hz2 rfl (by omega) u3 _ _ rfl (hown2.alloc _) ⟨W.heap.size, 0, none⟩ 1 1 (ivs [(R : Int)]) rfl rfl (World.news_of_block (heap_alloc_new W _)) (ivs_one _) (by omega) (by unfold maxLen; omega) (by omega) (by simp; omega) _ rfl ?_; intro g cap w3 hown3 hgrow hat hgl)
      have hit3 : w3.heap[IT]? = some (.stringIter (str l) (k + K)) := by
        rw [hgrow.block IT (by simp; omega) (own_ne_iter hown2 HI2.out), Below.heap_alloc _ _ _ hITW]
        exact HI2.out
      have hp3 := iterPos_of hit3
      have HI3 := Lib.hid hit3
      have HP3 := Lib.hid hp3
      clear hit3 hp3
      go_roundw
      case rel => exact ⟨k + K, out ++ [(R : Int)], by omega, by simp; omega, runes_at hlt HD.out HE.out, HI3, own_ints hown3 (by simp), (hbel2.alloc hsz _).grown hgrow (by simp; omega) (fun q hq => (hown2.lt q hq).1)⟩
      case measure => rw [HP.out, HP3.out]; omega
    · have he : out = runes l := by
        have := HE.out
        rw [List.drop_eq_nil_of_le (by omega), runes_nil] at this
        simpa using this
      subst he
      obtain ⟨c', _, hc', A', hv, hsl⟩ := Si.of_own hown
      subst hv
      have hnx : ∀ ty, (Instr.next (.pointer (some ⟨IT, 0, none⟩)) true ty).run Try.prog wr = _ := fun ty => Lib.run_next_end_at (P := Try.prog) wr IT (str l) k ty HI.out (by rw [str_size]; exact hlt)
      go_wp2
      go_ret
      exact ⟨A', c', rfl, hc', hsl, hbel⟩

/-- A text begins with another. -/
def preB (l p : List UInt8) : Bool := decide (p.length ≤ l.length) && (l.take p.length == p)
set_option maxHeartbeats 1000000 in
theorem liteHasPrefix_any (l p : List UInt8) (w : World) : Calls Try.prog 39 #[.string (str l), .string (str p)] w fun e w' => e = .returned (.bool (preB l p)) ∧ w = w' := by
  by_cases h : p.length ≤ l.length
  · have e : preB l p = (l.take p.length == p) := by simp [preB, h]
    rw [e]
    clear e
    go_enter Try.func39, Try.ntmps39
    go_wp2
    go_ret
    exact ⟨rfl, rfl⟩
  · have e : preB l p = false := by simp [preB, h]
    rw [e]
    clear e
    go_enter Try.func39, Try.ntmps39
    go_wp2
    go_ret
    exact ⟨rfl, rfl⟩
set_option maxHeartbeats 1000000 in
theorem HasPrefix_any (l p : List UInt8) (w : World) : Calls Try.prog 37 #[.string (str l), .string (str p)] w fun e w' => e = .returned (.bool (preB l p)) ∧ w = w' := by
  go_enter Try.func37, Try.ntmps37
  go_wp2_with (go_at_call 39; refine (liteHasPrefix_any l p _).mono ?_; rintro e w' ⟨rfl, rfl⟩)
  go_ret
  exact ⟨rfl, rfl⟩
end Go.Proofs.Ytclehobammhjmaa
