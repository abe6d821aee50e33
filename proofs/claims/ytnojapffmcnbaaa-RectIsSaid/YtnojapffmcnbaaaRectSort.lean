/-
  slices.SortFunc at codespaces, by the program's own compare: the same ones, in order.
-/
import Derived.Test.YtnojapffmcnbaaaRectComp2
namespace Go.Proofs.Ytnojapffmcnbaaa
open Go.RowKit Go.Sort Go.Shelf

/-- A codespace of small numbers. -/
abbrev Sc := { r : Rc // Sml r }
instance : Inhabited Sc := ⟨⟨⟨0, 0, 0⟩, ⟨by decide, by decide, by decide, by decide, by decide, by decide⟩⟩⟩
def scEnc (x : Sc) : List Value := rq x.1
theorem ltOf_sc (x y : Sc) : ltOf (fun a b : Sc => cmpC a.1 b.1) x y = ltC x.1 y.1 := cmpC_lt x.1 y.1
theorem swo_sc : SWO (ltOf fun a b : Sc => cmpC a.1 b.1) where
  irrefl x := by rw [ltOf_sc]; exact hol.irr _
  trans x y z h1 h2 := by rw [ltOf_sc] at *; exact hol.ltr _ _ _ h1 h2
  ntrans x y z h1 h2 := by
    rw [ltOf_sc] at *
    cases h : ltC x.1 z.1 with
    | false => rfl
    | true =>
      have q := (ltC_iff _ _).1 h
      have q1 : ¬ _ := fun e => Bool.noConfusion (((ltC_iff x.1 y.1).2 e).symm.trans h1)
      have q2 : ¬ _ := fun e => Bool.noConfusion (((ltC_iff y.1 z.1).2 e).symm.trans h2)
      exact absurd q (by omega)
theorem compare_lays (b o n : Nat) (w : World) : CmpLays Try.prog 44 #[] scEnc 3 (fun a b : Sc => cmpC a.1 b.1) b o n w :=
  fun _ _ _ _ x y => compare_any x.1 y.1 _ x.2 y.2
theorem below_sortW {w : World} {b o n B : Nat} {d : Array Sc} {os : Array Obj} (hB : B ≤ b) (hb : b < w.heap.size) : Go.RowKit.Below B w (sortWorldK scEnc 3 w b o n d os) := by
  refine ⟨rfl, rfl, rfl, ?_, fun k hk => ?_⟩
  · unfold sortWorldK putRowK
    rw [size_grow, size_putRow]
    exact Nat.le_add_right _ _
  · unfold sortWorldK putRowK
    have h1 : k < (putRow id (Sort.ahead w n) b o (flatK scEnc 3 d)).heap.size := by rw [size_putRow]; exact Nat.lt_of_lt_of_le hk (Nat.le_trans hB (Nat.le_of_lt hb))
    rw [heap_grow_old _ _ h1]
    show (w.heap.modify b _)[k]? = _
    rw [Array.getElem?_modify, if_neg (by omega)]
set_option maxHeartbeats 1000000 in
theorem insSort_none (p : Option Addr) (c : Nat) (fv : Value) (w : World) :
    Calls Try.prog 53 #[.slice p 0 c, .int .i64 0, .int .i64 0, fv] w fun e w' => e = .returned (.tuple #[]) ∧ w' = w := by
  go_enter Try.func53, Try.ntmps53
  go_wp2
  go_rounds 1
  go_end0
  exact ⟨rfl, rfl⟩
set_option maxHeartbeats 1000000 in
theorem pdq_none (p : Option Addr) (c : Nat) (lim : Int) (fv : Value) (w : World) :
    Calls Try.prog 50 #[.slice p 0 c, .int .i64 0, .int .i64 0, .int .i64 lim, fv] w fun e w' => e = .returned (.tuple #[]) ∧ w' = w := by
  go_enter Try.func50, Try.ntmps50
  go_wp2
  refine wp_loop_rounds 1 ?_
  rw [rounds_succ]
  go_wp2_with (go_at_call 53; refine (insSort_none _ _ _ _).mono ?_; rintro e w' ⟨rfl, rfl⟩)
  (try simp only [Exit.inBlock, Exit.then]); refine bodyPost_ret (results_none rfl _ _ _) rfl ?_
  exact ⟨rfl, rfl⟩
theorem len_zero (w : World) : Calls Try.prog 51 #[.int .u64 0] w fun e w' => e = .returned (.int .i64 (Lib.bitLen 0 : Nat)) ∧ w' = w := by
  have h := Any.bits_Len (SlLaysF0.n15.bits (P := Try.prog) (ρ := sortRen) { sortLays with }) 0 w (by omega) (by omega)
  exact h
set_option maxHeartbeats 1000000 in
/-- SortFunc at nothing. -/
theorem Sort_none (p : Option Addr) (c : Nat) (fv : Value) (w : World) :
    Calls Try.prog 43 #[.slice p 0 c, fv] w fun e w' => e = .returned (.tuple #[]) ∧ w' = w := by
  go_enter Try.func43, Try.ntmps43
  go_wp2_with (first | (go_at_call 51; refine (len_zero _).mono ?_; rintro e w' ⟨rfl, rfl⟩) | (go_at_call 50; refine (pdq_none _ _ _ _ _).mono ?_; rintro e w' ⟨rfl, rfl⟩))
  go_end0
  exact ⟨rfl, rfl⟩
theorem HoldsK.to_ra {w : World} {b o : Nat} {d : Array Sc} (h : HoldsK scEnc 3 w b o d) : Ra w b o (d.map (·.1)) := fun j hj => by
  rw [Array.size_map] at hj
  have h0 := h.cell hj (c := 0) (by decide)
  have h1 := h.cell hj (c := 1) (by decide)
  have h2 := h.cell hj (c := 2) (by decide)
  have e : (d.map (·.1))[j]! = d[j]!.1 := by
    rw [getElem!_pos _ j (by simpa using hj), getElem!_pos d j hj, Array.getElem_map]
  rw [e]
  exact ⟨⟨h0.1, h1.1, h2.1⟩, ⟨h0.2, h1.2, h2.2⟩⟩
theorem holdsK_of_ra {w : World} {b o : Nat} {d : Array Sc} (h : Ra w b o (d.map (·.1))) : HoldsK scEnc 3 w b o d := fun t ht => by
  rw [size_flatK] at ht
  rw [get_flatK _ _ _ _ ht]
  have hj : t / 3 < d.size := by omega
  obtain ⟨⟨c0, c1, c2⟩, ⟨f0, f1, f2⟩⟩ := h (t / 3) (by simpa using hj)
  have e : (d.map (·.1))[t / 3]! = d[t / 3]!.1 := by
    rw [getElem!_pos _ _ (by simpa using hj), getElem!_pos d _ hj, Array.getElem_map]
  rw [e] at c0 c1 c2
  rcases (show t % 3 = 0 ∨ t % 3 = 1 ∨ t % 3 = 2 by omega) with e3 | e3 | e3
  · rw [e3, show o + t = o + t / 3 * 3 by omega]
    exact ⟨c0, f0⟩
  · rw [e3, show o + t = o + t / 3 * 3 + 1 by omega]
    exact ⟨c1, f1⟩
  · rw [e3, show o + t = o + t / 3 * 3 + 2 by omega]
    exact ⟨c2, f2⟩
/-- What SortFunc leaves. -/
theorem Sort_any (b o c B : Nat) (l : List Rc) (w : World) (hB : B ≤ b) (hb : b < w.heap.size) (hs : ∀ x ∈ l, Sml x) (h : Ra w b o l.toArray) (hl : l.length ≤ 1000000) :
    Calls Try.prog 43 #[.slice (some ⟨b, o, none⟩) l.length c, .func (.func 44) #[] #[]] w fun e w' => e = .returned (.tuple #[]) ∧ ∃ l' : List Rc, l'.Perm l ∧ l'.Pairwise (fun x y => ltC y x = false) ∧ Ra w' b o l'.toArray ∧ Go.RowKit.Below B w w' := by
  have eg : ∀ args w, (callFunc 44 args).run Try.prog w = .ok (.enter 44 args) w := enters_of Try.func44 (by kernel_rfl) rfl
  let d : Array Sc := (l.pmap Subtype.mk hs).toArray
  have hd : d.map (·.1) = l.toArray := by
    show ((l.pmap Subtype.mk hs).toArray).map _ = _
    rw [List.map_toArray, List.map_pmap]
    simp
  have hz : d.size = l.length := by show ((l.pmap Subtype.mk hs).toArray).size = _; simp
  have hcon := AnyQ.slices_SortFunc sortLays 3 Try.isAgg23 Try.sizeOf23 scEnc (fun _ => rfl) (fun x v hv => rvs_one [x.1] v (by simpa [rvs, scEnc] using hv)) (fun a b : Sc => cmpC a.1 b.1) swo_sc 44 #[] b o c d w eg (compare_lays b o d.size w) (holdsK_of_ra (by rw [hd]; exact h)) hb (by rw [hz]; omega)
  rw [hz] at hcon
  refine Calls.mono hcon ?_
  rintro e w' ⟨rfl, d', n, os, hp, hso, rfl⟩
  refine ⟨rfl, d'.toList.map (·.1), ?_, ?_, ?_, below_sortW hB hb⟩
  · have h3 := hp.2.2
    have e1 : (d'.extract 0 l.length).toList = d'.toList := by rw [← hz, ← hp.1]; simp
    have e2 : (d.extract 0 l.length).toList = d.toList := by rw [← hz]; simp
    rw [e1, e2] at h3
    have h4 := h3.map (·.1)
    rw [← Array.toList_map, ← Array.toList_map, hd] at h4
    simpa using h4
  · rw [List.pairwise_map, List.pairwise_iff_getElem]
    intro i j hi hj hij
    have hi' : i < d'.size := by simpa using hi
    have hj' : j < d'.size := by simpa using hj
    have := hso i j (Nat.zero_le _) hij (by rw [← hz, ← hp.1]; exact hj')
    rw [ltOf_sc, getElem!_pos d' i hi', getElem!_pos d' j hj'] at this
    simpa using this
  · have h5 : HoldsK scEnc 3 (sortWorldK scEnc 3 w b o n d' os) b o d' := (show SWK scEnc 3 w b o d' (sortWorldK scEnc 3 w b o n d' os) from ⟨n, os, rfl⟩).holds hb (holdsK_of_ra (d := d) (by rw [hd]; exact h)) hp.1
    have h6 := HoldsK.to_ra h5
    have e3 : (d'.toList.map (·.1)).toArray = d'.map (·.1) := by rw [← Array.toList_map, Array.toArray_toList]
    rw [e3]
    exact h6
end Go.Proofs.Ytnojapffmcnbaaa
