/-
  slices.Backward at entries: the iterator's contract.
-/
import Derived.RangeFuncNested
import Derived.RangeFuncBound
import Derived.RangeFuncCalls
import Derived.RangeFuncLeaves
import Derived.Shelf.Abstract
import Derived.Shelf.RegionOpen
import Derived.WalkKit
import Derived.OwnWalkIn
import Derived.TacticsInMore
import Derived.LoopNIn
import Derived.LoopIn
import Derived.Test.YtkkochjdimegpaaDestFind2
namespace Go.Proofs.Ytkkochjdimegpaa
open Go.RowKit Go.Shelf
attribute [local go_sem] Oper.semAt_some

/-- An entry whose units lie in a world. -/
abbrev Mw (w₀ : World) := { m : Me // Un w₀ m.a m.c m.b.u }
def Mw.zero (w₀ : World) : Mw w₀ := ⟨⟨⟨0, 0, 0, []⟩, none, 0⟩, ⟨Nat.le_refl _, fun _ => rfl, fun h => absurd h (by simp)⟩⟩
theorem mw_of {w₀ : World} : ∀ {l : List Me}, Ul w₀ l → ∃ l' : List (Mw w₀), l'.map Subtype.val = l
  | [], _ => ⟨[], rfl⟩
  | m :: l, h => by
    obtain ⟨l', e⟩ := mw_of (l := l) (fun x hx => h x (List.mem_cons_of_mem _ hx))
    exact ⟨⟨m, h m List.mem_cons_self⟩ :: l', by rw [List.map_cons, e]⟩
/-- What has come when k rounds are over: from the back. -/
def bkD {w₀ : World} (l : List (Mw w₀)) (k : Nat) : List (Int × Mw w₀) := (List.range k).map fun (i : Nat) => ((l.length : Int) - 1 - i, l[l.length - 1 - i]?.getD (Mw.zero w₀))
theorem bkD_succ {w₀ : World} (l : List (Mw w₀)) (k : Nat) : bkD l (k + 1) = bkD l k ++ [((l.length : Int) - 1 - k, l[l.length - 1 - k]?.getD (Mw.zero w₀))] := by simp [bkD, List.range_succ]
theorem bkD_length {w₀ : World} (l : List (Mw w₀)) (k : Nat) : (bkD l k).length = k := by simp [bkD]
/-- What the function value is called with. -/
def bkW {w₀ : World} (x : Int × Mw w₀) : Array Value := #[.int .i64 x.1, fv x.2.1]
set_option maxRecDepth 100000 in
set_option maxHeartbeats 4000000 in
theorem dBack1_in (F : Fence) (m : Nat) (h8 : F.fn 45) (hro : F.round = none) (hm : 1 ≤ m) (q Bx n₀ : Nat) (A : Option Addr) (c : Nat) {w₀ : World} (l : List (Mw w₀)) (hl : l.length ≤ 1048576) (hBn : Bx < n₀) (J Jx : List (Int × Mw w₀) → World → Prop)
    (hY : ∀ pre x W, J pre W → pre.length < l.length → YieldAt F (m - 1) Try.prog q (bkW x) W fun e W' =>
      (e = .returned (.bool true) ∧ J (pre ++ [x]) W' ∧ Below n₀ W W') ∨ (e = .returned (.bool false) ∧ Jx (pre ++ [x]) W'))
    (W : World) (hBs : W.cell? ⟨Bx, 0, none⟩ = some (.slice A l.length c)) (hA : Rd W n₀ A (l.map Subtype.val)) (h0 : J [] W) :
    CallsIn F m Try.prog 45 #[.func (.yield q) #[] #[], .pointer (some ⟨Bx, 0, none⟩)] W fun e W' => (∃ v, e = .returned v) ∧
      ((∃ ys, ys = bkD l l.length ∧ J ys W') ∨ (∃ pre, (∃ k, k ≤ l.length ∧ pre = bkD l k) ∧ Jx pre W')) := by
  obtain ⟨n, hn⟩ : ∃ n, n = l.length := ⟨_, rfl⟩
  have HN := Lib.hid hn
  have HA := Lib.hid hA
  rw [← hn] at hl hY hBs ⊢
  clear hn hA
  refine callsIn_of_wp Try.func45 rfl h8 ?_ hro
  simp only [Try.ntmps45, List.size_toArray, List.length_cons, List.length_nil, Nat.reduceAdd, Nat.reduceSub, Array.replicate_succ, Array.replicate_zero, List.push_toArray, List.append_toArray, List.nil_append, List.cons_append]
  gi_wp2
  gi_loopw [3] (fun i wr => ∃ k : Nat, k ≤ n ∧ i = .int .i64 ((n : Int) - 1 - k) ∧ J (bkD l k) wr ∧ Below n₀ W wr)
    (fun i _ => (intOf i + 1).toNat)
  case atStart => exact ⟨0, Nat.zero_le _, by first | rfl | go_num, h0, Below.refl _ _⟩
  case round =>
    obtain ⟨k, hk, rfl, hJs, hnx⟩ := hrel
    have hcx : wr.cell? ⟨Bx, 0, none⟩ = some (.slice A n c) := (hnx.cell (p := ⟨Bx, 0, none⟩) hBn).trans hBs
    by_cases hlt : k < n
    · obtain ⟨d, hd⟩ : ∃ d : Nat, (n : Int) - 1 - k = (d : Int) := ⟨n - 1 - k, by omega⟩
      have hx := List.getElem?_eq_getElem (l := l) (i := d) (by have := HN.out; omega)
      have hdn : d < n := by omega
      generalize l[d]'(by have := HN.out; omega) = x at *
      have hx2 : (l.map Subtype.val)[d]? = some x.1 := by rw [List.getElem?_map, hx]; rfl
      obtain ⟨b, o, rfl, hb, ⟨y0, y1, y2, y3⟩⟩ := (HA.out.below hnx).at hx2
      have ebk : bkD l (k + 1) = bkD l k ++ [((d : Int), x)] := by
        rw [bkD_succ, show (l.length : Int) - 1 - k = (d : Int) by have := HN.out; omega, show l.length - 1 - k = d by have := HN.out; omega, hx]
        rfl
      obtain ⟨fn, tmps, assign, body, hy, hR⟩ := hY _ ((d : Int), x) wr hJs (by rw [bkD_length]; exact hlt)
      unfold bkW fv at hy
      dsimp only at hy
      have t0 : (0 : Int) ≤ (d : Int) := by omega
      have HD := Lib.hid hd
      have EB := Lib.hid ebk
      rw [hd]
      clear hd ebk hx hx2
      gi_wp2
      refine hR.mono ?_
      rintro e W3 (⟨rfl, hJ3, hk3⟩ | ⟨rfl, hJx3⟩)
      · gi_wp2
        go_roundw
        case rel => exact ⟨k + 1, by omega, by have := HD.out; first | (congr 1; omega) | go_num, by rw [EB.out]; exact hJ3, hnx.trans hk3⟩
        case measure => simp [intOf]
      · gi_wp2
        refine bodyPost_ret (results_none rfl _ _ _) rfl ?_
        exact ⟨⟨_, rfl⟩, .inr ⟨_, ⟨k + 1, by omega, EB.out.symm⟩, hJx3⟩⟩
    · obtain rfl : k = n := by omega
      have t0 : ¬ (0 : Int) ≤ (k : Int) - 1 - k := by omega
      gi_wp2
      go_end0
      exact ⟨⟨_, rfl⟩, .inl hJs⟩
set_option maxHeartbeats 1000000 in
theorem dBack_in (F : Fence) (m : Nat) (h5 : F.fn 31) (hro : F.round = none) (a : Option Addr) (len cap : Nat) (w : World) :
    CallsIn F m Try.prog 31 #[.slice a len cap] w fun e w' => e = .returned (.func (.func 45) #[] #[.pointer (some ⟨w.heap.size, 0, none⟩)]) ∧ w' = w.alloc (.cells #[.slice a len cap] 22) := by
  refine callsIn_of_wp Try.func31 rfl h5 ?_ hro
  simp only [Try.ntmps31, List.size_toArray, List.length_cons, List.length_nil, Nat.reduceAdd, Nat.reduceSub, Array.replicate_succ, Array.replicate_zero, List.push_toArray, List.append_toArray, List.nil_append, List.cons_append]
  gi_wp2
  go_ret
  exact ⟨rfl, rfl⟩
theorem dBack_stops (F : Fence) (m : Nat) (h8 : F.fn 45) (hro : F.round = none) (hm : 1 ≤ m) (Bx n₀ : Nat) (A : Option Addr) (c : Nat) {w₀ : World} (l : List (Mw w₀)) (hl : l.length ≤ 1048576) (w : World) (hBx : Bx < n₀) (hn₀ : n₀ ≤ w.heap.size)
    (hc : w.cell? ⟨Bx, 0, none⟩ = some (.slice A l.length c)) (hA : Rd w n₀ A (l.map Subtype.val)) :
    SeqStopsK F m Try.prog 45 #[.pointer (some ⟨Bx, 0, none⟩)] bkW (Below n₀) (fun ys => ys = bkD l l.length) (fun pre => ∃ k, k ≤ l.length ∧ pre = bkD l k) l.length w := fun q J Jx W hW _ _ hY h0 =>
  dBack1_in F m h8 hro hm q Bx n₀ A c l hl hBx J Jx hY W ((hW.cell (p := ⟨Bx, 0, none⟩) (by show Bx < _; omega)).trans hc) (hA.below (hW.mono hn₀)) h0
end Go.Proofs.Ytkkochjdimegpaa
