/-
  slices.Backward at spans: the iterator's contract.
-/
import Derived.RangeFuncNested
import Derived.RangeFuncBound
import Derived.RangeFuncCalls
import Derived.RangeFuncLeaves
import Derived.Shelf.Abstract
import Derived.Shelf.RegionOpen
import Derived.WalkKit
import Derived.OwnWalkIn
import Derived.TacticsInMore
import Derived.LoopNIn
import Derived.LoopIn
import Derived.Test.YtdlkgcbiekilhaaSpanPro2
namespace Go.Proofs.Ytdlkgcbiekilhaa
open Go.RowKit Go.Shelf
attribute [local go_sem] Oper.semAt_some

/-- What has come when k rounds are over: from the back. -/
def bkS (l : List Sp) (k : Nat) : List (Int × Sp) := (List.range k).map fun (i : Nat) => ((l.length : Int) - 1 - i, l[l.length - 1 - i]?.getD ⟨0, 0, 0, 0⟩)
theorem bkS_succ (l : List Sp) (k : Nat) : bkS l (k + 1) = bkS l k ++ [((l.length : Int) - 1 - k, l[l.length - 1 - k]?.getD ⟨0, 0, 0, 0⟩)] := by simp [bkS, List.range_succ]
theorem bkS_length (l : List Sp) (k : Nat) : (bkS l k).length = k := by simp [bkS]
/-- What the function value is called with. -/
def bkV (x : Int × Sp) : Array Value := #[.int .i64 x.1, sv x.2]
set_option maxRecDepth 100000 in
set_option maxHeartbeats 4000000 in
theorem back1_in (F : Fence) (m : Nat) (h8 : F.fn 38) (hro : F.round = none) (hm : 1 ≤ m) (q Bx n₀ : Nat) (A : Option Addr) (c : Nat) (l : List Sp) (hl : l.length ≤ 1048576) (hBn : Bx < n₀) (J Jx : List (Int × Sp) → World → Prop)
    (hY : ∀ pre x W, J pre W → pre.length < l.length → YieldAt F (m - 1) Try.prog q (bkV x) W fun e W' =>
      (e = .returned (.bool true) ∧ J (pre ++ [x]) W' ∧ Below n₀ W W') ∨ (e = .returned (.bool false) ∧ Jx (pre ++ [x]) W'))
    (W : World) (hBs : W.cell? ⟨Bx, 0, none⟩ = some (.slice A l.length c)) (hA : Ss W n₀ A l) (h0 : J [] W) :
    CallsIn F m Try.prog 38 #[.func (.yield q) #[] #[], .pointer (some ⟨Bx, 0, none⟩)] W fun e W' => (∃ v, e = .returned v) ∧
      ((∃ ys, ys = bkS l l.length ∧ J ys W') ∨ (∃ pre, (∃ k, k ≤ l.length ∧ pre = bkS l k) ∧ Jx pre W')) := by
  obtain ⟨n, hn⟩ : ∃ n, n = l.length := ⟨_, rfl⟩
  have HN := Lib.hid hn
  have HA := Lib.hid hA
  rw [← hn] at hl hY hBs ⊢
  clear hn hA
  refine callsIn_of_wp Try.func38 rfl h8 ?_ hro
  simp only [Try.ntmps38, List.size_toArray, List.length_cons, List.length_nil, Nat.reduceAdd, Nat.reduceSub, Array.replicate_succ, Array.replicate_zero, List.push_toArray, List.append_toArray, List.nil_append, List.cons_append]
  gi_wp2
  gi_loopw [3] (fun i wr => ∃ k : Nat, k ≤ n ∧ i = .int .i64 ((n : Int) - 1 - k) ∧ J (bkS l k) wr ∧ Below n₀ W wr)
    (fun i _ => (intOf i + 1).toNat)
  case atStart => exact ⟨0, Nat.zero_le _, by first | rfl | go_num, h0, Below.refl _ _⟩
  case round =>
    obtain ⟨k, hk, rfl, hJs, hnx⟩ := hrel
    have hcx : wr.cell? ⟨Bx, 0, none⟩ = some (.slice A n c) := (hnx.cell (p := ⟨Bx, 0, none⟩) hBn).trans hBs
    by_cases hlt : k < n
    · obtain ⟨d, hd⟩ : ∃ d : Nat, (n : Int) - 1 - k = (d : Int) := ⟨n - 1 - k, by omega⟩
      have hx := List.getElem?_eq_getElem (l := l) (i := d) (by have := HN.out; omega)
      have hdn : d < n := by omega
      generalize l[d]'(by have := HN.out; omega) = x at *
      obtain ⟨b, o, rfl, hb, ⟨y0, y1, y2, y3⟩⟩ := (HA.out.below hnx).at hx
      have ebk : bkS l (k + 1) = bkS l k ++ [((d : Int), x)] := by
        rw [bkS_succ, show (l.length : Int) - 1 - k = (d : Int) by have := HN.out; omega, show l.length - 1 - k = d by have := HN.out; omega, hx]
        rfl
      obtain ⟨fn, tmps, assign, body, hy, hR⟩ := hY _ ((d : Int), x) wr hJs (by rw [bkS_length]; exact hlt)
      unfold bkV sv at hy
      dsimp only at hy
      have t0 : (0 : Int) ≤ (d : Int) := by omega
      have HD := Lib.hid hd
      have EB := Lib.hid ebk
      rw [hd]
      clear hd ebk hx
      gi_wp2
      refine hR.mono ?_
      rintro e W3 (⟨rfl, hJ3, hk3⟩ | ⟨rfl, hJx3⟩)
      · gi_wp2
        go_roundw
        case rel => exact ⟨k + 1, by omega, by have := HD.out; first | (congr 1; omega) | go_num, by rw [EB.out]; exact hJ3, hnx.trans hk3⟩
        case measure => simp [intOf]
      · gi_wp2
        refine bodyPost_ret (results_none rfl _ _ _) rfl ?_
        exact ⟨⟨_, rfl⟩, .inr ⟨_, ⟨k + 1, by omega, EB.out.symm⟩, hJx3⟩⟩
    · obtain rfl : k = n := by omega
      have t0 : ¬ (0 : Int) ≤ (k : Int) - 1 - k := by omega
      gi_wp2
      go_end0
      exact ⟨⟨_, rfl⟩, .inl hJs⟩
set_option maxHeartbeats 1000000 in
theorem back_in (F : Fence) (m : Nat) (h5 : F.fn 28) (hro : F.round = none) (a : Option Addr) (len cap : Nat) (w : World) :
    CallsIn F m Try.prog 28 #[.slice a len cap] w fun e w' => e = .returned (.func (.func 38) #[] #[.pointer (some ⟨w.heap.size, 0, none⟩)]) ∧ w' = w.alloc (.cells #[.slice a len cap] 22) := by
  refine callsIn_of_wp Try.func28 rfl h5 ?_ hro
  simp only [Try.ntmps28, List.size_toArray, List.length_cons, List.length_nil, Nat.reduceAdd, Nat.reduceSub, Array.replicate_succ, Array.replicate_zero, List.push_toArray, List.append_toArray, List.nil_append, List.cons_append]
  gi_wp2
  go_ret
  exact ⟨rfl, rfl⟩
theorem back_stops (F : Fence) (m : Nat) (h8 : F.fn 38) (hro : F.round = none) (hm : 1 ≤ m) (Bx n₀ : Nat) (A : Option Addr) (c : Nat) (l : List Sp) (hl : l.length ≤ 1048576) (w : World) (hBx : Bx < n₀) (hn₀ : n₀ ≤ w.heap.size)
    (hc : w.cell? ⟨Bx, 0, none⟩ = some (.slice A l.length c)) (hA : Ss w n₀ A l) :
    SeqStopsK F m Try.prog 38 #[.pointer (some ⟨Bx, 0, none⟩)] bkV (Below n₀) (fun ys => ys = bkS l l.length) (fun pre => ∃ k, k ≤ l.length ∧ pre = bkS l k) l.length w := fun q J Jx W hW _ _ hY h0 =>
  back1_in F m h8 hro hm q Bx n₀ A c l hl hBx J Jx hY W ((hW.cell (p := ⟨Bx, 0, none⟩) (by show Bx < _; omega)).trans hc) (hA.below (hW.mono hn₀)) h0
end Go.Proofs.Ytdlkgcbiekilhaa
