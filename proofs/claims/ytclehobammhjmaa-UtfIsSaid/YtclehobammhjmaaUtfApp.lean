/-
  unicode/utf8.AppendRune onto bytes that the call made itself: a scalar value's form goes in behind them.
-/
import Derived.Test.YtclehobammhjmaaUtfEnc
import Derived.Laws.BitsLemmas
namespace Go.Proofs.Ytclehobammhjmaa
open Go.RowKit

/-- A row of bytes of the call's own is handed back. -/
def RetOwn (B : Nat) (w : World) (n : Nat) (xs : List Value) (e : Ending) (w' : World) : Prop :=
  ∃ v', e = .returned v' ∧ w'.ownsRow B 5 1 v' n xs ∧ Below B w w'

theorem bvs_b8 {n : Int} (h0 : 0 ≤ n) (h1 : n < 256) : Value.int .u8 ((b8 n).toNat : Int) = .int .u8 n := by rw [b8_toNat h0 h1]
theorem bvs_form1 {r : Int} (h0 : 0 ≤ r) (h1 : r < 128) : bvs (formV r) = [.int .u8 r] := by
  simp only [formV, h1, if_true, bvs, List.map_cons, List.map_nil]
  rw [b8_toNat h0 (by omega)]
theorem bvs_form2 {r : Int} (h0 : 128 ≤ r) (h1 : r ≤ 2047) : bvs (formV r) = [.int .u8 (192 + r / 64), .int .u8 (128 + r % 64)] := by
  unfold formV
  rw [if_neg (by omega), if_pos (by omega)]
  simp only [bvs, List.map_cons, List.map_nil]
  rw [b8_toNat (by omega) (by omega), b8_toNat (by omega) (by omega)]
theorem bvs_form3 {r : Int} (h0 : 2048 ≤ r) (h1 : r ≤ 65535) : bvs (formV r) = [.int .u8 (224 + r / 4096), .int .u8 (128 + r / 64 % 64), .int .u8 (128 + r % 64)] := by
  unfold formV
  rw [if_neg (by omega), if_neg (by omega), if_pos (by omega)]
  simp only [bvs, List.map_cons, List.map_nil]
  rw [b8_toNat (by omega) (by omega), b8_toNat (by omega) (by omega), b8_toNat (by omega) (by omega)]
theorem bvs_form4 {r : Int} (h0 : 65536 ≤ r) (h1 : r ≤ 1114111) : bvs (formV r) = [.int .u8 (240 + r / 262144), .int .u8 (128 + r / 4096 % 64), .int .u8 (128 + r / 64 % 64), .int .u8 (128 + r % 64)] := by
  unfold formV
  rw [if_neg (by omega), if_neg (by omega), if_neg (by omega)]
  simp only [bvs, List.map_cons, List.map_nil]
  rw [b8_toNat (by omega) (by omega), b8_toNat (by omega) (by omega), b8_toNat (by omega) (by omega), b8_toNat (by omega) (by omega)]

set_option maxHeartbeats 1000000 in
theorem app1 (B : Nat) (v : Value) (n : Nat) (xs : List Value) (r : Int) (h0 : 0 ≤ r) (h1 : r ≤ 127) (w : World) (hown : w.ownsRow B 5 1 v n xs) (hn : n ≤ 1048576) (hB : B ≤ w.heap.size) :
    Calls Try.prog 34 #[v, .int .i32 r] w (RetOwn B w (n + 1) (xs ++ [.int .u8 r])) := by
  obtain ⟨i0, hi, hz0, hz1, hz2⟩ := info_parts info8
  go_enter Try.func34, Try.ntmps34
  go_wp2_with (at_builtin; refine wpList_append_lies _ rfl _ _ _ rfl B 5 i0 (.int .u8 0) 1 1 Try.underlying23 hi hz0 hz1 hz2 rfl (by omega) v _ _ rfl (hown.alloc _) ⟨w.heap.size, 0, none⟩ 1 1 [.int .u8 r] rfl rfl (World.news_of_block (heap_alloc_new w _)) (by intro u hu; simp at hu; rcases hu with rfl <;> rfl) (by omega) (by unfold maxLen; omega) (by omega) (by simp; omega) _ rfl ?_; intro g cap w1 hown1 hgrow hat hgl)
  go_ret
  exact ⟨_, rfl, hown1, ((Below.refl _ _).alloc hB _).grown hgrow (by simp; omega) (fun q hq => (hown.lt q hq).1)⟩
set_option maxHeartbeats 1000000 in
theorem app2 (B : Nat) (v : Value) (n : Nat) (xs : List Value) (r : Int) (h0 : 128 ≤ r) (h1 : r ≤ 2047) (w : World) (hown : w.ownsRow B 5 1 v n xs) (hn : n ≤ 1048576) (hB : B ≤ w.heap.size) :
    Calls Try.prog 38 #[v, .int .i32 r] w (RetOwn B w (n + 2) (xs ++ [.int .u8 (192 + r / 64), .int .u8 (128 + r % 64)])) := by
  obtain ⟨i0, hi, hz0, hz1, hz2⟩ := info_parts info8
  go_enter Try.func38, Try.ntmps38
  go_wp2_with (at_builtin; refine wpList_append_lies _ rfl _ _ _ rfl B 5 i0 (.int .u8 0) 1 1 Try.underlying23 hi hz0 hz1 hz2 rfl (by omega) v _ _ rfl (hown.alloc _) ⟨w.heap.size, 0, none⟩ 2 2 [.int .u8 (192 + r / 64), .int .u8 (128 + r % 64)] rfl rfl (World.news_of_block (heap_alloc_new w _)) (by intro u hu; simp at hu; rcases hu with rfl | rfl <;> rfl) (by omega) (by unfold maxLen; omega) (by omega) (by simp; omega) _ rfl ?_; intro g cap w1 hown1 hgrow hat hgl)
  go_ret
  exact ⟨_, rfl, hown1, ((Below.refl _ _).alloc hB _).grown hgrow (by simp; omega) (fun q hq => (hown.lt q hq).1)⟩
set_option maxHeartbeats 1000000 in
theorem app3lo (B : Nat) (v : Value) (n : Nat) (xs : List Value) (r : Int) (h0 : 2048 ≤ r) (h1 : r < 55296) (w : World) (hown : w.ownsRow B 5 1 v n xs) (hn : n ≤ 1048576) (hB : B ≤ w.heap.size) :
    Calls Try.prog 38 #[v, .int .i32 r] w (RetOwn B w (n + 3) (xs ++ [.int .u8 (224 + r / 4096), .int .u8 (128 + r / 64 % 64), .int .u8 (128 + r % 64)])) := by
  obtain ⟨i0, hi, hz0, hz1, hz2⟩ := info_parts info8
  go_enter Try.func38, Try.ntmps38
  go_wp2_with (at_builtin; refine wpList_append_lies _ rfl _ _ _ rfl B 5 i0 (.int .u8 0) 1 1 Try.underlying23 hi hz0 hz1 hz2 rfl (by omega) v _ _ rfl (hown.alloc _) ⟨w.heap.size, 0, none⟩ 3 3 [.int .u8 (224 + r / 4096), .int .u8 (128 + r / 64 % 64), .int .u8 (128 + r % 64)] rfl rfl (World.news_of_block (heap_alloc_new w _)) (by intro u hu; simp at hu; rcases hu with rfl | rfl | rfl <;> rfl) (by omega) (by unfold maxLen; omega) (by omega) (by simp; omega) _ rfl ?_; intro g cap w1 hown1 hgrow hat hgl)
  go_ret
  exact ⟨_, rfl, hown1, ((Below.refl _ _).alloc hB _).grown hgrow (by simp; omega) (fun q hq => (hown.lt q hq).1)⟩
set_option maxHeartbeats 1000000 in
theorem app3hi (B : Nat) (v : Value) (n : Nat) (xs : List Value) (r : Int) (h0 : 57343 < r) (h1 : r ≤ 65535) (w : World) (hown : w.ownsRow B 5 1 v n xs) (hn : n ≤ 1048576) (hB : B ≤ w.heap.size) :
    Calls Try.prog 38 #[v, .int .i32 r] w (RetOwn B w (n + 3) (xs ++ [.int .u8 (224 + r / 4096), .int .u8 (128 + r / 64 % 64), .int .u8 (128 + r % 64)])) := by
  obtain ⟨i0, hi, hz0, hz1, hz2⟩ := info_parts info8
  go_enter Try.func38, Try.ntmps38
  go_wp2_with (at_builtin; refine wpList_append_lies _ rfl _ _ _ rfl B 5 i0 (.int .u8 0) 1 1 Try.underlying23 hi hz0 hz1 hz2 rfl (by omega) v _ _ rfl (hown.alloc _) ⟨w.heap.size, 0, none⟩ 3 3 [.int .u8 (224 + r / 4096), .int .u8 (128 + r / 64 % 64), .int .u8 (128 + r % 64)] rfl rfl (World.news_of_block (heap_alloc_new w _)) (by intro u hu; simp at hu; rcases hu with rfl | rfl | rfl <;> rfl) (by omega) (by unfold maxLen; omega) (by omega) (by simp; omega) _ rfl ?_; intro g cap w1 hown1 hgrow hat hgl)
  go_ret
  exact ⟨_, rfl, hown1, ((Below.refl _ _).alloc hB _).grown hgrow (by simp; omega) (fun q hq => (hown.lt q hq).1)⟩
set_option maxHeartbeats 1000000 in
theorem app4 (B : Nat) (v : Value) (n : Nat) (xs : List Value) (r : Int) (h0 : 65536 ≤ r) (h1 : r ≤ 1114111) (w : World) (hown : w.ownsRow B 5 1 v n xs) (hn : n ≤ 1048576) (hB : B ≤ w.heap.size) :
    Calls Try.prog 38 #[v, .int .i32 r] w (RetOwn B w (n + 4) (xs ++ [.int .u8 (240 + r / 262144), .int .u8 (128 + r / 4096 % 64), .int .u8 (128 + r / 64 % 64), .int .u8 (128 + r % 64)])) := by
  obtain ⟨i0, hi, hz0, hz1, hz2⟩ := info_parts info8
  go_enter Try.func38, Try.ntmps38
  go_wp2_with (at_builtin; refine wpList_append_lies _ rfl _ _ _ rfl B 5 i0 (.int .u8 0) 1 1 Try.underlying23 hi hz0 hz1 hz2 rfl (by omega) v _ _ rfl (hown.alloc _) ⟨w.heap.size, 0, none⟩ 4 4 [.int .u8 (240 + r / 262144), .int .u8 (128 + r / 4096 % 64), .int .u8 (128 + r / 64 % 64), .int .u8 (128 + r % 64)] rfl rfl (World.news_of_block (heap_alloc_new w _)) (by intro u hu; simp at hu; rcases hu with rfl | rfl | rfl | rfl <;> rfl) (by omega) (by unfold maxLen; omega) (by omega) (by simp; omega) _ rfl ?_; intro g cap w1 hown1 hgrow hat hgl)
  go_ret
  exact ⟨_, rfl, hown1, ((Below.refl _ _).alloc hB _).grown hgrow (by simp; omega) (fun q hq => (hown.lt q hq).1)⟩
theorem appNon (B : Nat) (v : Value) (n : Nat) (xs : List Value) (r : Int) (hg : goodB r = true) (h0 : 128 ≤ r) (w : World) (hown : w.ownsRow B 5 1 v n xs) (hn : n ≤ 1048576) (hB : B ≤ w.heap.size) :
    Calls Try.prog 38 #[v, .int .i32 r] w (RetOwn B w (n + (formV r).length) (xs ++ bvs (formV r))) := by
  have hb := (goodB_iff r).1 hg
  by_cases c1 : r ≤ 2047
  · have hl : (formV r).length = 2 := by rw [← bvs_length, bvs_form2 h0 c1]; rfl
    rw [hl, bvs_form2 h0 c1]
    exact app2 B v n xs r h0 c1 w hown hn hB
  by_cases c2 : r ≤ 65535
  · have hl : (formV r).length = 3 := by rw [← bvs_length, bvs_form3 (by omega) c2]; rfl
    rw [hl, bvs_form3 (by omega) c2]
    by_cases c3 : r < 55296
    · exact app3lo B v n xs r (by omega) c3 w hown hn hB
    · exact app3hi B v n xs r (by omega) c2 w hown hn hB
  · have hl : (formV r).length = 4 := by rw [← bvs_length, bvs_form4 (by omega) (by omega)]; rfl
    rw [hl, bvs_form4 (by omega) (by omega)]
    exact app4 B v n xs r (by omega) (by omega) w hown hn hB
set_option maxHeartbeats 1000000 in
theorem AppendRune_any (B : Nat) (v : Value) (n : Nat) (xs : List Value) (r : Int) (hg : goodB r = true) (w : World) (hown : w.ownsRow B 5 1 v n xs) (hn : n ≤ 1048576) (hB : B ≤ w.heap.size) :
    Calls Try.prog 34 #[v, .int .i32 r] w (RetOwn B w (n + (formV r).length) (xs ++ bvs (formV r))) := by
  have hb := (goodB_iff r).1 hg
  by_cases c1 : r ≤ 127
  · have hl : (formV r).length = 1 := by rw [← bvs_length, bvs_form1 hb.1 (by omega)]; rfl
    rw [hl, bvs_form1 hb.1 (by omega)]
    exact app1 B v n xs r hb.1 c1 w hown hn hB
  · have hc := appNon B v n xs r hg (by omega) w hown hn hB
    have r0 : 128 ≤ r := by omega
    have r1 : r ≤ 1114111 := hb.2.1
    have HC := Lib.hid hc
    clear hc hg hb
    generalize n + (formV r).length = m at *
    generalize xs ++ bvs (formV r) = ys at *
    go_enter Try.func34, Try.ntmps34
    go_wp2_with (go_at_call 38; refine HC.out.mono ?_; rintro e w1 ⟨v', rfl, hown1, hb1⟩)
    go_ret
    exact ⟨_, rfl, hown1, hb1⟩
end Go.Proofs.Ytclehobammhjmaa
