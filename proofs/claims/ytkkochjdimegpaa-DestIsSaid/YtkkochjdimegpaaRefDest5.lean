/-
  The document's own Last (hornbookref08).
-/
import Derived.Test.YtkkochjdimegpaaRefDest3
import Derived.Handy
namespace Go.Proofs.Ytkkochjdimegpaa
open Go.RowKit
attribute [local go_sem ↓] Go.wp_at_zero Go.wp_at_succ

set_option maxRecDepth 100000 in
set_option maxHeartbeats 4000000 in
theorem rDLast_any (A : Option Addr) (c : Nat) (l : List Me) (n v : Int) (w : World) (hA : Sd w A l) (hl : l.length ≤ 1048576) (hul : ∀ m ∈ l, m.b.u.length ≤ 9223372036854775807) :
    Calls Try.prog 15 #[.slice A l.length c, .agg #[.int .i64 n, .int .i64 v]] w (RetO w (lastB (pl l) n v)) := by
  have HA := Lib.hid hA
  have HU := Lib.hid hul
  obtain ⟨r, hr⟩ : ∃ r, r = lastB (pl l) n v := ⟨_, rfl⟩
  rw [← hr]
  have HR := Lib.hid hr
  obtain ⟨k, hk⟩ : ∃ k, k = l.length := ⟨_, rfl⟩
  have HK := Lib.hid hk
  rw [← hk] at hl ⊢
  have hb0 : Below w.heap.size w (w.alloc (.cells #[.int .i64 n, .int .i64 v] 27)) := (Below.refl _ _).alloc (Nat.le_refl _) _
  have hd0 := Cd.new w n v 27
  have hz0 : w.heap.size < (w.alloc (.cells #[.int .i64 n, .int .i64 v] 27)).heap.size := by simp
  clear hA hr hk hul
  go_enter Try.func15, Try.ntmps15
  go_wp2
  go_loopw [6] (fun s wr => ∃ J : Nat, J ≤ k ∧ s = .int .i64 ((J : Int) - 1) ∧ Hid (lastB ((pl l).drop J) n v = none) ∧ Below w.heap.size w wr ∧ Cd wr w.heap.size n v ∧ w.heap.size < wr.heap.size) (fun s _ => (intOf s + 1).toNat)
  case atStart => exact ⟨k, Nat.le_refl _, rfl, Lib.hid (by rw [HK.out, ← pl_length, List.drop_length]; rfl), hb0, hd0, hz0⟩
  case round =>
    clear hb0 hd0 hz0
    obtain ⟨J, hJ, rfl, HJ, hbel, hd, hz⟩ := hrel
    cases J with
    | zero =>
      have t0 : decide ((0 : Int) ≤ ((0 : Nat) : Int) - 1) = false := by decide
      have hrn : r = none := by rw [HR.out]; exact HJ.out
      have HN := Lib.hid hrn
      clear hrn hd
      go_wp2
      go_returns
      rw [HN.out]
      exact ⟨rfl, hbel⟩
    | succ j =>
      have ej : (((j + 1 : Nat) : Int) - 1) = (j : Int) := by omega
      rw [ej]
      have t0 : decide ((0 : Int) ≤ (j : Int)) = true := decide_eq_true (by omega)
      have hjk : j < k := by omega
      have hx := List.getElem?_eq_getElem (l := l) (i := j) (by have := HK.out; omega)
      generalize l[j]'(by have := HK.out; omega) = x at *
      have hxp := pl_get hx
      have hdr : (pl l).drop j = x.b :: (pl l).drop (j + 1) := by
        obtain ⟨h1, h2⟩ := List.getElem?_eq_some_iff.1 hxp
        rw [List.drop_eq_getElem_cons h1, h2]
      obtain ⟨b, o, rfl, hb, hx4⟩ := (HA.out.over hbel).rd.at hx
      have hux := HA.out.ul x (List.mem_of_getElem? hx)
      have hxl := HU.out x (List.mem_of_getElem? hx)
      have hlj : lastB ((pl l).drop j) n v = toB x.b n v := by rw [hdr, lastB, HJ.out, Option.none_or]
      have hll : r = (toB x.b n v).or (lastB ((pl l).take j) n v) := by
        rw [HR.out, ← hlj, ← lastB_append, List.take_append_drop]
      have HLJ := Lib.hid hlj
      have HLL := Lib.hid hll
      have HH : Hid (∀ w', Below wr.heap.size wr w' → (w'.cell? ⟨b, o + j * 4, none⟩ = some (.int .i64 x.b.n) ∧ w'.cell? ⟨b, o + j * 4 + 1, none⟩ = some (.int .i64 x.b.lo) ∧ w'.cell? ⟨b, o + j * 4 + 2, none⟩ = some (.int .i64 x.b.hi) ∧ w'.cell? ⟨b, o + j * 4 + 3, none⟩ = some (.slice x.a x.b.u.length x.c)) ∧ w'.cell? ⟨w.heap.size, 0, none⟩ = some (.int .i64 n) ∧ w'.cell? ⟨w.heap.size, 1, none⟩ = some (.int .i64 v)) := Lib.hid fun w' hw => by
        have q := hx4.keep (w' := w') fun i => hw.cell (p := ⟨b, i, none⟩) hb
        have p := hd.below hw hz
        exact ⟨⟨q.c0, q.c1, q.c2, q.c3⟩, p.c0, p.c1⟩
      have HDD : Hid (∀ w', Below wr.heap.size wr w' → Below w.heap.size w w' ∧ Cd w' w.heap.size n v ∧ w.heap.size < w'.heap.size) := Lib.hid fun w' hw => ⟨hbel.trans (hw.mono hbel.size), hd.below hw hz, Nat.lt_of_lt_of_le hz hw.size⟩
      have K1 : Hid (∀ W, Below wr.heap.size wr W → Calls Try.prog 13 #[fv x, .agg #[.int .i64 n, .int .i64 v]] W (RetO W (toB x.b n v))) := Lib.hid (fun W hW => rDTo_any x n v W (hux.over (hbel.trans (hW.mono hbel.size))) hxl)
      unfold fv at K1
      have z0 : Below wr.heap.size wr wr.drew := (Below.refl _ _).drew
      clear hx hx4 hd hlj hll hdr ej hxp hux hxl
      cases ht : toB x.b n v with
      | none =>
        rw [ht] at K1
        unfold RetO at K1
        dsimp only at K1
        have HT := Lib.hid ht
        clear ht
        go_wp2_with fail
        go_region_held (fun w' => (w'.cell? ⟨b, o + j * 4, none⟩ = some (.int .i64 x.b.n) ∧ w'.cell? ⟨b, o + j * 4 + 1, none⟩ = some (.int .i64 x.b.lo) ∧ w'.cell? ⟨b, o + j * 4 + 2, none⟩ = some (.int .i64 x.b.hi) ∧ w'.cell? ⟨b, o + j * 4 + 3, none⟩ = some (.slice x.a x.b.u.length x.c)) ∧ w'.cell? ⟨w.heap.size, 0, none⟩ = some (.int .i64 n) ∧ w'.cell? ⟨w.heap.size, 1, none⟩ = some (.int .i64 v))
          (first | with_reducible exact HH.out _ z8 | with_reducible exact HH.out _ z0)
          ((go_at_call 13; with_reducible refine (K1.out _ z0).mono ?_; rintro e W1 ⟨rfl, y8⟩; have z8 := z0.trans (y8.mono z0.size)))
        all_goals
          go_wp2
          refine ⟨⟨j, by omega, by first | rfl | go_num, Lib.hid (by rw [HLJ.out, HT.out]), HDD.out _ z8⟩, by simp [intOf]⟩
      | some y =>
        rw [ht] at K1
        unfold RetO at K1
        dsimp only at K1
        have hrn : r = some y := by rw [HLL.out, ht]; rfl
        have HN := Lib.hid hrn
        clear ht hrn
        go_wp2_with fail
        go_region_held (fun w' => (w'.cell? ⟨b, o + j * 4, none⟩ = some (.int .i64 x.b.n) ∧ w'.cell? ⟨b, o + j * 4 + 1, none⟩ = some (.int .i64 x.b.lo) ∧ w'.cell? ⟨b, o + j * 4 + 2, none⟩ = some (.int .i64 x.b.hi) ∧ w'.cell? ⟨b, o + j * 4 + 3, none⟩ = some (.slice x.a x.b.u.length x.c)) ∧ w'.cell? ⟨w.heap.size, 0, none⟩ = some (.int .i64 n) ∧ w'.cell? ⟨w.heap.size, 1, none⟩ = some (.int .i64 v))
          (first | with_reducible exact HH.out _ z8 | with_reducible exact HH.out _ z0)
          ((go_at_call 13; with_reducible refine (K1.out _ z0).mono ?_; rintro e W1 ⟨⟨ra, rc, rfl, hut⟩, y8⟩; have z8 := z0.trans (y8.mono z0.size)))
        all_goals
          go_wp2
          go_returns
          rw [HN.out]
          exact ⟨⟨ra, rc, rfl, hut⟩, (HDD.out _ z8).1⟩
end Go.Proofs.Ytkkochjdimegpaa
