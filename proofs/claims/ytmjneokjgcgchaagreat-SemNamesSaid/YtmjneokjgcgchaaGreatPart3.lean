/-
  Parts of this proof, one behind the other: SpanRun, SpanFind, SpanFind2, DestPure, DestOver, DestMem, DestPro1, Info64, DestPro2, DestClone, DestUnits, DestFrom, DestUp, TkDef, SynIt, Nest.
-/
import Derived.Test.YtmjneokjgcgchaaGreatPart2
import Derived.Deep.RegionHeld
import Derived.Deep.DrawnRows
import Derived.Handy
import Derived.Laws.StructEq
import Derived.BigQuiet
import Derived.Deep.QuietTactic
import Derived.Lib.Hide
import Derived.Laws.AppendOwnNone
import Derived.Laws.OwnMore
import Derived.Deep.AppendLies
import Derived.Test.YtmjneokjgcgchaaGreatProg
import Derived.WalkKit
import Derived.Deep.RegionWith
/-
  How many of some, from the first one on, are a table: plainly; the program's own run and Canon.
-/
namespace Go.Proofs.YtmjneokjgcgchaaGreat
open Go.RowKit
attribute [local go_sem ↓] Go.wp_at_zero Go.wp_at_succ

/-- May the one at i stand where it stands? -/
def okAt (st : Bool) (l : List Sp) (i : Nat) : Prop := ∀ s, l[i]? = some s → Sn st s ∧ ∀ j a, i = j + 1 → l[j]? = some a → Rq st a s
/-- All ahead of k may stand where they stand. -/
def Okk (st : Bool) (l : List Sp) (k : Nat) : Prop := ∀ i, i < k → okAt st l i
section
variable {st : Bool} {l : List Sp}
theorem Okk.cn (h : Okk st l l.length) : Cn st l := by
  have hs : ∀ (i : Nat) (s : Sp), l[i]? = some s → Sn st s := fun i s hx => (h i (List.getElem?_eq_some_iff.1 hx).1 s hx).1
  have key : ∀ d i (a b : Sp), l[i]? = some a → l[i + 1 + d]? = some b → Rq st a b := by
    intro d
    induction d with
    | zero => exact fun i a b ha hb => (h (i + 1) (List.getElem?_eq_some_iff.1 hb).1 b hb).2 i a rfl ha
    | succ d ih =>
      intro i a b ha hb
      have hlt := (List.getElem?_eq_some_iff.1 hb).1
      obtain ⟨c, hc⟩ : ∃ c, l[i + 1 + d]? = some c := ⟨_, List.getElem?_eq_getElem (by omega)⟩
      have r1 := ih i a c ha hc
      have r2 := (h (i + 1 + d + 1) (by omega) b hb).2 (i + 1 + d) c rfl hc
      have hcl := (hs _ _ hc).2.2.1
      have hbl := (hs _ _ hb).2.2.1
      refine ⟨r1.1.trans r2.1 hcl, fun hj => ?_⟩
      have k1 := r1.1
      have k2 := r2.1
      obtain ⟨j1, j2, _⟩ := hj
      unfold ahS at k1 k2
      omega
  refine ⟨fun s hm => ?_, ?_⟩
  · obtain ⟨i, hi, e⟩ := List.getElem_of_mem hm
    exact hs i s (by rw [List.getElem?_eq_getElem hi, e])
  · rw [List.pairwise_iff_getElem]
    intro i j hi hj hij
    exact key (j - i - 1) i _ _ (List.getElem?_eq_getElem hi) (by rw [show i + 1 + (j - i - 1) = j by omega]; exact List.getElem?_eq_getElem hj)
theorem Cn.okk (h : Cn st l) (k : Nat) : Okk st l k := fun i _ s hs => ⟨h.1 s (List.mem_of_getElem? hs), fun j a e ha => by
  subst e
  have h2 := List.pairwise_iff_getElem.1 h.2 j (j + 1) (List.getElem?_eq_some_iff.1 ha).1 (List.getElem?_eq_some_iff.1 hs).1 (by omega)
  rw [(List.getElem?_eq_some_iff.1 ha).2, (List.getElem?_eq_some_iff.1 hs).2] at h2
  exact h2⟩
theorem Okk.more {k : Nat} (h : Okk st l k) (hk : okAt st l k) : Okk st l (k + 1) := fun i hi => by
  rcases Nat.lt_or_ge i k with h1 | h1
  · exact h i h1
  · rw [show i = k by omega]
    exact hk
end
/-- What run tells: all ahead may stand, the one there may not. -/
def RunR (st : Bool) (l : List Sp) (k : Nat) : Prop := k ≤ l.length ∧ Okk st l k ∧ (k < l.length → ¬ okAt st l k)
set_option maxRecDepth 100000 in
set_option maxHeartbeats 4000000 in
theorem run_any (st : Bool) (A : Option Addr) (c : Nat) (l : List Sp) (w : World) (hA : Ss w w.heap.size A l) (hl : l.length ≤ 1048576) :
    Calls Tryz.prog 95 #[.slice A l.length c, .bool st] w fun e w' => (∃ k : Nat, RunR st l k ∧ e = .returned (.int .i64 (k : Int))) ∧ Below w.heap.size w w' := by
  have HA := Lib.hid hA
  obtain ⟨n, hn⟩ : ∃ n, n = l.length := ⟨_, rfl⟩
  have HN := Lib.hid hn
  rw [← hn] at hl ⊢
  clear hn hA
  go_enter Tryz.func95, Tryz.ntmps95
  go_wp2
  go_loopw [9] (fun i wr => ∃ k : Nat, k ≤ n ∧ i = .int .i64 (k : Int) ∧ Hid (Okk st l k) ∧ Below w.heap.size w wr) (fun i _ => n - (intOf i).toNat)
  case atStart => exact ⟨0, Nat.zero_le _, rfl, Lib.hid (fun i hi => by omega), Below.refl _ _⟩
  case round =>
    obtain ⟨k, hk, rfl, HO, hbel⟩ := hrel
    have hsz := hbel.size
    by_cases hlt : k < n
    · have t0 : decide (k < n) = true := decide_eq_true hlt
      have hx := List.getElem?_eq_getElem (l := l) (i := k) (by have := HN.out; omega)
      generalize l[k]'(by have := HN.out; omega) = x at *
      obtain ⟨b, o, rfl, hb, ⟨y0, y1, y2, y3⟩⟩ := (HA.out.below hbel).at hx
      have K1 := Lib.hid (fun W => SSane_any st x W)
      unfold sv at K1
      have HX := Lib.hid hx
      clear hx
      have z2 : ∀ W, Below (wr.alloc (.cells #[.int .i64 x.n, .int .i64 x.lo, .int .i64 x.hi, .int .i64 x.to] 87)).heap.size (wr.alloc (.cells #[.int .i64 x.n, .int .i64 x.lo, .int .i64 x.hi, .int .i64 x.to] 87)) W → Bs W wr.heap.size x ∧ Below w.heap.size w W := fun W hW =>
        ⟨Bs.below (Bs.new _ _ _) hW (by simp), (hbel.alloc hsz _).trans (hW.mono (by simp; omega))⟩
      have Z2 := Lib.hid z2
      have z0 : Below (wr.alloc (.cells #[.int .i64 x.n, .int .i64 x.lo, .int .i64 x.hi, .int .i64 x.to] 87)).heap.size (wr.alloc (.cells #[.int .i64 x.n, .int .i64 x.lo, .int .i64 x.hi, .int .i64 x.to] 87)) (wr.alloc (.cells #[.int .i64 x.n, .int .i64 x.lo, .int .i64 x.hi, .int .i64 x.to] 87)).drew := (Below.refl _ _).drew
      clear z2
      by_cases hs : Sn st x
      · rw [decide_eq_true hs] at K1
        have HS := Lib.hid hs
        clear hs
        cases k with
        | zero =>
          simp only [Nat.zero_mul, Nat.add_zero] at y0 y1 y2 y3
          have HH : Hid (∀ w', Below (wr.alloc (.cells #[.int .i64 x.n, .int .i64 x.lo, .int .i64 x.hi, .int .i64 x.to] 87)).heap.size (wr.alloc (.cells #[.int .i64 x.n, .int .i64 x.lo, .int .i64 x.hi, .int .i64 x.to] 87)) w' → (fun w' => w'.cell? ⟨wr.heap.size, 0, none⟩ = some (.int .i64 x.n) ∧ w'.cell? ⟨wr.heap.size, 1, none⟩ = some (.int .i64 x.lo) ∧ w'.cell? ⟨wr.heap.size, 2, none⟩ = some (.int .i64 x.hi) ∧ w'.cell? ⟨wr.heap.size, 3, none⟩ = some (.int .i64 x.to)) w') := Lib.hid fun w' hb => by
            have p := (Z2.out w' hb).1
            exact ⟨p.c0, p.c1, p.c2, p.c3⟩
          go_wp2_with fail
          clear y0 y1 y2 y3
          refine wp_region_held_drew (S := fun w' => w'.cell? ⟨wr.heap.size, 0, none⟩ = some (.int .i64 x.n) ∧ w'.cell? ⟨wr.heap.size, 1, none⟩ = some (.int .i64 x.lo) ∧ w'.cell? ⟨wr.heap.size, 2, none⟩ = some (.int .i64 x.hi) ∧ w'.cell? ⟨wr.heap.size, 3, none⟩ = some (.int .i64 x.to)) (by kernel_rfl) (HH.out _ z0) (fun hS0 => ?_)
          try dsimp only at hS0
          refine wpAnyH_take (i := 0) (oi := { dst := some 14, op := Op.load 87 (Operand.tmp 6), type := 87, pos := "span.go:65", after := #[], guard := none }) (v := ?_) rfl (by kernel_rfl) (by kernel_rfl) (by kernel_rfl) (fun _ _ _ h => h) (Or.inl ⟨by rfl, ?_⟩) (by assumption) ?_
          rotate_left
          · intro w' hSw; obtain ⟨d0, d1, d2, d3⟩ := hSw; go_simp; try with_reducible rfl
          simp only [Act.put, List.setIfInBounds_toArray, List.set_cons_zero, List.set_cons_succ]
          refine wpAnyH_take (i := 1) (oi := { dst := some 15, op := Op.move (Operand.tmp 1), type := 4, pos := "span.go:65", after := #[], guard := none }) (v := ?_) rfl (by kernel_rfl) (by kernel_rfl) (by kernel_rfl) (fun _ _ _ h => h) (Or.inl ⟨by rfl, ?_⟩) (by assumption) ?_
          rotate_left
          · intro w' hSw; obtain ⟨d0, d1, d2, d3⟩ := hSw; go_simp; try with_reducible rfl
          simp only [Act.put, List.setIfInBounds_toArray, List.set_cons_zero, List.set_cons_succ]
          refine wpAnyH_ready (rs := [2]) (by kernel_rfl) (by simp) (AllReadyH.cons rfl (fun K hK => ?_) AllReadyH.nil)
          go_simp
          go_wp2_with ((go_at_call 105; with_reducible refine (K1.out _).mono ?_; rintro e x1 ⟨rfl, y8⟩))
          have z1 := z0.trans (y8.mono z0.size)
          refine hK.out _ _ (HH.out _ z1) (fun hS2 => ?_)
          clear hK K
          try dsimp only at hS2
          refine wpAnyH_take (i := 3) (oi := { dst := some 17, op := Op.unOp UnOp.not 4 (Operand.tmp 16), type := 4, pos := "span.go:65", after := #[{ on := 2, ground := Ground.data }], guard := none }) (v := ?_) rfl (by kernel_rfl) (by kernel_rfl) (by kernel_rfl) (fun _ _ _ h => h) (Or.inl ⟨by rfl, ?_⟩) (by assumption) ?_
          rotate_left
          · intro w' hSw; obtain ⟨d0, d1, d2, d3⟩ := hSw; go_simp; try with_reducible rfl
          simp only [Act.put, List.setIfInBounds_toArray, List.set_cons_zero, List.set_cons_succ]
          refine wpAnyH_take (i := 4) (oi := { dst := some 18, op := Op.move (Operand.tmp 17), type := 4, pos := "span.go:65", after := #[{ on := 3, ground := Ground.data }, { on := 2, ground := Ground.chain }], guard := none }) (v := ?_) rfl (by kernel_rfl) (by kernel_rfl) (by kernel_rfl) (fun _ _ _ h => h) (Or.inl ⟨by rfl, ?_⟩) (by assumption) ?_
          rotate_left
          · intro w' hSw; obtain ⟨d0, d1, d2, d3⟩ := hSw; go_simp; try with_reducible rfl
          simp only [Act.put, List.setIfInBounds_toArray, List.set_cons_zero, List.set_cons_succ]
          refine wpAnyH_take (i := 5) (oi := { dst := some 19, op := Op.move (Operand.tmp 5), type := 3, pos := "span.go:65", after := #[{ on := 4, ground := Ground.guard }], guard := some (4, false) }) (v := ?_) rfl (by kernel_rfl) (by kernel_rfl) (by kernel_rfl) (fun _ _ _ h => h) (Or.inl ⟨by rfl, ?_⟩) (by assumption) ?_
          rotate_left
          · intro w' hSw; obtain ⟨d0, d1, d2, d3⟩ := hSw; go_simp; try with_reducible rfl
          simp only [Act.put, List.setIfInBounds_toArray, List.set_cons_zero, List.set_cons_succ]
          refine wpAnyH_take (i := 6) (oi := { dst := some 20, op := Op.binOp BinOp.gtr 3 (Operand.tmp 19) (Operand.const (Value.int IntKind.i64 0)) 3, type := 4, pos := "span.go:65", after := #[{ on := 5, ground := Ground.data }, { on := 4, ground := Ground.guard }], guard := some (4, false) }) (v := ?_) rfl (by kernel_rfl) (by kernel_rfl) (by kernel_rfl) (fun _ _ _ h => h) (Or.inl ⟨by rfl, ?_⟩) (by assumption) ?_
          rotate_left
          · intro w' hSw; obtain ⟨d0, d1, d2, d3⟩ := hSw; go_simp; try with_reducible rfl
          simp only [Act.put, List.setIfInBounds_toArray, List.set_cons_zero, List.set_cons_succ]
          refine wpAnyH_take (i := 7) (oi := { dst := some 21, op := Op.move (Operand.tmp 20), type := 4, pos := "span.go:65", after := #[{ on := 6, ground := Ground.data }, { on := 4, ground := Ground.chain }, { on := 4, ground := Ground.guard }], guard := some (4, false) }) (v := ?_) rfl (by kernel_rfl) (by kernel_rfl) (by kernel_rfl) (fun _ _ _ h => h) (Or.inl ⟨by rfl, ?_⟩) (by assumption) ?_
          rotate_left
          · intro w' hSw; obtain ⟨d0, d1, d2, d3⟩ := hSw; go_simp; try with_reducible rfl
          simp only [Act.put, List.setIfInBounds_toArray, List.set_cons_zero, List.set_cons_succ]
          refine wpAnyH_take (i := 8) (oi := { dst := some 22, op := Op.move (Operand.tmp 0), type := 24, pos := "span.go:65", after := #[{ on := 7, ground := Ground.guard }], guard := some (7, true) }) (v := undef) rfl (by kernel_rfl) (by kernel_rfl) (by kernel_rfl) (fun _ _ _ h => h) (Or.inr ⟨by rfl, rfl⟩) (by assumption) ?_
          simp only [Act.put, List.setIfInBounds_toArray, List.set_cons_zero, List.set_cons_succ]
          refine wpAnyH_take (i := 9) (oi := { dst := some 23, op := Op.move (Operand.tmp 5), type := 3, pos := "span.go:65", after := #[{ on := 7, ground := Ground.guard }], guard := some (7, true) }) (v := undef) rfl (by kernel_rfl) (by kernel_rfl) (by kernel_rfl) (fun _ _ _ h => h) (Or.inr ⟨by rfl, rfl⟩) (by assumption) ?_
          simp only [Act.put, List.setIfInBounds_toArray, List.set_cons_zero, List.set_cons_succ]
          refine wpAnyH_take (i := 10) (oi := { dst := some 24, op := Op.binOp BinOp.sub 3 (Operand.tmp 23) (Operand.const (Value.int IntKind.i64 1)) 3, type := 3, pos := "span.go:65", after := #[{ on := 9, ground := Ground.data }, { on := 7, ground := Ground.guard }], guard := some (7, true) }) (v := undef) rfl (by kernel_rfl) (by kernel_rfl) (by kernel_rfl) (fun _ _ _ h => h) (Or.inr ⟨by rfl, rfl⟩) (by assumption) ?_
          simp only [Act.put, List.setIfInBounds_toArray, List.set_cons_zero, List.set_cons_succ]
          refine wpAnyH_take (i := 11) (oi := { dst := some 25, op := Op.indexAddr 24 (Operand.tmp 22) (Operand.tmp 24), type := 0, pos := "span.go:65", after := #[{ on := 8, ground := Ground.data }, { on := 10, ground := Ground.data }, { on := 7, ground := Ground.guard }], guard := some (7, true) }) (v := undef) rfl (by kernel_rfl) (by kernel_rfl) (by kernel_rfl) (fun _ _ _ h => h) (Or.inr ⟨by rfl, rfl⟩) (by assumption) ?_
          simp only [Act.put, List.setIfInBounds_toArray, List.set_cons_zero, List.set_cons_succ]
          refine wpAnyH_take (i := 12) (oi := { dst := some 26, op := Op.load 87 (Operand.tmp 25), type := 87, pos := "span.go:65", after := #[{ on := 11, ground := Ground.data }, { on := 7, ground := Ground.guard }], guard := some (7, true) }) (v := undef) rfl (by kernel_rfl) (by kernel_rfl) (by kernel_rfl) (fun _ _ _ h => h) (Or.inr ⟨by rfl, rfl⟩) (by assumption) ?_
          simp only [Act.put, List.setIfInBounds_toArray, List.set_cons_zero, List.set_cons_succ]
          refine wpAnyH_take (i := 13) (oi := { dst := some 27, op := Op.load 87 (Operand.tmp 6), type := 87, pos := "span.go:65", after := #[{ on := 7, ground := Ground.guard }], guard := some (7, true) }) (v := undef) rfl (by kernel_rfl) (by kernel_rfl) (by kernel_rfl) (fun _ _ _ h => h) (Or.inr ⟨by rfl, rfl⟩) (by assumption) ?_
          simp only [Act.put, List.setIfInBounds_toArray, List.set_cons_zero, List.set_cons_succ]
          refine wpAnyH_take (i := 14) (oi := { dst := some 28, op := Op.call { callee := Callee.value (Operand.func 104), args := #[Operand.tmp 26, Operand.tmp 27], argTypes := #[87, 87] }, type := 4, pos := "span.go:65", after := #[{ on := 12, ground := Ground.data }, { on := 13, ground := Ground.data }, { on := 7, ground := Ground.chain }, { on := 7, ground := Ground.guard }], guard := some (7, true) }) (v := undef) rfl (by kernel_rfl) (by kernel_rfl) (by kernel_rfl) (fun _ _ _ h => h) (Or.inr ⟨by rfl, rfl⟩) (by assumption) ?_
          simp only [Act.put, List.setIfInBounds_toArray, List.set_cons_zero, List.set_cons_succ]
          refine wpAnyH_take (i := 15) (oi := { dst := some 29, op := Op.unOp UnOp.not 4 (Operand.tmp 28), type := 4, pos := "span.go:65", after := #[{ on := 14, ground := Ground.data }, { on := 7, ground := Ground.guard }], guard := some (7, true) }) (v := undef) rfl (by kernel_rfl) (by kernel_rfl) (by kernel_rfl) (fun _ _ _ h => h) (Or.inr ⟨by rfl, rfl⟩) (by assumption) ?_
          simp only [Act.put, List.setIfInBounds_toArray, List.set_cons_zero, List.set_cons_succ]
          refine wpAnyH_take (i := 16) (oi := { dst := some 30, op := Op.move (Operand.tmp 29), type := 4, pos := "span.go:65", after := #[{ on := 15, ground := Ground.data }, { on := 14, ground := Ground.chain }, { on := 7, ground := Ground.guard }], guard := some (7, true) }) (v := undef) rfl (by kernel_rfl) (by kernel_rfl) (by kernel_rfl) (fun _ _ _ h => h) (Or.inr ⟨by rfl, rfl⟩) (by assumption) ?_
          simp only [Act.put, List.setIfInBounds_toArray, List.set_cons_zero, List.set_cons_succ]
          refine wpAnyH_take (i := 17) (oi := { dst := some 31, op := Op.move (Operand.tmp 0), type := 24, pos := "span.go:65", after := #[{ on := 16, ground := Ground.guard }], guard := some (16, false) }) (v := undef) rfl (by kernel_rfl) (by kernel_rfl) (by kernel_rfl) (fun _ _ _ h => h) (Or.inr ⟨by rfl, rfl⟩) (by assumption) ?_
          simp only [Act.put, List.setIfInBounds_toArray, List.set_cons_zero, List.set_cons_succ]
          refine wpAnyH_take (i := 18) (oi := { dst := some 32, op := Op.move (Operand.tmp 5), type := 3, pos := "span.go:65", after := #[{ on := 16, ground := Ground.guard }], guard := some (16, false) }) (v := undef) rfl (by kernel_rfl) (by kernel_rfl) (by kernel_rfl) (fun _ _ _ h => h) (Or.inr ⟨by rfl, rfl⟩) (by assumption) ?_
          simp only [Act.put, List.setIfInBounds_toArray, List.set_cons_zero, List.set_cons_succ]
          refine wpAnyH_take (i := 19) (oi := { dst := some 33, op := Op.binOp BinOp.sub 3 (Operand.tmp 32) (Operand.const (Value.int IntKind.i64 1)) 3, type := 3, pos := "span.go:65", after := #[{ on := 18, ground := Ground.data }, { on := 16, ground := Ground.guard }], guard := some (16, false) }) (v := undef) rfl (by kernel_rfl) (by kernel_rfl) (by kernel_rfl) (fun _ _ _ h => h) (Or.inr ⟨by rfl, rfl⟩) (by assumption) ?_
          simp only [Act.put, List.setIfInBounds_toArray, List.set_cons_zero, List.set_cons_succ]
          refine wpAnyH_take (i := 20) (oi := { dst := some 34, op := Op.indexAddr 24 (Operand.tmp 31) (Operand.tmp 33), type := 0, pos := "span.go:65", after := #[{ on := 17, ground := Ground.data }, { on := 19, ground := Ground.data }, { on := 16, ground := Ground.guard }], guard := some (16, false) }) (v := undef) rfl (by kernel_rfl) (by kernel_rfl) (by kernel_rfl) (fun _ _ _ h => h) (Or.inr ⟨by rfl, rfl⟩) (by assumption) ?_
          simp only [Act.put, List.setIfInBounds_toArray, List.set_cons_zero, List.set_cons_succ]
          refine wpAnyH_take (i := 21) (oi := { dst := some 35, op := Op.load 87 (Operand.tmp 34), type := 87, pos := "span.go:65", after := #[{ on := 20, ground := Ground.data }, { on := 16, ground := Ground.guard }], guard := some (16, false) }) (v := undef) rfl (by kernel_rfl) (by kernel_rfl) (by kernel_rfl) (fun _ _ _ h => h) (Or.inr ⟨by rfl, rfl⟩) (by assumption) ?_
          simp only [Act.put, List.setIfInBounds_toArray, List.set_cons_zero, List.set_cons_succ]
          refine wpAnyH_take (i := 22) (oi := { dst := some 36, op := Op.load 87 (Operand.tmp 6), type := 87, pos := "span.go:65", after := #[{ on := 16, ground := Ground.guard }], guard := some (16, false) }) (v := undef) rfl (by kernel_rfl) (by kernel_rfl) (by kernel_rfl) (fun _ _ _ h => h) (Or.inr ⟨by rfl, rfl⟩) (by assumption) ?_
          simp only [Act.put, List.setIfInBounds_toArray, List.set_cons_zero, List.set_cons_succ]
          refine wpAnyH_take (i := 23) (oi := { dst := some 37, op := Op.move (Operand.tmp 1), type := 4, pos := "span.go:65", after := #[{ on := 16, ground := Ground.guard }], guard := some (16, false) }) (v := undef) rfl (by kernel_rfl) (by kernel_rfl) (by kernel_rfl) (fun _ _ _ h => h) (Or.inr ⟨by rfl, rfl⟩) (by assumption) ?_
          simp only [Act.put, List.setIfInBounds_toArray, List.set_cons_zero, List.set_cons_succ]
          refine wpAnyH_take (i := 24) (oi := { dst := some 38, op := Op.call { callee := Callee.value (Operand.func 127), args := #[Operand.tmp 35, Operand.tmp 36, Operand.tmp 37], argTypes := #[87, 87, 4] }, type := 4, pos := "span.go:65", after := #[{ on := 21, ground := Ground.data }, { on := 22, ground := Ground.data }, { on := 23, ground := Ground.data }, { on := 16, ground := Ground.chain }, { on := 16, ground := Ground.guard }], guard := some (16, false) }) (v := undef) rfl (by kernel_rfl) (by kernel_rfl) (by kernel_rfl) (fun _ _ _ h => h) (Or.inr ⟨by rfl, rfl⟩) (by assumption) ?_
          simp only [Act.put, List.setIfInBounds_toArray, List.set_cons_zero, List.set_cons_succ]
          refine wpAnyH_take (i := 25) (oi := { dst := some 39, op := Op.pick (Operand.tmp 30) (Operand.const (Value.bool true)) (Operand.tmp 38), type := 4, pos := "span.go:65", after := #[{ on := 16, ground := Ground.data }, { on := 24, ground := Ground.data }, { on := 7, ground := Ground.guard }], guard := some (7, true) }) (v := undef) rfl (by kernel_rfl) (by kernel_rfl) (by kernel_rfl) (fun _ _ _ h => h) (Or.inr ⟨by rfl, rfl⟩) (by assumption) ?_
          simp only [Act.put, List.setIfInBounds_toArray, List.set_cons_zero, List.set_cons_succ]
          refine wpAnyH_take (i := 26) (oi := { dst := some 40, op := Op.pick (Operand.tmp 21) (Operand.tmp 39) (Operand.const (Value.bool false)), type := 4, pos := "span.go:65", after := #[{ on := 7, ground := Ground.data }, { on := 25, ground := Ground.data }, { on := 4, ground := Ground.guard }], guard := some (4, false) }) (v := ?_) rfl (by kernel_rfl) (by kernel_rfl) (by kernel_rfl) (fun _ _ _ h => h) (Or.inl ⟨by rfl, ?_⟩) (by assumption) ?_
          rotate_left
          · intro w' hSw; obtain ⟨d0, d1, d2, d3⟩ := hSw; go_simp; try with_reducible rfl
          simp only [Act.put, List.setIfInBounds_toArray, List.set_cons_zero, List.set_cons_succ]
          refine wpAnyH_take (i := 27) (oi := { dst := some 41, op := Op.pick (Operand.tmp 18) (Operand.const (Value.bool true)) (Operand.tmp 40), type := 4, pos := "span.go:65", after := #[{ on := 4, ground := Ground.data }, { on := 26, ground := Ground.data }], guard := none }) (v := ?_) rfl (by kernel_rfl) (by kernel_rfl) (by kernel_rfl) (fun _ _ _ h => h) (Or.inl ⟨by rfl, ?_⟩) (by assumption) ?_
          rotate_left
          · intro w' hSw; obtain ⟨d0, d1, d2, d3⟩ := hSw; go_simp; try with_reducible rfl
          simp only [Act.put, List.setIfInBounds_toArray, List.set_cons_zero, List.set_cons_succ]
          refine wpAnyH_done (by kernel_rfl) ?_ _
          go_wp2
          refine ⟨⟨1, by omega, by go_num, Lib.hid (HO.out.more fun s hs => ?_), (Z2.out _ z1).2⟩, by simp [intOf]; omega⟩
          rw [HX.out] at hs
          cases hs
          exact ⟨HS.out, fun j a e => by omega⟩
        | succ j =>
          obtain ⟨a, ha⟩ : ∃ a, l[j]? = some a := ⟨_, List.getElem?_eq_getElem (by have := HN.out; omega)⟩
          have HAJ := Lib.hid ha
          have hj1 : j < n := by omega
          have hwr : IntKind.i64.wrap (j : Int) = (j : Int) := IntWalk.i64_in _ (by omega)
          have HH : Hid (∀ w', Below (wr.alloc (.cells #[.int .i64 x.n, .int .i64 x.lo, .int .i64 x.hi, .int .i64 x.to] 87)).heap.size (wr.alloc (.cells #[.int .i64 x.n, .int .i64 x.lo, .int .i64 x.hi, .int .i64 x.to] 87)) w' → (fun w' => (w'.cell? ⟨wr.heap.size, 0, none⟩ = some (.int .i64 x.n) ∧ w'.cell? ⟨wr.heap.size, 1, none⟩ = some (.int .i64 x.lo) ∧ w'.cell? ⟨wr.heap.size, 2, none⟩ = some (.int .i64 x.hi) ∧ w'.cell? ⟨wr.heap.size, 3, none⟩ = some (.int .i64 x.to)) ∧ (w'.cell? ⟨b, o + j * 4, none⟩ = some (.int .i64 a.n) ∧ w'.cell? ⟨b, o + j * 4 + 1, none⟩ = some (.int .i64 a.lo) ∧ w'.cell? ⟨b, o + j * 4 + 2, none⟩ = some (.int .i64 a.hi) ∧ w'.cell? ⟨b, o + j * 4 + 3, none⟩ = some (.int .i64 a.to))) w') := Lib.hid fun w' hb => by
            have p := (Z2.out w' hb).1
            obtain ⟨b2, o2, e2, _, q⟩ := (HA.out.below (Z2.out w' hb).2).at HAJ.out
            injection e2 with e2
            injection e2 with e3 e4
            subst e3 e4
            exact ⟨⟨p.c0, p.c1, p.c2, p.c3⟩, q.c0, q.c1, q.c2, q.c3⟩
          have K2 := Lib.hid (fun W => ahead_any a x W)
          have hna : Sn st a := (HO.out j (by omega) a ha).1
          have K3 := Lib.hid (fun W => joins_any st a x W hna.nr HS.out.nr)
          unfold sv at K2 K3
          clear ha hna
          by_cases h1 : ahS a x
          · rw [decide_eq_true h1] at K2
            have H1 := Lib.hid h1
            clear h1
            cases h2 : decide (jnS st a x) with
            | true =>
              rw [h2] at K3
              have H2 := Lib.hid h2
              clear h2
              go_wp2_with fail
              clear y0 y1 y2 y3
              refine wp_region_held_drew (S := fun w' => (w'.cell? ⟨wr.heap.size, 0, none⟩ = some (.int .i64 x.n) ∧ w'.cell? ⟨wr.heap.size, 1, none⟩ = some (.int .i64 x.lo) ∧ w'.cell? ⟨wr.heap.size, 2, none⟩ = some (.int .i64 x.hi) ∧ w'.cell? ⟨wr.heap.size, 3, none⟩ = some (.int .i64 x.to)) ∧ (w'.cell? ⟨b, o + j * 4, none⟩ = some (.int .i64 a.n) ∧ w'.cell? ⟨b, o + j * 4 + 1, none⟩ = some (.int .i64 a.lo) ∧ w'.cell? ⟨b, o + j * 4 + 2, none⟩ = some (.int .i64 a.hi) ∧ w'.cell? ⟨b, o + j * 4 + 3, none⟩ = some (.int .i64 a.to))) (by kernel_rfl) (HH.out _ z0) (fun hS0 => ?_)
              try dsimp only at hS0
              refine wpAnyH_take (i := 0) (oi := { dst := some 14, op := Op.load 87 (Operand.tmp 6), type := 87, pos := "span.go:65", after := #[], guard := none }) (v := ?_) rfl (by kernel_rfl) (by kernel_rfl) (by kernel_rfl) (fun _ _ _ h => h) (Or.inl ⟨by rfl, ?_⟩) (by assumption) ?_
              rotate_left
              · intro w' hSw; obtain ⟨⟨d0, d1, d2, d3⟩, e0, e1, e2, e3⟩ := hSw; go_simp; try with_reducible rfl
              simp only [Act.put, List.setIfInBounds_toArray, List.set_cons_zero, List.set_cons_succ]
              refine wpAnyH_take (i := 1) (oi := { dst := some 15, op := Op.move (Operand.tmp 1), type := 4, pos := "span.go:65", after := #[], guard := none }) (v := ?_) rfl (by kernel_rfl) (by kernel_rfl) (by kernel_rfl) (fun _ _ _ h => h) (Or.inl ⟨by rfl, ?_⟩) (by assumption) ?_
              rotate_left
              · intro w' hSw; obtain ⟨⟨d0, d1, d2, d3⟩, e0, e1, e2, e3⟩ := hSw; go_simp; try with_reducible rfl
              simp only [Act.put, List.setIfInBounds_toArray, List.set_cons_zero, List.set_cons_succ]
              refine wpAnyH_ready (rs := [2]) (by kernel_rfl) (by simp) (AllReadyH.cons rfl (fun K hK => ?_) AllReadyH.nil)
              go_simp
              go_wp2_with ((go_at_call 105; with_reducible refine (K1.out _).mono ?_; rintro e x1 ⟨rfl, y8⟩))
              have z1 := z0.trans (y8.mono z0.size)
              refine hK.out _ _ (HH.out _ z1) (fun hS2 => ?_)
              clear hK K
              try dsimp only at hS2
              refine wpAnyH_take (i := 3) (oi := { dst := some 17, op := Op.unOp UnOp.not 4 (Operand.tmp 16), type := 4, pos := "span.go:65", after := #[{ on := 2, ground := Ground.data }], guard := none }) (v := ?_) rfl (by kernel_rfl) (by kernel_rfl) (by kernel_rfl) (fun _ _ _ h => h) (Or.inl ⟨by rfl, ?_⟩) (by assumption) ?_
              rotate_left
              · intro w' hSw; obtain ⟨⟨d0, d1, d2, d3⟩, e0, e1, e2, e3⟩ := hSw; go_simp; try with_reducible rfl
              simp only [Act.put, List.setIfInBounds_toArray, List.set_cons_zero, List.set_cons_succ]
              refine wpAnyH_take (i := 4) (oi := { dst := some 18, op := Op.move (Operand.tmp 17), type := 4, pos := "span.go:65", after := #[{ on := 3, ground := Ground.data }, { on := 2, ground := Ground.chain }], guard := none }) (v := ?_) rfl (by kernel_rfl) (by kernel_rfl) (by kernel_rfl) (fun _ _ _ h => h) (Or.inl ⟨by rfl, ?_⟩) (by assumption) ?_
              rotate_left
              · intro w' hSw; obtain ⟨⟨d0, d1, d2, d3⟩, e0, e1, e2, e3⟩ := hSw; go_simp; try with_reducible rfl
              simp only [Act.put, List.setIfInBounds_toArray, List.set_cons_zero, List.set_cons_succ]
              refine wpAnyH_take (i := 5) (oi := { dst := some 19, op := Op.move (Operand.tmp 5), type := 3, pos := "span.go:65", after := #[{ on := 4, ground := Ground.guard }], guard := some (4, false) }) (v := ?_) rfl (by kernel_rfl) (by kernel_rfl) (by kernel_rfl) (fun _ _ _ h => h) (Or.inl ⟨by rfl, ?_⟩) (by assumption) ?_
              rotate_left
              · intro w' hSw; obtain ⟨⟨d0, d1, d2, d3⟩, e0, e1, e2, e3⟩ := hSw; go_simp; try with_reducible rfl
              simp only [Act.put, List.setIfInBounds_toArray, List.set_cons_zero, List.set_cons_succ]
              refine wpAnyH_take (i := 6) (oi := { dst := some 20, op := Op.binOp BinOp.gtr 3 (Operand.tmp 19) (Operand.const (Value.int IntKind.i64 0)) 3, type := 4, pos := "span.go:65", after := #[{ on := 5, ground := Ground.data }, { on := 4, ground := Ground.guard }], guard := some (4, false) }) (v := ?_) rfl (by kernel_rfl) (by kernel_rfl) (by kernel_rfl) (fun _ _ _ h => h) (Or.inl ⟨by rfl, ?_⟩) (by assumption) ?_
              rotate_left
              · intro w' hSw; obtain ⟨⟨d0, d1, d2, d3⟩, e0, e1, e2, e3⟩ := hSw; go_simp; try with_reducible rfl
              simp only [Act.put, List.setIfInBounds_toArray, List.set_cons_zero, List.set_cons_succ]
              refine wpAnyH_take (i := 7) (oi := { dst := some 21, op := Op.move (Operand.tmp 20), type := 4, pos := "span.go:65", after := #[{ on := 6, ground := Ground.data }, { on := 4, ground := Ground.chain }, { on := 4, ground := Ground.guard }], guard := some (4, false) }) (v := ?_) rfl (by kernel_rfl) (by kernel_rfl) (by kernel_rfl) (fun _ _ _ h => h) (Or.inl ⟨by rfl, ?_⟩) (by assumption) ?_
              rotate_left
              · intro w' hSw; obtain ⟨⟨d0, d1, d2, d3⟩, e0, e1, e2, e3⟩ := hSw; go_simp; try with_reducible rfl
              simp only [Act.put, List.setIfInBounds_toArray, List.set_cons_zero, List.set_cons_succ]
              refine wpAnyH_take (i := 8) (oi := { dst := some 22, op := Op.move (Operand.tmp 0), type := 24, pos := "span.go:65", after := #[{ on := 7, ground := Ground.guard }], guard := some (7, true) }) (v := ?_) rfl (by kernel_rfl) (by kernel_rfl) (by kernel_rfl) (fun _ _ _ h => h) (Or.inl ⟨by rfl, ?_⟩) (by assumption) ?_
              rotate_left
              · intro w' hSw; obtain ⟨⟨d0, d1, d2, d3⟩, e0, e1, e2, e3⟩ := hSw; go_simp; try with_reducible rfl
              simp only [Act.put, List.setIfInBounds_toArray, List.set_cons_zero, List.set_cons_succ]
              refine wpAnyH_take (i := 9) (oi := { dst := some 23, op := Op.move (Operand.tmp 5), type := 3, pos := "span.go:65", after := #[{ on := 7, ground := Ground.guard }], guard := some (7, true) }) (v := ?_) rfl (by kernel_rfl) (by kernel_rfl) (by kernel_rfl) (fun _ _ _ h => h) (Or.inl ⟨by rfl, ?_⟩) (by assumption) ?_
              rotate_left
              · intro w' hSw; obtain ⟨⟨d0, d1, d2, d3⟩, e0, e1, e2, e3⟩ := hSw; go_simp; try with_reducible rfl
              simp only [Act.put, List.setIfInBounds_toArray, List.set_cons_zero, List.set_cons_succ]
              refine wpAnyH_take (i := 10) (oi := { dst := some 24, op := Op.binOp BinOp.sub 3 (Operand.tmp 23) (Operand.const (Value.int IntKind.i64 1)) 3, type := 3, pos := "span.go:65", after := #[{ on := 9, ground := Ground.data }, { on := 7, ground := Ground.guard }], guard := some (7, true) }) (v := ?_) rfl (by kernel_rfl) (by kernel_rfl) (by kernel_rfl) (fun _ _ _ h => h) (Or.inl ⟨by rfl, ?_⟩) (by assumption) ?_
              rotate_left
              · intro w' hSw; obtain ⟨⟨d0, d1, d2, d3⟩, e0, e1, e2, e3⟩ := hSw; go_simp; try with_reducible rfl
              simp only [Act.put, List.setIfInBounds_toArray, List.set_cons_zero, List.set_cons_succ]
              refine wpAnyH_take (i := 11) (oi := { dst := some 25, op := Op.indexAddr 24 (Operand.tmp 22) (Operand.tmp 24), type := 0, pos := "span.go:65", after := #[{ on := 8, ground := Ground.data }, { on := 10, ground := Ground.data }, { on := 7, ground := Ground.guard }], guard := some (7, true) }) (v := ?_) rfl (by kernel_rfl) (by kernel_rfl) (by kernel_rfl) (fun _ _ _ h => h) (Or.inl ⟨by rfl, ?_⟩) (by assumption) ?_
              rotate_left
              · intro w' hSw; obtain ⟨⟨d0, d1, d2, d3⟩, e0, e1, e2, e3⟩ := hSw; go_simp; try with_reducible rfl
              simp only [Act.put, List.setIfInBounds_toArray, List.set_cons_zero, List.set_cons_succ]
              refine wpAnyH_take (i := 12) (oi := { dst := some 26, op := Op.load 87 (Operand.tmp 25), type := 87, pos := "span.go:65", after := #[{ on := 11, ground := Ground.data }, { on := 7, ground := Ground.guard }], guard := some (7, true) }) (v := ?_) rfl (by kernel_rfl) (by kernel_rfl) (by kernel_rfl) (fun _ _ _ h => h) (Or.inl ⟨by rfl, ?_⟩) (by assumption) ?_
              rotate_left
              · intro w' hSw; obtain ⟨⟨d0, d1, d2, d3⟩, e0, e1, e2, e3⟩ := hSw; go_simp; try with_reducible rfl
              simp only [Act.put, List.setIfInBounds_toArray, List.set_cons_zero, List.set_cons_succ]
              refine wpAnyH_take (i := 13) (oi := { dst := some 27, op := Op.load 87 (Operand.tmp 6), type := 87, pos := "span.go:65", after := #[{ on := 7, ground := Ground.guard }], guard := some (7, true) }) (v := ?_) rfl (by kernel_rfl) (by kernel_rfl) (by kernel_rfl) (fun _ _ _ h => h) (Or.inl ⟨by rfl, ?_⟩) (by assumption) ?_
              rotate_left
              · intro w' hSw; obtain ⟨⟨d0, d1, d2, d3⟩, e0, e1, e2, e3⟩ := hSw; go_simp; try with_reducible rfl
              simp only [Act.put, List.setIfInBounds_toArray, List.set_cons_zero, List.set_cons_succ]
              refine wpAnyH_ready (rs := [14]) (by kernel_rfl) (by simp) (AllReadyH.cons rfl (fun K hK => ?_) AllReadyH.nil)
              go_simp
              go_wp2_with ((go_at_call 104; with_reducible refine (K2.out _).mono ?_; rintro e x2 ⟨rfl, y9⟩))
              have z2 := z1.trans (y9.mono z1.size)
              refine hK.out _ _ (HH.out _ z2) (fun hS14 => ?_)
              clear hK K
              try dsimp only at hS14
              refine wpAnyH_take (i := 15) (oi := { dst := some 29, op := Op.unOp UnOp.not 4 (Operand.tmp 28), type := 4, pos := "span.go:65", after := #[{ on := 14, ground := Ground.data }, { on := 7, ground := Ground.guard }], guard := some (7, true) }) (v := ?_) rfl (by kernel_rfl) (by kernel_rfl) (by kernel_rfl) (fun _ _ _ h => h) (Or.inl ⟨by rfl, ?_⟩) (by assumption) ?_
              rotate_left
              · intro w' hSw; obtain ⟨⟨d0, d1, d2, d3⟩, e0, e1, e2, e3⟩ := hSw; go_simp; try with_reducible rfl
              simp only [Act.put, List.setIfInBounds_toArray, List.set_cons_zero, List.set_cons_succ]
              refine wpAnyH_take (i := 16) (oi := { dst := some 30, op := Op.move (Operand.tmp 29), type := 4, pos := "span.go:65", after := #[{ on := 15, ground := Ground.data }, { on := 14, ground := Ground.chain }, { on := 7, ground := Ground.guard }], guard := some (7, true) }) (v := ?_) rfl (by kernel_rfl) (by kernel_rfl) (by kernel_rfl) (fun _ _ _ h => h) (Or.inl ⟨by rfl, ?_⟩) (by assumption) ?_
              rotate_left
              · intro w' hSw; obtain ⟨⟨d0, d1, d2, d3⟩, e0, e1, e2, e3⟩ := hSw; go_simp; try with_reducible rfl
              simp only [Act.put, List.setIfInBounds_toArray, List.set_cons_zero, List.set_cons_succ]
              refine wpAnyH_take (i := 17) (oi := { dst := some 31, op := Op.move (Operand.tmp 0), type := 24, pos := "span.go:65", after := #[{ on := 16, ground := Ground.guard }], guard := some (16, false) }) (v := ?_) rfl (by kernel_rfl) (by kernel_rfl) (by kernel_rfl) (fun _ _ _ h => h) (Or.inl ⟨by rfl, ?_⟩) (by assumption) ?_
              rotate_left
              · intro w' hSw; obtain ⟨⟨d0, d1, d2, d3⟩, e0, e1, e2, e3⟩ := hSw; go_simp; try with_reducible rfl
              simp only [Act.put, List.setIfInBounds_toArray, List.set_cons_zero, List.set_cons_succ]
              refine wpAnyH_take (i := 18) (oi := { dst := some 32, op := Op.move (Operand.tmp 5), type := 3, pos := "span.go:65", after := #[{ on := 16, ground := Ground.guard }], guard := some (16, false) }) (v := ?_) rfl (by kernel_rfl) (by kernel_rfl) (by kernel_rfl) (fun _ _ _ h => h) (Or.inl ⟨by rfl, ?_⟩) (by assumption) ?_
              rotate_left
              · intro w' hSw; obtain ⟨⟨d0, d1, d2, d3⟩, e0, e1, e2, e3⟩ := hSw; go_simp; try with_reducible rfl
              simp only [Act.put, List.setIfInBounds_toArray, List.set_cons_zero, List.set_cons_succ]
              refine wpAnyH_take (i := 19) (oi := { dst := some 33, op := Op.binOp BinOp.sub 3 (Operand.tmp 32) (Operand.const (Value.int IntKind.i64 1)) 3, type := 3, pos := "span.go:65", after := #[{ on := 18, ground := Ground.data }, { on := 16, ground := Ground.guard }], guard := some (16, false) }) (v := ?_) rfl (by kernel_rfl) (by kernel_rfl) (by kernel_rfl) (fun _ _ _ h => h) (Or.inl ⟨by rfl, ?_⟩) (by assumption) ?_
              rotate_left
              · intro w' hSw; obtain ⟨⟨d0, d1, d2, d3⟩, e0, e1, e2, e3⟩ := hSw; go_simp; try with_reducible rfl
              simp only [Act.put, List.setIfInBounds_toArray, List.set_cons_zero, List.set_cons_succ]
              refine wpAnyH_take (i := 20) (oi := { dst := some 34, op := Op.indexAddr 24 (Operand.tmp 31) (Operand.tmp 33), type := 0, pos := "span.go:65", after := #[{ on := 17, ground := Ground.data }, { on := 19, ground := Ground.data }, { on := 16, ground := Ground.guard }], guard := some (16, false) }) (v := ?_) rfl (by kernel_rfl) (by kernel_rfl) (by kernel_rfl) (fun _ _ _ h => h) (Or.inl ⟨by rfl, ?_⟩) (by assumption) ?_
              rotate_left
              · intro w' hSw; obtain ⟨⟨d0, d1, d2, d3⟩, e0, e1, e2, e3⟩ := hSw; go_simp; try with_reducible rfl
              simp only [Act.put, List.setIfInBounds_toArray, List.set_cons_zero, List.set_cons_succ]
              refine wpAnyH_take (i := 21) (oi := { dst := some 35, op := Op.load 87 (Operand.tmp 34), type := 87, pos := "span.go:65", after := #[{ on := 20, ground := Ground.data }, { on := 16, ground := Ground.guard }], guard := some (16, false) }) (v := ?_) rfl (by kernel_rfl) (by kernel_rfl) (by kernel_rfl) (fun _ _ _ h => h) (Or.inl ⟨by rfl, ?_⟩) (by assumption) ?_
              rotate_left
              · intro w' hSw; obtain ⟨⟨d0, d1, d2, d3⟩, e0, e1, e2, e3⟩ := hSw; go_simp; try with_reducible rfl
              simp only [Act.put, List.setIfInBounds_toArray, List.set_cons_zero, List.set_cons_succ]
              refine wpAnyH_take (i := 22) (oi := { dst := some 36, op := Op.load 87 (Operand.tmp 6), type := 87, pos := "span.go:65", after := #[{ on := 16, ground := Ground.guard }], guard := some (16, false) }) (v := ?_) rfl (by kernel_rfl) (by kernel_rfl) (by kernel_rfl) (fun _ _ _ h => h) (Or.inl ⟨by rfl, ?_⟩) (by assumption) ?_
              rotate_left
              · intro w' hSw; obtain ⟨⟨d0, d1, d2, d3⟩, e0, e1, e2, e3⟩ := hSw; go_simp; try with_reducible rfl
              simp only [Act.put, List.setIfInBounds_toArray, List.set_cons_zero, List.set_cons_succ]
              refine wpAnyH_take (i := 23) (oi := { dst := some 37, op := Op.move (Operand.tmp 1), type := 4, pos := "span.go:65", after := #[{ on := 16, ground := Ground.guard }], guard := some (16, false) }) (v := ?_) rfl (by kernel_rfl) (by kernel_rfl) (by kernel_rfl) (fun _ _ _ h => h) (Or.inl ⟨by rfl, ?_⟩) (by assumption) ?_
              rotate_left
              · intro w' hSw; obtain ⟨⟨d0, d1, d2, d3⟩, e0, e1, e2, e3⟩ := hSw; go_simp; try with_reducible rfl
              simp only [Act.put, List.setIfInBounds_toArray, List.set_cons_zero, List.set_cons_succ]
              refine wpAnyH_ready (rs := [24]) (by kernel_rfl) (by simp) (AllReadyH.cons rfl (fun K hK => ?_) AllReadyH.nil)
              go_simp
              go_wp2_with ((go_at_call 127; with_reducible refine (K3.out _).mono ?_; rintro e x3 ⟨rfl, y10⟩))
              have z3 := z2.trans (y10.mono z2.size)
              refine hK.out _ _ (HH.out _ z3) (fun hS24 => ?_)
              clear hK K
              try dsimp only at hS24
              refine wpAnyH_take (i := 25) (oi := { dst := some 39, op := Op.pick (Operand.tmp 30) (Operand.const (Value.bool true)) (Operand.tmp 38), type := 4, pos := "span.go:65", after := #[{ on := 16, ground := Ground.data }, { on := 24, ground := Ground.data }, { on := 7, ground := Ground.guard }], guard := some (7, true) }) (v := ?_) rfl (by kernel_rfl) (by kernel_rfl) (by kernel_rfl) (fun _ _ _ h => h) (Or.inl ⟨by rfl, ?_⟩) (by assumption) ?_
              rotate_left
              · intro w' hSw; obtain ⟨⟨d0, d1, d2, d3⟩, e0, e1, e2, e3⟩ := hSw; go_simp; try with_reducible rfl
              simp only [Act.put, List.setIfInBounds_toArray, List.set_cons_zero, List.set_cons_succ]
              refine wpAnyH_take (i := 26) (oi := { dst := some 40, op := Op.pick (Operand.tmp 21) (Operand.tmp 39) (Operand.const (Value.bool false)), type := 4, pos := "span.go:65", after := #[{ on := 7, ground := Ground.data }, { on := 25, ground := Ground.data }, { on := 4, ground := Ground.guard }], guard := some (4, false) }) (v := ?_) rfl (by kernel_rfl) (by kernel_rfl) (by kernel_rfl) (fun _ _ _ h => h) (Or.inl ⟨by rfl, ?_⟩) (by assumption) ?_
              rotate_left
              · intro w' hSw; obtain ⟨⟨d0, d1, d2, d3⟩, e0, e1, e2, e3⟩ := hSw; go_simp; try with_reducible rfl
              simp only [Act.put, List.setIfInBounds_toArray, List.set_cons_zero, List.set_cons_succ]
              refine wpAnyH_take (i := 27) (oi := { dst := some 41, op := Op.pick (Operand.tmp 18) (Operand.const (Value.bool true)) (Operand.tmp 40), type := 4, pos := "span.go:65", after := #[{ on := 4, ground := Ground.data }, { on := 26, ground := Ground.data }], guard := none }) (v := ?_) rfl (by kernel_rfl) (by kernel_rfl) (by kernel_rfl) (fun _ _ _ h => h) (Or.inl ⟨by rfl, ?_⟩) (by assumption) ?_
              rotate_left
              · intro w' hSw; obtain ⟨⟨d0, d1, d2, d3⟩, e0, e1, e2, e3⟩ := hSw; go_simp; try with_reducible rfl
              simp only [Act.put, List.setIfInBounds_toArray, List.set_cons_zero, List.set_cons_succ]
              refine wpAnyH_done (by kernel_rfl) ?_ _
              go_wp2
              go_ret
              exact ⟨⟨j + 1, ⟨by rw [← HN.out]; omega, HO.out, fun _ h => (h x HX.out).2 j a rfl HAJ.out |>.2 (of_decide_eq_true H2.out)⟩, by first | rfl | go_num⟩, (Z2.out _ z3).2⟩
            | false =>
              rw [h2] at K3
              have H2 := Lib.hid h2
              clear h2
              go_wp2_with fail
              clear y0 y1 y2 y3
              refine wp_region_held_drew (S := fun w' => (w'.cell? ⟨wr.heap.size, 0, none⟩ = some (.int .i64 x.n) ∧ w'.cell? ⟨wr.heap.size, 1, none⟩ = some (.int .i64 x.lo) ∧ w'.cell? ⟨wr.heap.size, 2, none⟩ = some (.int .i64 x.hi) ∧ w'.cell? ⟨wr.heap.size, 3, none⟩ = some (.int .i64 x.to)) ∧ (w'.cell? ⟨b, o + j * 4, none⟩ = some (.int .i64 a.n) ∧ w'.cell? ⟨b, o + j * 4 + 1, none⟩ = some (.int .i64 a.lo) ∧ w'.cell? ⟨b, o + j * 4 + 2, none⟩ = some (.int .i64 a.hi) ∧ w'.cell? ⟨b, o + j * 4 + 3, none⟩ = some (.int .i64 a.to))) (by kernel_rfl) (HH.out _ z0) (fun hS0 => ?_)
              try dsimp only at hS0
              refine wpAnyH_take (i := 0) (oi := { dst := some 14, op := Op.load 87 (Operand.tmp 6), type := 87, pos := "span.go:65", after := #[], guard := none }) (v := ?_) rfl (by kernel_rfl) (by kernel_rfl) (by kernel_rfl) (fun _ _ _ h => h) (Or.inl ⟨by rfl, ?_⟩) (by assumption) ?_
              rotate_left
              · intro w' hSw; obtain ⟨⟨d0, d1, d2, d3⟩, e0, e1, e2, e3⟩ := hSw; go_simp; try with_reducible rfl
              simp only [Act.put, List.setIfInBounds_toArray, List.set_cons_zero, List.set_cons_succ]
              refine wpAnyH_take (i := 1) (oi := { dst := some 15, op := Op.move (Operand.tmp 1), type := 4, pos := "span.go:65", after := #[], guard := none }) (v := ?_) rfl (by kernel_rfl) (by kernel_rfl) (by kernel_rfl) (fun _ _ _ h => h) (Or.inl ⟨by rfl, ?_⟩) (by assumption) ?_
              rotate_left
              · intro w' hSw; obtain ⟨⟨d0, d1, d2, d3⟩, e0, e1, e2, e3⟩ := hSw; go_simp; try with_reducible rfl
              simp only [Act.put, List.setIfInBounds_toArray, List.set_cons_zero, List.set_cons_succ]
              refine wpAnyH_ready (rs := [2]) (by kernel_rfl) (by simp) (AllReadyH.cons rfl (fun K hK => ?_) AllReadyH.nil)
              go_simp
              go_wp2_with ((go_at_call 105; with_reducible refine (K1.out _).mono ?_; rintro e x1 ⟨rfl, y8⟩))
              have z1 := z0.trans (y8.mono z0.size)
              refine hK.out _ _ (HH.out _ z1) (fun hS2 => ?_)
              clear hK K
              try dsimp only at hS2
              refine wpAnyH_take (i := 3) (oi := { dst := some 17, op := Op.unOp UnOp.not 4 (Operand.tmp 16), type := 4, pos := "span.go:65", after := #[{ on := 2, ground := Ground.data }], guard := none }) (v := ?_) rfl (by kernel_rfl) (by kernel_rfl) (by kernel_rfl) (fun _ _ _ h => h) (Or.inl ⟨by rfl, ?_⟩) (by assumption) ?_
              rotate_left
              · intro w' hSw; obtain ⟨⟨d0, d1, d2, d3⟩, e0, e1, e2, e3⟩ := hSw; go_simp; try with_reducible rfl
              simp only [Act.put, List.setIfInBounds_toArray, List.set_cons_zero, List.set_cons_succ]
              refine wpAnyH_take (i := 4) (oi := { dst := some 18, op := Op.move (Operand.tmp 17), type := 4, pos := "span.go:65", after := #[{ on := 3, ground := Ground.data }, { on := 2, ground := Ground.chain }], guard := none }) (v := ?_) rfl (by kernel_rfl) (by kernel_rfl) (by kernel_rfl) (fun _ _ _ h => h) (Or.inl ⟨by rfl, ?_⟩) (by assumption) ?_
              rotate_left
              · intro w' hSw; obtain ⟨⟨d0, d1, d2, d3⟩, e0, e1, e2, e3⟩ := hSw; go_simp; try with_reducible rfl
              simp only [Act.put, List.setIfInBounds_toArray, List.set_cons_zero, List.set_cons_succ]
              refine wpAnyH_take (i := 5) (oi := { dst := some 19, op := Op.move (Operand.tmp 5), type := 3, pos := "span.go:65", after := #[{ on := 4, ground := Ground.guard }], guard := some (4, false) }) (v := ?_) rfl (by kernel_rfl) (by kernel_rfl) (by kernel_rfl) (fun _ _ _ h => h) (Or.inl ⟨by rfl, ?_⟩) (by assumption) ?_
              rotate_left
              · intro w' hSw; obtain ⟨⟨d0, d1, d2, d3⟩, e0, e1, e2, e3⟩ := hSw; go_simp; try with_reducible rfl
              simp only [Act.put, List.setIfInBounds_toArray, List.set_cons_zero, List.set_cons_succ]
              refine wpAnyH_take (i := 6) (oi := { dst := some 20, op := Op.binOp BinOp.gtr 3 (Operand.tmp 19) (Operand.const (Value.int IntKind.i64 0)) 3, type := 4, pos := "span.go:65", after := #[{ on := 5, ground := Ground.data }, { on := 4, ground := Ground.guard }], guard := some (4, false) }) (v := ?_) rfl (by kernel_rfl) (by kernel_rfl) (by kernel_rfl) (fun _ _ _ h => h) (Or.inl ⟨by rfl, ?_⟩) (by assumption) ?_
              rotate_left
              · intro w' hSw; obtain ⟨⟨d0, d1, d2, d3⟩, e0, e1, e2, e3⟩ := hSw; go_simp; try with_reducible rfl
              simp only [Act.put, List.setIfInBounds_toArray, List.set_cons_zero, List.set_cons_succ]
              refine wpAnyH_take (i := 7) (oi := { dst := some 21, op := Op.move (Operand.tmp 20), type := 4, pos := "span.go:65", after := #[{ on := 6, ground := Ground.data }, { on := 4, ground := Ground.chain }, { on := 4, ground := Ground.guard }], guard := some (4, false) }) (v := ?_) rfl (by kernel_rfl) (by kernel_rfl) (by kernel_rfl) (fun _ _ _ h => h) (Or.inl ⟨by rfl, ?_⟩) (by assumption) ?_
              rotate_left
              · intro w' hSw; obtain ⟨⟨d0, d1, d2, d3⟩, e0, e1, e2, e3⟩ := hSw; go_simp; try with_reducible rfl
              simp only [Act.put, List.setIfInBounds_toArray, List.set_cons_zero, List.set_cons_succ]
              refine wpAnyH_take (i := 8) (oi := { dst := some 22, op := Op.move (Operand.tmp 0), type := 24, pos := "span.go:65", after := #[{ on := 7, ground := Ground.guard }], guard := some (7, true) }) (v := ?_) rfl (by kernel_rfl) (by kernel_rfl) (by kernel_rfl) (fun _ _ _ h => h) (Or.inl ⟨by rfl, ?_⟩) (by assumption) ?_
              rotate_left
              · intro w' hSw; obtain ⟨⟨d0, d1, d2, d3⟩, e0, e1, e2, e3⟩ := hSw; go_simp; try with_reducible rfl
              simp only [Act.put, List.setIfInBounds_toArray, List.set_cons_zero, List.set_cons_succ]
              refine wpAnyH_take (i := 9) (oi := { dst := some 23, op := Op.move (Operand.tmp 5), type := 3, pos := "span.go:65", after := #[{ on := 7, ground := Ground.guard }], guard := some (7, true) }) (v := ?_) rfl (by kernel_rfl) (by kernel_rfl) (by kernel_rfl) (fun _ _ _ h => h) (Or.inl ⟨by rfl, ?_⟩) (by assumption) ?_
              rotate_left
              · intro w' hSw; obtain ⟨⟨d0, d1, d2, d3⟩, e0, e1, e2, e3⟩ := hSw; go_simp; try with_reducible rfl
              simp only [Act.put, List.setIfInBounds_toArray, List.set_cons_zero, List.set_cons_succ]
              refine wpAnyH_take (i := 10) (oi := { dst := some 24, op := Op.binOp BinOp.sub 3 (Operand.tmp 23) (Operand.const (Value.int IntKind.i64 1)) 3, type := 3, pos := "span.go:65", after := #[{ on := 9, ground := Ground.data }, { on := 7, ground := Ground.guard }], guard := some (7, true) }) (v := ?_) rfl (by kernel_rfl) (by kernel_rfl) (by kernel_rfl) (fun _ _ _ h => h) (Or.inl ⟨by rfl, ?_⟩) (by assumption) ?_
              rotate_left
              · intro w' hSw; obtain ⟨⟨d0, d1, d2, d3⟩, e0, e1, e2, e3⟩ := hSw; go_simp; try with_reducible rfl
              simp only [Act.put, List.setIfInBounds_toArray, List.set_cons_zero, List.set_cons_succ]
              refine wpAnyH_take (i := 11) (oi := { dst := some 25, op := Op.indexAddr 24 (Operand.tmp 22) (Operand.tmp 24), type := 0, pos := "span.go:65", after := #[{ on := 8, ground := Ground.data }, { on := 10, ground := Ground.data }, { on := 7, ground := Ground.guard }], guard := some (7, true) }) (v := ?_) rfl (by kernel_rfl) (by kernel_rfl) (by kernel_rfl) (fun _ _ _ h => h) (Or.inl ⟨by rfl, ?_⟩) (by assumption) ?_
              rotate_left
              · intro w' hSw; obtain ⟨⟨d0, d1, d2, d3⟩, e0, e1, e2, e3⟩ := hSw; go_simp; try with_reducible rfl
              simp only [Act.put, List.setIfInBounds_toArray, List.set_cons_zero, List.set_cons_succ]
              refine wpAnyH_take (i := 12) (oi := { dst := some 26, op := Op.load 87 (Operand.tmp 25), type := 87, pos := "span.go:65", after := #[{ on := 11, ground := Ground.data }, { on := 7, ground := Ground.guard }], guard := some (7, true) }) (v := ?_) rfl (by kernel_rfl) (by kernel_rfl) (by kernel_rfl) (fun _ _ _ h => h) (Or.inl ⟨by rfl, ?_⟩) (by assumption) ?_
              rotate_left
              · intro w' hSw; obtain ⟨⟨d0, d1, d2, d3⟩, e0, e1, e2, e3⟩ := hSw; go_simp; try with_reducible rfl
              simp only [Act.put, List.setIfInBounds_toArray, List.set_cons_zero, List.set_cons_succ]
              refine wpAnyH_take (i := 13) (oi := { dst := some 27, op := Op.load 87 (Operand.tmp 6), type := 87, pos := "span.go:65", after := #[{ on := 7, ground := Ground.guard }], guard := some (7, true) }) (v := ?_) rfl (by kernel_rfl) (by kernel_rfl) (by kernel_rfl) (fun _ _ _ h => h) (Or.inl ⟨by rfl, ?_⟩) (by assumption) ?_
              rotate_left
              · intro w' hSw; obtain ⟨⟨d0, d1, d2, d3⟩, e0, e1, e2, e3⟩ := hSw; go_simp; try with_reducible rfl
              simp only [Act.put, List.setIfInBounds_toArray, List.set_cons_zero, List.set_cons_succ]
              refine wpAnyH_ready (rs := [14]) (by kernel_rfl) (by simp) (AllReadyH.cons rfl (fun K hK => ?_) AllReadyH.nil)
              go_simp
              go_wp2_with ((go_at_call 104; with_reducible refine (K2.out _).mono ?_; rintro e x2 ⟨rfl, y9⟩))
              have z2 := z1.trans (y9.mono z1.size)
              refine hK.out _ _ (HH.out _ z2) (fun hS14 => ?_)
              clear hK K
              try dsimp only at hS14
              refine wpAnyH_take (i := 15) (oi := { dst := some 29, op := Op.unOp UnOp.not 4 (Operand.tmp 28), type := 4, pos := "span.go:65", after := #[{ on := 14, ground := Ground.data }, { on := 7, ground := Ground.guard }], guard := some (7, true) }) (v := ?_) rfl (by kernel_rfl) (by kernel_rfl) (by kernel_rfl) (fun _ _ _ h => h) (Or.inl ⟨by rfl, ?_⟩) (by assumption) ?_
              rotate_left
              · intro w' hSw; obtain ⟨⟨d0, d1, d2, d3⟩, e0, e1, e2, e3⟩ := hSw; go_simp; try with_reducible rfl
              simp only [Act.put, List.setIfInBounds_toArray, List.set_cons_zero, List.set_cons_succ]
              refine wpAnyH_take (i := 16) (oi := { dst := some 30, op := Op.move (Operand.tmp 29), type := 4, pos := "span.go:65", after := #[{ on := 15, ground := Ground.data }, { on := 14, ground := Ground.chain }, { on := 7, ground := Ground.guard }], guard := some (7, true) }) (v := ?_) rfl (by kernel_rfl) (by kernel_rfl) (by kernel_rfl) (fun _ _ _ h => h) (Or.inl ⟨by rfl, ?_⟩) (by assumption) ?_
              rotate_left
              · intro w' hSw; obtain ⟨⟨d0, d1, d2, d3⟩, e0, e1, e2, e3⟩ := hSw; go_simp; try with_reducible rfl
              simp only [Act.put, List.setIfInBounds_toArray, List.set_cons_zero, List.set_cons_succ]
              refine wpAnyH_take (i := 17) (oi := { dst := some 31, op := Op.move (Operand.tmp 0), type := 24, pos := "span.go:65", after := #[{ on := 16, ground := Ground.guard }], guard := some (16, false) }) (v := ?_) rfl (by kernel_rfl) (by kernel_rfl) (by kernel_rfl) (fun _ _ _ h => h) (Or.inl ⟨by rfl, ?_⟩) (by assumption) ?_
              rotate_left
              · intro w' hSw; obtain ⟨⟨d0, d1, d2, d3⟩, e0, e1, e2, e3⟩ := hSw; go_simp; try with_reducible rfl
              simp only [Act.put, List.setIfInBounds_toArray, List.set_cons_zero, List.set_cons_succ]
              refine wpAnyH_take (i := 18) (oi := { dst := some 32, op := Op.move (Operand.tmp 5), type := 3, pos := "span.go:65", after := #[{ on := 16, ground := Ground.guard }], guard := some (16, false) }) (v := ?_) rfl (by kernel_rfl) (by kernel_rfl) (by kernel_rfl) (fun _ _ _ h => h) (Or.inl ⟨by rfl, ?_⟩) (by assumption) ?_
              rotate_left
              · intro w' hSw; obtain ⟨⟨d0, d1, d2, d3⟩, e0, e1, e2, e3⟩ := hSw; go_simp; try with_reducible rfl
              simp only [Act.put, List.setIfInBounds_toArray, List.set_cons_zero, List.set_cons_succ]
              refine wpAnyH_take (i := 19) (oi := { dst := some 33, op := Op.binOp BinOp.sub 3 (Operand.tmp 32) (Operand.const (Value.int IntKind.i64 1)) 3, type := 3, pos := "span.go:65", after := #[{ on := 18, ground := Ground.data }, { on := 16, ground := Ground.guard }], guard := some (16, false) }) (v := ?_) rfl (by kernel_rfl) (by kernel_rfl) (by kernel_rfl) (fun _ _ _ h => h) (Or.inl ⟨by rfl, ?_⟩) (by assumption) ?_
              rotate_left
              · intro w' hSw; obtain ⟨⟨d0, d1, d2, d3⟩, e0, e1, e2, e3⟩ := hSw; go_simp; try with_reducible rfl
              simp only [Act.put, List.setIfInBounds_toArray, List.set_cons_zero, List.set_cons_succ]
              refine wpAnyH_take (i := 20) (oi := { dst := some 34, op := Op.indexAddr 24 (Operand.tmp 31) (Operand.tmp 33), type := 0, pos := "span.go:65", after := #[{ on := 17, ground := Ground.data }, { on := 19, ground := Ground.data }, { on := 16, ground := Ground.guard }], guard := some (16, false) }) (v := ?_) rfl (by kernel_rfl) (by kernel_rfl) (by kernel_rfl) (fun _ _ _ h => h) (Or.inl ⟨by rfl, ?_⟩) (by assumption) ?_
              rotate_left
              · intro w' hSw; obtain ⟨⟨d0, d1, d2, d3⟩, e0, e1, e2, e3⟩ := hSw; go_simp; try with_reducible rfl
              simp only [Act.put, List.setIfInBounds_toArray, List.set_cons_zero, List.set_cons_succ]
              refine wpAnyH_take (i := 21) (oi := { dst := some 35, op := Op.load 87 (Operand.tmp 34), type := 87, pos := "span.go:65", after := #[{ on := 20, ground := Ground.data }, { on := 16, ground := Ground.guard }], guard := some (16, false) }) (v := ?_) rfl (by kernel_rfl) (by kernel_rfl) (by kernel_rfl) (fun _ _ _ h => h) (Or.inl ⟨by rfl, ?_⟩) (by assumption) ?_
              rotate_left
              · intro w' hSw; obtain ⟨⟨d0, d1, d2, d3⟩, e0, e1, e2, e3⟩ := hSw; go_simp; try with_reducible rfl
              simp only [Act.put, List.setIfInBounds_toArray, List.set_cons_zero, List.set_cons_succ]
              refine wpAnyH_take (i := 22) (oi := { dst := some 36, op := Op.load 87 (Operand.tmp 6), type := 87, pos := "span.go:65", after := #[{ on := 16, ground := Ground.guard }], guard := some (16, false) }) (v := ?_) rfl (by kernel_rfl) (by kernel_rfl) (by kernel_rfl) (fun _ _ _ h => h) (Or.inl ⟨by rfl, ?_⟩) (by assumption) ?_
              rotate_left
              · intro w' hSw; obtain ⟨⟨d0, d1, d2, d3⟩, e0, e1, e2, e3⟩ := hSw; go_simp; try with_reducible rfl
              simp only [Act.put, List.setIfInBounds_toArray, List.set_cons_zero, List.set_cons_succ]
              refine wpAnyH_take (i := 23) (oi := { dst := some 37, op := Op.move (Operand.tmp 1), type := 4, pos := "span.go:65", after := #[{ on := 16, ground := Ground.guard }], guard := some (16, false) }) (v := ?_) rfl (by kernel_rfl) (by kernel_rfl) (by kernel_rfl) (fun _ _ _ h => h) (Or.inl ⟨by rfl, ?_⟩) (by assumption) ?_
              rotate_left
              · intro w' hSw; obtain ⟨⟨d0, d1, d2, d3⟩, e0, e1, e2, e3⟩ := hSw; go_simp; try with_reducible rfl
              simp only [Act.put, List.setIfInBounds_toArray, List.set_cons_zero, List.set_cons_succ]
              refine wpAnyH_ready (rs := [24]) (by kernel_rfl) (by simp) (AllReadyH.cons rfl (fun K hK => ?_) AllReadyH.nil)
              go_simp
              go_wp2_with ((go_at_call 127; with_reducible refine (K3.out _).mono ?_; rintro e x3 ⟨rfl, y10⟩))
              have z3 := z2.trans (y10.mono z2.size)
              refine hK.out _ _ (HH.out _ z3) (fun hS24 => ?_)
              clear hK K
              try dsimp only at hS24
              refine wpAnyH_take (i := 25) (oi := { dst := some 39, op := Op.pick (Operand.tmp 30) (Operand.const (Value.bool true)) (Operand.tmp 38), type := 4, pos := "span.go:65", after := #[{ on := 16, ground := Ground.data }, { on := 24, ground := Ground.data }, { on := 7, ground := Ground.guard }], guard := some (7, true) }) (v := ?_) rfl (by kernel_rfl) (by kernel_rfl) (by kernel_rfl) (fun _ _ _ h => h) (Or.inl ⟨by rfl, ?_⟩) (by assumption) ?_
              rotate_left
              · intro w' hSw; obtain ⟨⟨d0, d1, d2, d3⟩, e0, e1, e2, e3⟩ := hSw; go_simp; try with_reducible rfl
              simp only [Act.put, List.setIfInBounds_toArray, List.set_cons_zero, List.set_cons_succ]
              refine wpAnyH_take (i := 26) (oi := { dst := some 40, op := Op.pick (Operand.tmp 21) (Operand.tmp 39) (Operand.const (Value.bool false)), type := 4, pos := "span.go:65", after := #[{ on := 7, ground := Ground.data }, { on := 25, ground := Ground.data }, { on := 4, ground := Ground.guard }], guard := some (4, false) }) (v := ?_) rfl (by kernel_rfl) (by kernel_rfl) (by kernel_rfl) (fun _ _ _ h => h) (Or.inl ⟨by rfl, ?_⟩) (by assumption) ?_
              rotate_left
              · intro w' hSw; obtain ⟨⟨d0, d1, d2, d3⟩, e0, e1, e2, e3⟩ := hSw; go_simp; try with_reducible rfl
              simp only [Act.put, List.setIfInBounds_toArray, List.set_cons_zero, List.set_cons_succ]
              refine wpAnyH_take (i := 27) (oi := { dst := some 41, op := Op.pick (Operand.tmp 18) (Operand.const (Value.bool true)) (Operand.tmp 40), type := 4, pos := "span.go:65", after := #[{ on := 4, ground := Ground.data }, { on := 26, ground := Ground.data }], guard := none }) (v := ?_) rfl (by kernel_rfl) (by kernel_rfl) (by kernel_rfl) (fun _ _ _ h => h) (Or.inl ⟨by rfl, ?_⟩) (by assumption) ?_
              rotate_left
              · intro w' hSw; obtain ⟨⟨d0, d1, d2, d3⟩, e0, e1, e2, e3⟩ := hSw; go_simp; try with_reducible rfl
              simp only [Act.put, List.setIfInBounds_toArray, List.set_cons_zero, List.set_cons_succ]
              refine wpAnyH_done (by kernel_rfl) ?_ _
              go_wp2
              refine ⟨⟨j + 1 + 1, by omega, by go_num, Lib.hid (HO.out.more fun s hs => ?_), (Z2.out _ z3).2⟩, by simp [intOf]; omega⟩
              rw [HX.out] at hs
              cases hs
              refine ⟨HS.out, fun i c e hc => ?_⟩
              obtain rfl : j = i := by omega
              rw [HAJ.out] at hc
              cases hc
              exact ⟨H1.out, of_decide_eq_false H2.out⟩
          · rw [decide_eq_false h1] at K2
            have H1 := Lib.hid h1
            clear h1
            go_wp2_with fail
            clear y0 y1 y2 y3
            refine wp_region_held_drew (S := fun w' => (w'.cell? ⟨wr.heap.size, 0, none⟩ = some (.int .i64 x.n) ∧ w'.cell? ⟨wr.heap.size, 1, none⟩ = some (.int .i64 x.lo) ∧ w'.cell? ⟨wr.heap.size, 2, none⟩ = some (.int .i64 x.hi) ∧ w'.cell? ⟨wr.heap.size, 3, none⟩ = some (.int .i64 x.to)) ∧ (w'.cell? ⟨b, o + j * 4, none⟩ = some (.int .i64 a.n) ∧ w'.cell? ⟨b, o + j * 4 + 1, none⟩ = some (.int .i64 a.lo) ∧ w'.cell? ⟨b, o + j * 4 + 2, none⟩ = some (.int .i64 a.hi) ∧ w'.cell? ⟨b, o + j * 4 + 3, none⟩ = some (.int .i64 a.to))) (by kernel_rfl) (HH.out _ z0) (fun hS0 => ?_)
            try dsimp only at hS0
            refine wpAnyH_take (i := 0) (oi := { dst := some 14, op := Op.load 87 (Operand.tmp 6), type := 87, pos := "span.go:65", after := #[], guard := none }) (v := ?_) rfl (by kernel_rfl) (by kernel_rfl) (by kernel_rfl) (fun _ _ _ h => h) (Or.inl ⟨by rfl, ?_⟩) (by assumption) ?_
            rotate_left
            · intro w' hSw; obtain ⟨⟨d0, d1, d2, d3⟩, e0, e1, e2, e3⟩ := hSw; go_simp; try with_reducible rfl
            simp only [Act.put, List.setIfInBounds_toArray, List.set_cons_zero, List.set_cons_succ]
            refine wpAnyH_take (i := 1) (oi := { dst := some 15, op := Op.move (Operand.tmp 1), type := 4, pos := "span.go:65", after := #[], guard := none }) (v := ?_) rfl (by kernel_rfl) (by kernel_rfl) (by kernel_rfl) (fun _ _ _ h => h) (Or.inl ⟨by rfl, ?_⟩) (by assumption) ?_
            rotate_left
            · intro w' hSw; obtain ⟨⟨d0, d1, d2, d3⟩, e0, e1, e2, e3⟩ := hSw; go_simp; try with_reducible rfl
            simp only [Act.put, List.setIfInBounds_toArray, List.set_cons_zero, List.set_cons_succ]
            refine wpAnyH_ready (rs := [2]) (by kernel_rfl) (by simp) (AllReadyH.cons rfl (fun K hK => ?_) AllReadyH.nil)
            go_simp
            go_wp2_with ((go_at_call 105; with_reducible refine (K1.out _).mono ?_; rintro e x1 ⟨rfl, y8⟩))
            have z1 := z0.trans (y8.mono z0.size)
            refine hK.out _ _ (HH.out _ z1) (fun hS2 => ?_)
            clear hK K
            try dsimp only at hS2
            refine wpAnyH_take (i := 3) (oi := { dst := some 17, op := Op.unOp UnOp.not 4 (Operand.tmp 16), type := 4, pos := "span.go:65", after := #[{ on := 2, ground := Ground.data }], guard := none }) (v := ?_) rfl (by kernel_rfl) (by kernel_rfl) (by kernel_rfl) (fun _ _ _ h => h) (Or.inl ⟨by rfl, ?_⟩) (by assumption) ?_
            rotate_left
            · intro w' hSw; obtain ⟨⟨d0, d1, d2, d3⟩, e0, e1, e2, e3⟩ := hSw; go_simp; try with_reducible rfl
            simp only [Act.put, List.setIfInBounds_toArray, List.set_cons_zero, List.set_cons_succ]
            refine wpAnyH_take (i := 4) (oi := { dst := some 18, op := Op.move (Operand.tmp 17), type := 4, pos := "span.go:65", after := #[{ on := 3, ground := Ground.data }, { on := 2, ground := Ground.chain }], guard := none }) (v := ?_) rfl (by kernel_rfl) (by kernel_rfl) (by kernel_rfl) (fun _ _ _ h => h) (Or.inl ⟨by rfl, ?_⟩) (by assumption) ?_
            rotate_left
            · intro w' hSw; obtain ⟨⟨d0, d1, d2, d3⟩, e0, e1, e2, e3⟩ := hSw; go_simp; try with_reducible rfl
            simp only [Act.put, List.setIfInBounds_toArray, List.set_cons_zero, List.set_cons_succ]
            refine wpAnyH_take (i := 5) (oi := { dst := some 19, op := Op.move (Operand.tmp 5), type := 3, pos := "span.go:65", after := #[{ on := 4, ground := Ground.guard }], guard := some (4, false) }) (v := ?_) rfl (by kernel_rfl) (by kernel_rfl) (by kernel_rfl) (fun _ _ _ h => h) (Or.inl ⟨by rfl, ?_⟩) (by assumption) ?_
            rotate_left
            · intro w' hSw; obtain ⟨⟨d0, d1, d2, d3⟩, e0, e1, e2, e3⟩ := hSw; go_simp; try with_reducible rfl
            simp only [Act.put, List.setIfInBounds_toArray, List.set_cons_zero, List.set_cons_succ]
            refine wpAnyH_take (i := 6) (oi := { dst := some 20, op := Op.binOp BinOp.gtr 3 (Operand.tmp 19) (Operand.const (Value.int IntKind.i64 0)) 3, type := 4, pos := "span.go:65", after := #[{ on := 5, ground := Ground.data }, { on := 4, ground := Ground.guard }], guard := some (4, false) }) (v := ?_) rfl (by kernel_rfl) (by kernel_rfl) (by kernel_rfl) (fun _ _ _ h => h) (Or.inl ⟨by rfl, ?_⟩) (by assumption) ?_
            rotate_left
            · intro w' hSw; obtain ⟨⟨d0, d1, d2, d3⟩, e0, e1, e2, e3⟩ := hSw; go_simp; try with_reducible rfl
            simp only [Act.put, List.setIfInBounds_toArray, List.set_cons_zero, List.set_cons_succ]
            refine wpAnyH_take (i := 7) (oi := { dst := some 21, op := Op.move (Operand.tmp 20), type := 4, pos := "span.go:65", after := #[{ on := 6, ground := Ground.data }, { on := 4, ground := Ground.chain }, { on := 4, ground := Ground.guard }], guard := some (4, false) }) (v := ?_) rfl (by kernel_rfl) (by kernel_rfl) (by kernel_rfl) (fun _ _ _ h => h) (Or.inl ⟨by rfl, ?_⟩) (by assumption) ?_
            rotate_left
            · intro w' hSw; obtain ⟨⟨d0, d1, d2, d3⟩, e0, e1, e2, e3⟩ := hSw; go_simp; try with_reducible rfl
            simp only [Act.put, List.setIfInBounds_toArray, List.set_cons_zero, List.set_cons_succ]
            refine wpAnyH_take (i := 8) (oi := { dst := some 22, op := Op.move (Operand.tmp 0), type := 24, pos := "span.go:65", after := #[{ on := 7, ground := Ground.guard }], guard := some (7, true) }) (v := ?_) rfl (by kernel_rfl) (by kernel_rfl) (by kernel_rfl) (fun _ _ _ h => h) (Or.inl ⟨by rfl, ?_⟩) (by assumption) ?_
            rotate_left
            · intro w' hSw; obtain ⟨⟨d0, d1, d2, d3⟩, e0, e1, e2, e3⟩ := hSw; go_simp; try with_reducible rfl
            simp only [Act.put, List.setIfInBounds_toArray, List.set_cons_zero, List.set_cons_succ]
            refine wpAnyH_take (i := 9) (oi := { dst := some 23, op := Op.move (Operand.tmp 5), type := 3, pos := "span.go:65", after := #[{ on := 7, ground := Ground.guard }], guard := some (7, true) }) (v := ?_) rfl (by kernel_rfl) (by kernel_rfl) (by kernel_rfl) (fun _ _ _ h => h) (Or.inl ⟨by rfl, ?_⟩) (by assumption) ?_
            rotate_left
            · intro w' hSw; obtain ⟨⟨d0, d1, d2, d3⟩, e0, e1, e2, e3⟩ := hSw; go_simp; try with_reducible rfl
            simp only [Act.put, List.setIfInBounds_toArray, List.set_cons_zero, List.set_cons_succ]
            refine wpAnyH_take (i := 10) (oi := { dst := some 24, op := Op.binOp BinOp.sub 3 (Operand.tmp 23) (Operand.const (Value.int IntKind.i64 1)) 3, type := 3, pos := "span.go:65", after := #[{ on := 9, ground := Ground.data }, { on := 7, ground := Ground.guard }], guard := some (7, true) }) (v := ?_) rfl (by kernel_rfl) (by kernel_rfl) (by kernel_rfl) (fun _ _ _ h => h) (Or.inl ⟨by rfl, ?_⟩) (by assumption) ?_
            rotate_left
            · intro w' hSw; obtain ⟨⟨d0, d1, d2, d3⟩, e0, e1, e2, e3⟩ := hSw; go_simp; try with_reducible rfl
            simp only [Act.put, List.setIfInBounds_toArray, List.set_cons_zero, List.set_cons_succ]
            refine wpAnyH_take (i := 11) (oi := { dst := some 25, op := Op.indexAddr 24 (Operand.tmp 22) (Operand.tmp 24), type := 0, pos := "span.go:65", after := #[{ on := 8, ground := Ground.data }, { on := 10, ground := Ground.data }, { on := 7, ground := Ground.guard }], guard := some (7, true) }) (v := ?_) rfl (by kernel_rfl) (by kernel_rfl) (by kernel_rfl) (fun _ _ _ h => h) (Or.inl ⟨by rfl, ?_⟩) (by assumption) ?_
            rotate_left
            · intro w' hSw; obtain ⟨⟨d0, d1, d2, d3⟩, e0, e1, e2, e3⟩ := hSw; go_simp; try with_reducible rfl
            simp only [Act.put, List.setIfInBounds_toArray, List.set_cons_zero, List.set_cons_succ]
            refine wpAnyH_take (i := 12) (oi := { dst := some 26, op := Op.load 87 (Operand.tmp 25), type := 87, pos := "span.go:65", after := #[{ on := 11, ground := Ground.data }, { on := 7, ground := Ground.guard }], guard := some (7, true) }) (v := ?_) rfl (by kernel_rfl) (by kernel_rfl) (by kernel_rfl) (fun _ _ _ h => h) (Or.inl ⟨by rfl, ?_⟩) (by assumption) ?_
            rotate_left
            · intro w' hSw; obtain ⟨⟨d0, d1, d2, d3⟩, e0, e1, e2, e3⟩ := hSw; go_simp; try with_reducible rfl
            simp only [Act.put, List.setIfInBounds_toArray, List.set_cons_zero, List.set_cons_succ]
            refine wpAnyH_take (i := 13) (oi := { dst := some 27, op := Op.load 87 (Operand.tmp 6), type := 87, pos := "span.go:65", after := #[{ on := 7, ground := Ground.guard }], guard := some (7, true) }) (v := ?_) rfl (by kernel_rfl) (by kernel_rfl) (by kernel_rfl) (fun _ _ _ h => h) (Or.inl ⟨by rfl, ?_⟩) (by assumption) ?_
            rotate_left
            · intro w' hSw; obtain ⟨⟨d0, d1, d2, d3⟩, e0, e1, e2, e3⟩ := hSw; go_simp; try with_reducible rfl
            simp only [Act.put, List.setIfInBounds_toArray, List.set_cons_zero, List.set_cons_succ]
            refine wpAnyH_ready (rs := [14]) (by kernel_rfl) (by simp) (AllReadyH.cons rfl (fun K hK => ?_) AllReadyH.nil)
            go_simp
            go_wp2_with ((go_at_call 104; with_reducible refine (K2.out _).mono ?_; rintro e x2 ⟨rfl, y9⟩))
            have z2 := z1.trans (y9.mono z1.size)
            refine hK.out _ _ (HH.out _ z2) (fun hS14 => ?_)
            clear hK K
            try dsimp only at hS14
            refine wpAnyH_take (i := 15) (oi := { dst := some 29, op := Op.unOp UnOp.not 4 (Operand.tmp 28), type := 4, pos := "span.go:65", after := #[{ on := 14, ground := Ground.data }, { on := 7, ground := Ground.guard }], guard := some (7, true) }) (v := ?_) rfl (by kernel_rfl) (by kernel_rfl) (by kernel_rfl) (fun _ _ _ h => h) (Or.inl ⟨by rfl, ?_⟩) (by assumption) ?_
            rotate_left
            · intro w' hSw; obtain ⟨⟨d0, d1, d2, d3⟩, e0, e1, e2, e3⟩ := hSw; go_simp; try with_reducible rfl
            simp only [Act.put, List.setIfInBounds_toArray, List.set_cons_zero, List.set_cons_succ]
            refine wpAnyH_take (i := 16) (oi := { dst := some 30, op := Op.move (Operand.tmp 29), type := 4, pos := "span.go:65", after := #[{ on := 15, ground := Ground.data }, { on := 14, ground := Ground.chain }, { on := 7, ground := Ground.guard }], guard := some (7, true) }) (v := ?_) rfl (by kernel_rfl) (by kernel_rfl) (by kernel_rfl) (fun _ _ _ h => h) (Or.inl ⟨by rfl, ?_⟩) (by assumption) ?_
            rotate_left
            · intro w' hSw; obtain ⟨⟨d0, d1, d2, d3⟩, e0, e1, e2, e3⟩ := hSw; go_simp; try with_reducible rfl
            simp only [Act.put, List.setIfInBounds_toArray, List.set_cons_zero, List.set_cons_succ]
            refine wpAnyH_take (i := 17) (oi := { dst := some 31, op := Op.move (Operand.tmp 0), type := 24, pos := "span.go:65", after := #[{ on := 16, ground := Ground.guard }], guard := some (16, false) }) (v := undef) rfl (by kernel_rfl) (by kernel_rfl) (by kernel_rfl) (fun _ _ _ h => h) (Or.inr ⟨by rfl, rfl⟩) (by assumption) ?_
            simp only [Act.put, List.setIfInBounds_toArray, List.set_cons_zero, List.set_cons_succ]
            refine wpAnyH_take (i := 18) (oi := { dst := some 32, op := Op.move (Operand.tmp 5), type := 3, pos := "span.go:65", after := #[{ on := 16, ground := Ground.guard }], guard := some (16, false) }) (v := undef) rfl (by kernel_rfl) (by kernel_rfl) (by kernel_rfl) (fun _ _ _ h => h) (Or.inr ⟨by rfl, rfl⟩) (by assumption) ?_
            simp only [Act.put, List.setIfInBounds_toArray, List.set_cons_zero, List.set_cons_succ]
            refine wpAnyH_take (i := 19) (oi := { dst := some 33, op := Op.binOp BinOp.sub 3 (Operand.tmp 32) (Operand.const (Value.int IntKind.i64 1)) 3, type := 3, pos := "span.go:65", after := #[{ on := 18, ground := Ground.data }, { on := 16, ground := Ground.guard }], guard := some (16, false) }) (v := undef) rfl (by kernel_rfl) (by kernel_rfl) (by kernel_rfl) (fun _ _ _ h => h) (Or.inr ⟨by rfl, rfl⟩) (by assumption) ?_
            simp only [Act.put, List.setIfInBounds_toArray, List.set_cons_zero, List.set_cons_succ]
            refine wpAnyH_take (i := 20) (oi := { dst := some 34, op := Op.indexAddr 24 (Operand.tmp 31) (Operand.tmp 33), type := 0, pos := "span.go:65", after := #[{ on := 17, ground := Ground.data }, { on := 19, ground := Ground.data }, { on := 16, ground := Ground.guard }], guard := some (16, false) }) (v := undef) rfl (by kernel_rfl) (by kernel_rfl) (by kernel_rfl) (fun _ _ _ h => h) (Or.inr ⟨by rfl, rfl⟩) (by assumption) ?_
            simp only [Act.put, List.setIfInBounds_toArray, List.set_cons_zero, List.set_cons_succ]
            refine wpAnyH_take (i := 21) (oi := { dst := some 35, op := Op.load 87 (Operand.tmp 34), type := 87, pos := "span.go:65", after := #[{ on := 20, ground := Ground.data }, { on := 16, ground := Ground.guard }], guard := some (16, false) }) (v := undef) rfl (by kernel_rfl) (by kernel_rfl) (by kernel_rfl) (fun _ _ _ h => h) (Or.inr ⟨by rfl, rfl⟩) (by assumption) ?_
            simp only [Act.put, List.setIfInBounds_toArray, List.set_cons_zero, List.set_cons_succ]
            refine wpAnyH_take (i := 22) (oi := { dst := some 36, op := Op.load 87 (Operand.tmp 6), type := 87, pos := "span.go:65", after := #[{ on := 16, ground := Ground.guard }], guard := some (16, false) }) (v := undef) rfl (by kernel_rfl) (by kernel_rfl) (by kernel_rfl) (fun _ _ _ h => h) (Or.inr ⟨by rfl, rfl⟩) (by assumption) ?_
            simp only [Act.put, List.setIfInBounds_toArray, List.set_cons_zero, List.set_cons_succ]
            refine wpAnyH_take (i := 23) (oi := { dst := some 37, op := Op.move (Operand.tmp 1), type := 4, pos := "span.go:65", after := #[{ on := 16, ground := Ground.guard }], guard := some (16, false) }) (v := undef) rfl (by kernel_rfl) (by kernel_rfl) (by kernel_rfl) (fun _ _ _ h => h) (Or.inr ⟨by rfl, rfl⟩) (by assumption) ?_
            simp only [Act.put, List.setIfInBounds_toArray, List.set_cons_zero, List.set_cons_succ]
            refine wpAnyH_take (i := 24) (oi := { dst := some 38, op := Op.call { callee := Callee.value (Operand.func 127), args := #[Operand.tmp 35, Operand.tmp 36, Operand.tmp 37], argTypes := #[87, 87, 4] }, type := 4, pos := "span.go:65", after := #[{ on := 21, ground := Ground.data }, { on := 22, ground := Ground.data }, { on := 23, ground := Ground.data }, { on := 16, ground := Ground.chain }, { on := 16, ground := Ground.guard }], guard := some (16, false) }) (v := undef) rfl (by kernel_rfl) (by kernel_rfl) (by kernel_rfl) (fun _ _ _ h => h) (Or.inr ⟨by rfl, rfl⟩) (by assumption) ?_
            simp only [Act.put, List.setIfInBounds_toArray, List.set_cons_zero, List.set_cons_succ]
            refine wpAnyH_take (i := 25) (oi := { dst := some 39, op := Op.pick (Operand.tmp 30) (Operand.const (Value.bool true)) (Operand.tmp 38), type := 4, pos := "span.go:65", after := #[{ on := 16, ground := Ground.data }, { on := 24, ground := Ground.data }, { on := 7, ground := Ground.guard }], guard := some (7, true) }) (v := ?_) rfl (by kernel_rfl) (by kernel_rfl) (by kernel_rfl) (fun _ _ _ h => h) (Or.inl ⟨by rfl, ?_⟩) (by assumption) ?_
            rotate_left
            · intro w' hSw; obtain ⟨⟨d0, d1, d2, d3⟩, e0, e1, e2, e3⟩ := hSw; go_simp; try with_reducible rfl
            simp only [Act.put, List.setIfInBounds_toArray, List.set_cons_zero, List.set_cons_succ]
            refine wpAnyH_take (i := 26) (oi := { dst := some 40, op := Op.pick (Operand.tmp 21) (Operand.tmp 39) (Operand.const (Value.bool false)), type := 4, pos := "span.go:65", after := #[{ on := 7, ground := Ground.data }, { on := 25, ground := Ground.data }, { on := 4, ground := Ground.guard }], guard := some (4, false) }) (v := ?_) rfl (by kernel_rfl) (by kernel_rfl) (by kernel_rfl) (fun _ _ _ h => h) (Or.inl ⟨by rfl, ?_⟩) (by assumption) ?_
            rotate_left
            · intro w' hSw; obtain ⟨⟨d0, d1, d2, d3⟩, e0, e1, e2, e3⟩ := hSw; go_simp; try with_reducible rfl
            simp only [Act.put, List.setIfInBounds_toArray, List.set_cons_zero, List.set_cons_succ]
            refine wpAnyH_take (i := 27) (oi := { dst := some 41, op := Op.pick (Operand.tmp 18) (Operand.const (Value.bool true)) (Operand.tmp 40), type := 4, pos := "span.go:65", after := #[{ on := 4, ground := Ground.data }, { on := 26, ground := Ground.data }], guard := none }) (v := ?_) rfl (by kernel_rfl) (by kernel_rfl) (by kernel_rfl) (fun _ _ _ h => h) (Or.inl ⟨by rfl, ?_⟩) (by assumption) ?_
            rotate_left
            · intro w' hSw; obtain ⟨⟨d0, d1, d2, d3⟩, e0, e1, e2, e3⟩ := hSw; go_simp; try with_reducible rfl
            simp only [Act.put, List.setIfInBounds_toArray, List.set_cons_zero, List.set_cons_succ]
            refine wpAnyH_done (by kernel_rfl) ?_ _
            go_wp2
            go_ret
            exact ⟨⟨j + 1, ⟨by rw [← HN.out]; omega, HO.out, fun _ h => H1.out ((h x HX.out).2 j a rfl HAJ.out).1⟩, by first | rfl | go_num⟩, (Z2.out _ z2).2⟩
      · rw [decide_eq_false hs] at K1
        have HS := Lib.hid hs
        clear hs
        have HH : Hid (∀ w', Below (wr.alloc (.cells #[.int .i64 x.n, .int .i64 x.lo, .int .i64 x.hi, .int .i64 x.to] 87)).heap.size (wr.alloc (.cells #[.int .i64 x.n, .int .i64 x.lo, .int .i64 x.hi, .int .i64 x.to] 87)) w' → (fun w' => w'.cell? ⟨wr.heap.size, 0, none⟩ = some (.int .i64 x.n) ∧ w'.cell? ⟨wr.heap.size, 1, none⟩ = some (.int .i64 x.lo) ∧ w'.cell? ⟨wr.heap.size, 2, none⟩ = some (.int .i64 x.hi) ∧ w'.cell? ⟨wr.heap.size, 3, none⟩ = some (.int .i64 x.to)) w') := Lib.hid fun w' hb => by
          have p := (Z2.out w' hb).1
          exact ⟨p.c0, p.c1, p.c2, p.c3⟩
        go_wp2_with fail
        clear y0 y1 y2 y3
        refine wp_region_held_drew (S := fun w' => w'.cell? ⟨wr.heap.size, 0, none⟩ = some (.int .i64 x.n) ∧ w'.cell? ⟨wr.heap.size, 1, none⟩ = some (.int .i64 x.lo) ∧ w'.cell? ⟨wr.heap.size, 2, none⟩ = some (.int .i64 x.hi) ∧ w'.cell? ⟨wr.heap.size, 3, none⟩ = some (.int .i64 x.to)) (by kernel_rfl) (HH.out _ z0) (fun hS0 => ?_)
        try dsimp only at hS0
        refine wpAnyH_take (i := 0) (oi := { dst := some 14, op := Op.load 87 (Operand.tmp 6), type := 87, pos := "span.go:65", after := #[], guard := none }) (v := ?_) rfl (by kernel_rfl) (by kernel_rfl) (by kernel_rfl) (fun _ _ _ h => h) (Or.inl ⟨by rfl, ?_⟩) (by assumption) ?_
        rotate_left
        · intro w' hSw; obtain ⟨d0, d1, d2, d3⟩ := hSw; go_simp; try with_reducible rfl
        simp only [Act.put, List.setIfInBounds_toArray, List.set_cons_zero, List.set_cons_succ]
        refine wpAnyH_take (i := 1) (oi := { dst := some 15, op := Op.move (Operand.tmp 1), type := 4, pos := "span.go:65", after := #[], guard := none }) (v := ?_) rfl (by kernel_rfl) (by kernel_rfl) (by kernel_rfl) (fun _ _ _ h => h) (Or.inl ⟨by rfl, ?_⟩) (by assumption) ?_
        rotate_left
        · intro w' hSw; obtain ⟨d0, d1, d2, d3⟩ := hSw; go_simp; try with_reducible rfl
        simp only [Act.put, List.setIfInBounds_toArray, List.set_cons_zero, List.set_cons_succ]
        refine wpAnyH_ready (rs := [2]) (by kernel_rfl) (by simp) (AllReadyH.cons rfl (fun K hK => ?_) AllReadyH.nil)
        go_simp
        go_wp2_with ((go_at_call 105; with_reducible refine (K1.out _).mono ?_; rintro e x1 ⟨rfl, y8⟩))
        have z1 := z0.trans (y8.mono z0.size)
        refine hK.out _ _ (HH.out _ z1) (fun hS2 => ?_)
        clear hK K
        try dsimp only at hS2
        refine wpAnyH_take (i := 3) (oi := { dst := some 17, op := Op.unOp UnOp.not 4 (Operand.tmp 16), type := 4, pos := "span.go:65", after := #[{ on := 2, ground := Ground.data }], guard := none }) (v := ?_) rfl (by kernel_rfl) (by kernel_rfl) (by kernel_rfl) (fun _ _ _ h => h) (Or.inl ⟨by rfl, ?_⟩) (by assumption) ?_
        rotate_left
        · intro w' hSw; obtain ⟨d0, d1, d2, d3⟩ := hSw; go_simp; try with_reducible rfl
        simp only [Act.put, List.setIfInBounds_toArray, List.set_cons_zero, List.set_cons_succ]
        refine wpAnyH_take (i := 4) (oi := { dst := some 18, op := Op.move (Operand.tmp 17), type := 4, pos := "span.go:65", after := #[{ on := 3, ground := Ground.data }, { on := 2, ground := Ground.chain }], guard := none }) (v := ?_) rfl (by kernel_rfl) (by kernel_rfl) (by kernel_rfl) (fun _ _ _ h => h) (Or.inl ⟨by rfl, ?_⟩) (by assumption) ?_
        rotate_left
        · intro w' hSw; obtain ⟨d0, d1, d2, d3⟩ := hSw; go_simp; try with_reducible rfl
        simp only [Act.put, List.setIfInBounds_toArray, List.set_cons_zero, List.set_cons_succ]
        refine wpAnyH_take (i := 5) (oi := { dst := some 19, op := Op.move (Operand.tmp 5), type := 3, pos := "span.go:65", after := #[{ on := 4, ground := Ground.guard }], guard := some (4, false) }) (v := undef) rfl (by kernel_rfl) (by kernel_rfl) (by kernel_rfl) (fun _ _ _ h => h) (Or.inr ⟨by rfl, rfl⟩) (by assumption) ?_
        simp only [Act.put, List.setIfInBounds_toArray, List.set_cons_zero, List.set_cons_succ]
        refine wpAnyH_take (i := 6) (oi := { dst := some 20, op := Op.binOp BinOp.gtr 3 (Operand.tmp 19) (Operand.const (Value.int IntKind.i64 0)) 3, type := 4, pos := "span.go:65", after := #[{ on := 5, ground := Ground.data }, { on := 4, ground := Ground.guard }], guard := some (4, false) }) (v := undef) rfl (by kernel_rfl) (by kernel_rfl) (by kernel_rfl) (fun _ _ _ h => h) (Or.inr ⟨by rfl, rfl⟩) (by assumption) ?_
        simp only [Act.put, List.setIfInBounds_toArray, List.set_cons_zero, List.set_cons_succ]
        refine wpAnyH_take (i := 7) (oi := { dst := some 21, op := Op.move (Operand.tmp 20), type := 4, pos := "span.go:65", after := #[{ on := 6, ground := Ground.data }, { on := 4, ground := Ground.chain }, { on := 4, ground := Ground.guard }], guard := some (4, false) }) (v := undef) rfl (by kernel_rfl) (by kernel_rfl) (by kernel_rfl) (fun _ _ _ h => h) (Or.inr ⟨by rfl, rfl⟩) (by assumption) ?_
        simp only [Act.put, List.setIfInBounds_toArray, List.set_cons_zero, List.set_cons_succ]
        refine wpAnyH_take (i := 8) (oi := { dst := some 22, op := Op.move (Operand.tmp 0), type := 24, pos := "span.go:65", after := #[{ on := 7, ground := Ground.guard }], guard := some (7, true) }) (v := undef) rfl (by kernel_rfl) (by kernel_rfl) (by kernel_rfl) (fun _ _ _ h => h) (Or.inr ⟨by rfl, rfl⟩) (by assumption) ?_
        simp only [Act.put, List.setIfInBounds_toArray, List.set_cons_zero, List.set_cons_succ]
        refine wpAnyH_take (i := 9) (oi := { dst := some 23, op := Op.move (Operand.tmp 5), type := 3, pos := "span.go:65", after := #[{ on := 7, ground := Ground.guard }], guard := some (7, true) }) (v := undef) rfl (by kernel_rfl) (by kernel_rfl) (by kernel_rfl) (fun _ _ _ h => h) (Or.inr ⟨by rfl, rfl⟩) (by assumption) ?_
        simp only [Act.put, List.setIfInBounds_toArray, List.set_cons_zero, List.set_cons_succ]
        refine wpAnyH_take (i := 10) (oi := { dst := some 24, op := Op.binOp BinOp.sub 3 (Operand.tmp 23) (Operand.const (Value.int IntKind.i64 1)) 3, type := 3, pos := "span.go:65", after := #[{ on := 9, ground := Ground.data }, { on := 7, ground := Ground.guard }], guard := some (7, true) }) (v := undef) rfl (by kernel_rfl) (by kernel_rfl) (by kernel_rfl) (fun _ _ _ h => h) (Or.inr ⟨by rfl, rfl⟩) (by assumption) ?_
        simp only [Act.put, List.setIfInBounds_toArray, List.set_cons_zero, List.set_cons_succ]
        refine wpAnyH_take (i := 11) (oi := { dst := some 25, op := Op.indexAddr 24 (Operand.tmp 22) (Operand.tmp 24), type := 0, pos := "span.go:65", after := #[{ on := 8, ground := Ground.data }, { on := 10, ground := Ground.data }, { on := 7, ground := Ground.guard }], guard := some (7, true) }) (v := undef) rfl (by kernel_rfl) (by kernel_rfl) (by kernel_rfl) (fun _ _ _ h => h) (Or.inr ⟨by rfl, rfl⟩) (by assumption) ?_
        simp only [Act.put, List.setIfInBounds_toArray, List.set_cons_zero, List.set_cons_succ]
        refine wpAnyH_take (i := 12) (oi := { dst := some 26, op := Op.load 87 (Operand.tmp 25), type := 87, pos := "span.go:65", after := #[{ on := 11, ground := Ground.data }, { on := 7, ground := Ground.guard }], guard := some (7, true) }) (v := undef) rfl (by kernel_rfl) (by kernel_rfl) (by kernel_rfl) (fun _ _ _ h => h) (Or.inr ⟨by rfl, rfl⟩) (by assumption) ?_
        simp only [Act.put, List.setIfInBounds_toArray, List.set_cons_zero, List.set_cons_succ]
        refine wpAnyH_take (i := 13) (oi := { dst := some 27, op := Op.load 87 (Operand.tmp 6), type := 87, pos := "span.go:65", after := #[{ on := 7, ground := Ground.guard }], guard := some (7, true) }) (v := undef) rfl (by kernel_rfl) (by kernel_rfl) (by kernel_rfl) (fun _ _ _ h => h) (Or.inr ⟨by rfl, rfl⟩) (by assumption) ?_
        simp only [Act.put, List.setIfInBounds_toArray, List.set_cons_zero, List.set_cons_succ]
        refine wpAnyH_take (i := 14) (oi := { dst := some 28, op := Op.call { callee := Callee.value (Operand.func 104), args := #[Operand.tmp 26, Operand.tmp 27], argTypes := #[87, 87] }, type := 4, pos := "span.go:65", after := #[{ on := 12, ground := Ground.data }, { on := 13, ground := Ground.data }, { on := 7, ground := Ground.chain }, { on := 7, ground := Ground.guard }], guard := some (7, true) }) (v := undef) rfl (by kernel_rfl) (by kernel_rfl) (by kernel_rfl) (fun _ _ _ h => h) (Or.inr ⟨by rfl, rfl⟩) (by assumption) ?_
        simp only [Act.put, List.setIfInBounds_toArray, List.set_cons_zero, List.set_cons_succ]
        refine wpAnyH_take (i := 15) (oi := { dst := some 29, op := Op.unOp UnOp.not 4 (Operand.tmp 28), type := 4, pos := "span.go:65", after := #[{ on := 14, ground := Ground.data }, { on := 7, ground := Ground.guard }], guard := some (7, true) }) (v := undef) rfl (by kernel_rfl) (by kernel_rfl) (by kernel_rfl) (fun _ _ _ h => h) (Or.inr ⟨by rfl, rfl⟩) (by assumption) ?_
        simp only [Act.put, List.setIfInBounds_toArray, List.set_cons_zero, List.set_cons_succ]
        refine wpAnyH_take (i := 16) (oi := { dst := some 30, op := Op.move (Operand.tmp 29), type := 4, pos := "span.go:65", after := #[{ on := 15, ground := Ground.data }, { on := 14, ground := Ground.chain }, { on := 7, ground := Ground.guard }], guard := some (7, true) }) (v := undef) rfl (by kernel_rfl) (by kernel_rfl) (by kernel_rfl) (fun _ _ _ h => h) (Or.inr ⟨by rfl, rfl⟩) (by assumption) ?_
        simp only [Act.put, List.setIfInBounds_toArray, List.set_cons_zero, List.set_cons_succ]
        refine wpAnyH_take (i := 17) (oi := { dst := some 31, op := Op.move (Operand.tmp 0), type := 24, pos := "span.go:65", after := #[{ on := 16, ground := Ground.guard }], guard := some (16, false) }) (v := undef) rfl (by kernel_rfl) (by kernel_rfl) (by kernel_rfl) (fun _ _ _ h => h) (Or.inr ⟨by rfl, rfl⟩) (by assumption) ?_
        simp only [Act.put, List.setIfInBounds_toArray, List.set_cons_zero, List.set_cons_succ]
        refine wpAnyH_take (i := 18) (oi := { dst := some 32, op := Op.move (Operand.tmp 5), type := 3, pos := "span.go:65", after := #[{ on := 16, ground := Ground.guard }], guard := some (16, false) }) (v := undef) rfl (by kernel_rfl) (by kernel_rfl) (by kernel_rfl) (fun _ _ _ h => h) (Or.inr ⟨by rfl, rfl⟩) (by assumption) ?_
        simp only [Act.put, List.setIfInBounds_toArray, List.set_cons_zero, List.set_cons_succ]
        refine wpAnyH_take (i := 19) (oi := { dst := some 33, op := Op.binOp BinOp.sub 3 (Operand.tmp 32) (Operand.const (Value.int IntKind.i64 1)) 3, type := 3, pos := "span.go:65", after := #[{ on := 18, ground := Ground.data }, { on := 16, ground := Ground.guard }], guard := some (16, false) }) (v := undef) rfl (by kernel_rfl) (by kernel_rfl) (by kernel_rfl) (fun _ _ _ h => h) (Or.inr ⟨by rfl, rfl⟩) (by assumption) ?_
        simp only [Act.put, List.setIfInBounds_toArray, List.set_cons_zero, List.set_cons_succ]
        refine wpAnyH_take (i := 20) (oi := { dst := some 34, op := Op.indexAddr 24 (Operand.tmp 31) (Operand.tmp 33), type := 0, pos := "span.go:65", after := #[{ on := 17, ground := Ground.data }, { on := 19, ground := Ground.data }, { on := 16, ground := Ground.guard }], guard := some (16, false) }) (v := undef) rfl (by kernel_rfl) (by kernel_rfl) (by kernel_rfl) (fun _ _ _ h => h) (Or.inr ⟨by rfl, rfl⟩) (by assumption) ?_
        simp only [Act.put, List.setIfInBounds_toArray, List.set_cons_zero, List.set_cons_succ]
        refine wpAnyH_take (i := 21) (oi := { dst := some 35, op := Op.load 87 (Operand.tmp 34), type := 87, pos := "span.go:65", after := #[{ on := 20, ground := Ground.data }, { on := 16, ground := Ground.guard }], guard := some (16, false) }) (v := undef) rfl (by kernel_rfl) (by kernel_rfl) (by kernel_rfl) (fun _ _ _ h => h) (Or.inr ⟨by rfl, rfl⟩) (by assumption) ?_
        simp only [Act.put, List.setIfInBounds_toArray, List.set_cons_zero, List.set_cons_succ]
        refine wpAnyH_take (i := 22) (oi := { dst := some 36, op := Op.load 87 (Operand.tmp 6), type := 87, pos := "span.go:65", after := #[{ on := 16, ground := Ground.guard }], guard := some (16, false) }) (v := undef) rfl (by kernel_rfl) (by kernel_rfl) (by kernel_rfl) (fun _ _ _ h => h) (Or.inr ⟨by rfl, rfl⟩) (by assumption) ?_
        simp only [Act.put, List.setIfInBounds_toArray, List.set_cons_zero, List.set_cons_succ]
        refine wpAnyH_take (i := 23) (oi := { dst := some 37, op := Op.move (Operand.tmp 1), type := 4, pos := "span.go:65", after := #[{ on := 16, ground := Ground.guard }], guard := some (16, false) }) (v := undef) rfl (by kernel_rfl) (by kernel_rfl) (by kernel_rfl) (fun _ _ _ h => h) (Or.inr ⟨by rfl, rfl⟩) (by assumption) ?_
        simp only [Act.put, List.setIfInBounds_toArray, List.set_cons_zero, List.set_cons_succ]
        refine wpAnyH_take (i := 24) (oi := { dst := some 38, op := Op.call { callee := Callee.value (Operand.func 127), args := #[Operand.tmp 35, Operand.tmp 36, Operand.tmp 37], argTypes := #[87, 87, 4] }, type := 4, pos := "span.go:65", after := #[{ on := 21, ground := Ground.data }, { on := 22, ground := Ground.data }, { on := 23, ground := Ground.data }, { on := 16, ground := Ground.chain }, { on := 16, ground := Ground.guard }], guard := some (16, false) }) (v := undef) rfl (by kernel_rfl) (by kernel_rfl) (by kernel_rfl) (fun _ _ _ h => h) (Or.inr ⟨by rfl, rfl⟩) (by assumption) ?_
        simp only [Act.put, List.setIfInBounds_toArray, List.set_cons_zero, List.set_cons_succ]
        refine wpAnyH_take (i := 25) (oi := { dst := some 39, op := Op.pick (Operand.tmp 30) (Operand.const (Value.bool true)) (Operand.tmp 38), type := 4, pos := "span.go:65", after := #[{ on := 16, ground := Ground.data }, { on := 24, ground := Ground.data }, { on := 7, ground := Ground.guard }], guard := some (7, true) }) (v := undef) rfl (by kernel_rfl) (by kernel_rfl) (by kernel_rfl) (fun _ _ _ h => h) (Or.inr ⟨by rfl, rfl⟩) (by assumption) ?_
        simp only [Act.put, List.setIfInBounds_toArray, List.set_cons_zero, List.set_cons_succ]
        refine wpAnyH_take (i := 26) (oi := { dst := some 40, op := Op.pick (Operand.tmp 21) (Operand.tmp 39) (Operand.const (Value.bool false)), type := 4, pos := "span.go:65", after := #[{ on := 7, ground := Ground.data }, { on := 25, ground := Ground.data }, { on := 4, ground := Ground.guard }], guard := some (4, false) }) (v := undef) rfl (by kernel_rfl) (by kernel_rfl) (by kernel_rfl) (fun _ _ _ h => h) (Or.inr ⟨by rfl, rfl⟩) (by assumption) ?_
        simp only [Act.put, List.setIfInBounds_toArray, List.set_cons_zero, List.set_cons_succ]
        refine wpAnyH_take (i := 27) (oi := { dst := some 41, op := Op.pick (Operand.tmp 18) (Operand.const (Value.bool true)) (Operand.tmp 40), type := 4, pos := "span.go:65", after := #[{ on := 4, ground := Ground.data }, { on := 26, ground := Ground.data }], guard := none }) (v := ?_) rfl (by kernel_rfl) (by kernel_rfl) (by kernel_rfl) (fun _ _ _ h => h) (Or.inl ⟨by rfl, ?_⟩) (by assumption) ?_
        rotate_left
        · intro w' hSw; obtain ⟨d0, d1, d2, d3⟩ := hSw; go_simp; try with_reducible rfl
        simp only [Act.put, List.setIfInBounds_toArray, List.set_cons_zero, List.set_cons_succ]
        refine wpAnyH_done (by kernel_rfl) ?_ _
        go_wp2
        go_ret
        exact ⟨⟨k, ⟨by rw [← HN.out]; omega, HO.out, fun _ h => HS.out (h x HX.out).1⟩, by first | rfl | go_num⟩, (Z2.out _ z1).2⟩
    · have t0 : decide (k < n) = false := decide_eq_false hlt
      obtain rfl : k = n := by omega
      go_wp2
      go_ret
      exact ⟨⟨k, ⟨by rw [HN.out]; exact Nat.le_refl _, HO.out, fun h => absurd h (by have := HN.out; omega)⟩, rfl⟩, hbel⟩
end Go.Proofs.YtmjneokjgcgchaaGreat
/-
  The program's own Canon; slices.BinarySearchFunc at spans; Find.
-/
namespace Go.Proofs.YtmjneokjgcgchaaGreat
open Go.RowKit
attribute [local go_sem ↓] Go.wp_at_zero Go.wp_at_succ

noncomputable instance cnDec (st : Bool) (l : List Sp) : Decidable (Cn st l) := Classical.propDecidable _
theorem RunR.all {st : Bool} {l : List Sp} {k : Nat} (h : RunR st l k) : ((k : Int) == (l.length : Int)) = decide (Cn st l) := by
  obtain ⟨h1, h2, h3⟩ := h
  by_cases hk : k = l.length
  · subst hk
    rw [decide_eq_true h2.cn]
    simp
  · have : ¬ Cn st l := fun hc => h3 (by omega) (hc.okk (k + 1) k (by omega))
    rw [decide_eq_false this]
    simp
    omega
set_option maxHeartbeats 1000000 in
theorem SCanon_any (st : Bool) (A : Option Addr) (c : Nat) (l : List Sp) (w : World) (hA : Ss w w.heap.size A l) (hl : l.length ≤ 1048576) :
    Calls Tryz.prog 47 #[.slice A l.length c, .bool st] w fun e w' => e = .returned (.bool (decide (Cn st l))) ∧ Below w.heap.size w w' := by
  have K1 := Lib.hid (run_any st A c l w hA hl)
  obtain ⟨d, hd⟩ : ∃ d, d = decide (Cn st l) := ⟨_, rfl⟩
  rw [← hd]
  have HD := Lib.hid hd
  clear hA hl hd
  go_enter Tryz.func47, Tryz.ntmps47
  go_wp2_with fail
  refine K1.out.mono ?_
  rintro e w1 ⟨⟨k, hk, rfl⟩, hb⟩
  have hk2 := hk.all
  rw [← HD.out] at hk2
  have HK := Lib.hid hk2
  clear hk hk2 K1
  go_wp2
  go_ret
  exact ⟨by first | exact rfl | (rw [HK.out]; exact rfl), hb⟩
/-- What BinarySearchFunc tells. -/
def Srch (l : List Sp) (y : Sp) (i : Nat) (ok : Bool) : Prop := i ≤ l.length ∧ (ok = true → ∃ s, l[i]? = some s ∧ ¬ ahS s y ∧ ¬ ahS y s) ∧ (ok = false → ∀ s ∈ l, ahS s y ∨ ahS y s)
theorem cmpS_neg {a b : Sp} : cmpS a b < 0 ↔ ahS a b := by
  unfold cmpS
  split
  · simp [*]
  · split <;> simp [*]
theorem cmpS_zero {a b : Sp} : cmpS a b = 0 ↔ ¬ ahS a b ∧ ¬ ahS b a := by
  unfold cmpS
  split
  · simp [*]
  · split <;> simp [*]
set_option maxRecDepth 100000 in
set_option maxHeartbeats 4000000 in
theorem bsearch_any (st : Bool) (A : Option Addr) (c : Nat) (l : List Sp) (y : Sp) (w : World) (hA : Ss w w.heap.size A l) (hl : l.length ≤ 1048576) (hc : Cn st l) :
    Calls Tryz.prog 52 #[.slice A l.length c, sv y, .func (.func 53) #[] #[]] w fun e w' => (∃ (i : Nat) (ok : Bool), Srch l y i ok ∧ e = .returned (.tuple #[.int .i64 (i : Int), .bool ok])) ∧ Below w.heap.size w w' := by
  have HA := Lib.hid hA
  have M1 : Hid (∀ (t h : Nat) (a b : Sp), l[t]? = some a → l[h]? = some b → t ≤ h → ahS b y → ahS a y) := Lib.hid fun t h a b ha hb hth hy => by
    rcases Nat.lt_or_ge t h with k | k
    · have hp := List.pairwise_iff_getElem.1 hc.2 t h (List.getElem?_eq_some_iff.1 ha).1 (List.getElem?_eq_some_iff.1 hb).1 k
      rw [(List.getElem?_eq_some_iff.1 ha).2, (List.getElem?_eq_some_iff.1 hb).2] at hp
      exact hp.1.trans hy (hc.lo (List.mem_of_getElem? hb))
    · obtain rfl : t = h := by omega
      rw [ha] at hb
      cases hb
      exact hy
  have M2 : Hid (∀ (t h : Nat) (a b : Sp), l[t]? = some a → l[h]? = some b → t ≤ h → ahS y a → ahS y b) := Lib.hid fun t h a b ha hb hth hy => by
    rcases Nat.lt_or_ge t h with k | k
    · have hp := List.pairwise_iff_getElem.1 hc.2 t h (List.getElem?_eq_some_iff.1 ha).1 (List.getElem?_eq_some_iff.1 hb).1 k
      rw [(List.getElem?_eq_some_iff.1 ha).2, (List.getElem?_eq_some_iff.1 hb).2] at hp
      exact hy.trans hp.1 (hc.lo (List.mem_of_getElem? ha))
    · obtain rfl : t = h := by omega
      rw [ha] at hb
      cases hb
      exact hy
  obtain ⟨n, hn⟩ : ∃ n, n = l.length := ⟨_, rfl⟩
  have HN := Lib.hid hn
  rw [← hn] at hl ⊢
  clear hn hA hc
  obtain ⟨yn, ylo, yhi, yto⟩ := y
  unfold sv
  go_enter Tryz.func52, Tryz.ntmps52
  go_wp2
  have hb0 : Below w.heap.size w (w.alloc (.cells #[.int .i64 yn, .int .i64 ylo, .int .i64 yhi, .int .i64 yto] 87)) := (Below.refl _ _).alloc (Nat.le_refl _) _
  have hy0 := Bs.new w ⟨yn, ylo, yhi, yto⟩ 87
  go_loopw [9, 10] (fun i j wr => ∃ lo hi : Nat, lo ≤ hi ∧ hi ≤ n ∧ i = .int .i64 (lo : Int) ∧ j = .int .i64 (hi : Int) ∧ Hid ((∀ (t : Nat) (a : Sp), t < lo → l[t]? = some a → ahS a ⟨yn, ylo, yhi, yto⟩) ∧ (∀ (t : Nat) (a : Sp), hi ≤ t → l[t]? = some a → ¬ ahS a ⟨yn, ylo, yhi, yto⟩)) ∧ Bs wr w.heap.size ⟨yn, ylo, yhi, yto⟩ ∧ Below w.heap.size w wr ∧ w.heap.size < wr.heap.size) (fun i j _ => (intOf j - intOf i).toNat)
  case atStart => exact ⟨0, n, Nat.zero_le _, Nat.le_refl _, rfl, rfl, Lib.hid ⟨fun t a h => by omega, fun t a h ha => by have := (List.getElem?_eq_some_iff.1 ha).1; have := HN.out; omega⟩, hy0, hb0, by simp⟩
  case round =>
    clear hy0 hb0
    obtain ⟨lo, hi, h1, h2, rfl, rfl, HI, hy, hbel, hz⟩ := hrel
    by_cases hlt : lo < hi
    · have t0 : decide (lo < hi) = true := decide_eq_true hlt
      have em : ((lo : Int) + (hi : Int)) / 2 = (((lo + hi) / 2 : Nat) : Int) := by omega
      obtain ⟨h, hh⟩ : ∃ h, h = (lo + hi) / 2 := ⟨_, rfl⟩
      rw [← hh] at em
      have hx := List.getElem?_eq_getElem (l := l) (i := h) (by have := HN.out; omega)
      generalize l[h]'(by have := HN.out; omega) = x at *
      have hhn : h < n := by omega
      obtain ⟨b, o, rfl, hb, ⟨y0, y1, y2, y3⟩⟩ := (HA.out.below hbel).at hx
      obtain ⟨g0, g1, g2, g3⟩ := hy
      simp only [Nat.zero_add] at g1 g2 g3
      have K1 := Lib.hid (fun W => SCompare_any x ⟨yn, ylo, yhi, yto⟩ W)
      unfold sv at K1
      have HX := Lib.hid hx
      have HHH := Lib.hid hh
      clear hx hh
      have hSS : ∀ w', Below wr.heap.size wr w' → (w'.cell? ⟨b, o + h * 4, none⟩ = some (.int .i64 x.n) ∧ w'.cell? ⟨b, o + h * 4 + 1, none⟩ = some (.int .i64 x.lo) ∧ w'.cell? ⟨b, o + h * 4 + 2, none⟩ = some (.int .i64 x.hi) ∧ w'.cell? ⟨b, o + h * 4 + 3, none⟩ = some (.int .i64 x.to)) ∧ w'.cell? ⟨w.heap.size, 0, none⟩ = some (.int .i64 yn) ∧ w'.cell? ⟨w.heap.size, 1, none⟩ = some (.int .i64 ylo) ∧ w'.cell? ⟨w.heap.size, 2, none⟩ = some (.int .i64 yhi) ∧ w'.cell? ⟨w.heap.size, 3, none⟩ = some (.int .i64 yto) := fun w' hw => by
        have hbz := Nat.lt_of_lt_of_le hb hbel.size
        have q := S4.keep (w' := w') ⟨y0, y1, y2, y3⟩ fun i => hw.cell (p := ⟨b, i, none⟩) hbz
        have p : Bs w' w.heap.size ⟨yn, ylo, yhi, yto⟩ := Bs.below ⟨g0, g1, g2, g3⟩ hw hz
        exact ⟨⟨q.c0, q.c1, q.c2, q.c3⟩, p.c0, p.c1, p.c2, p.c3⟩
      have HH := Lib.hid hSS
      have z0 : Below wr.heap.size wr wr.drew := (Below.refl _ _).drew
      have HY : Hid (∀ w', Below wr.heap.size wr w' → Bs w' w.heap.size ⟨yn, ylo, yhi, yto⟩ ∧ Below w.heap.size w w' ∧ w.heap.size < w'.heap.size) := Lib.hid fun w' hw => ⟨Bs.below ⟨g0, g1, g2, g3⟩ hw hz, hbel.trans (hw.mono hbel.size), Nat.lt_of_lt_of_le hz hw.size⟩
      have hm1 : lo ≤ h := by have := HHH.out; omega
      have hm2 : h < hi := by have := HHH.out; omega
      clear y0 y1 y2 y3 g0 g1 g2 g3 hSS hbel
      cases hcm : decide (cmpS x ⟨yn, ylo, yhi, yto⟩ < 0) with
      | true =>
        have HCM := Lib.hid (cmpS_neg.1 (of_decide_eq_true hcm))
        generalize cmpS x ⟨yn, ylo, yhi, yto⟩ = cm at *
        go_wp2_with fail
        go_region_held (fun w' => (w'.cell? ⟨b, o + h * 4, none⟩ = some (.int .i64 x.n) ∧ w'.cell? ⟨b, o + h * 4 + 1, none⟩ = some (.int .i64 x.lo) ∧ w'.cell? ⟨b, o + h * 4 + 2, none⟩ = some (.int .i64 x.hi) ∧ w'.cell? ⟨b, o + h * 4 + 3, none⟩ = some (.int .i64 x.to)) ∧ w'.cell? ⟨w.heap.size, 0, none⟩ = some (.int .i64 yn) ∧ w'.cell? ⟨w.heap.size, 1, none⟩ = some (.int .i64 ylo) ∧ w'.cell? ⟨w.heap.size, 2, none⟩ = some (.int .i64 yhi) ∧ w'.cell? ⟨w.heap.size, 3, none⟩ = some (.int .i64 yto))
          (first | with_reducible exact HH.out _ z8 | with_reducible exact HH.out _ z0)
          ((go_at_call 53; with_reducible refine (K1.out _).mono ?_; rintro e x1 ⟨rfl, y8⟩; have z8 := z0.trans (y8.mono z0.size)))
        all_goals
          go_wp2
          refine ⟨⟨h + 1, hi, by omega, h2, by first | rfl | (congr 1; omega), rfl, Lib.hid ⟨fun t a ht ha => ?_, HI.out.2⟩, HY.out _ z8⟩, by simp [intOf]; omega⟩
          exact M1.out t h a x ha HX.out (by omega) HCM.out
      | false =>
        have HCM := Lib.hid (mt cmpS_neg.2 (of_decide_eq_false hcm))
        generalize cmpS x ⟨yn, ylo, yhi, yto⟩ = cm at *
        go_wp2_with fail
        go_region_held (fun w' => (w'.cell? ⟨b, o + h * 4, none⟩ = some (.int .i64 x.n) ∧ w'.cell? ⟨b, o + h * 4 + 1, none⟩ = some (.int .i64 x.lo) ∧ w'.cell? ⟨b, o + h * 4 + 2, none⟩ = some (.int .i64 x.hi) ∧ w'.cell? ⟨b, o + h * 4 + 3, none⟩ = some (.int .i64 x.to)) ∧ w'.cell? ⟨w.heap.size, 0, none⟩ = some (.int .i64 yn) ∧ w'.cell? ⟨w.heap.size, 1, none⟩ = some (.int .i64 ylo) ∧ w'.cell? ⟨w.heap.size, 2, none⟩ = some (.int .i64 yhi) ∧ w'.cell? ⟨w.heap.size, 3, none⟩ = some (.int .i64 yto))
          (first | with_reducible exact HH.out _ z8 | with_reducible exact HH.out _ z0)
          ((go_at_call 53; with_reducible refine (K1.out _).mono ?_; rintro e x1 ⟨rfl, y8⟩; have z8 := z0.trans (y8.mono z0.size)))
        all_goals
          go_wp2
          refine ⟨⟨lo, h, by omega, by omega, rfl, by first | rfl | (congr 1; omega), Lib.hid ⟨HI.out.1, fun t a ht ha hay => ?_⟩, HY.out _ z8⟩, by simp [intOf]; omega⟩
          exact HCM.out (M1.out h t x a HX.out ha ht hay)
    · have t0 : decide (lo < hi) = false := decide_eq_false hlt
      obtain rfl : lo = hi := by omega
      by_cases hln : lo < n
      · have t1 : decide (lo < n) = true := decide_eq_true hln
        obtain ⟨h, hh⟩ : ∃ h, h = lo := ⟨_, rfl⟩
        have hx := List.getElem?_eq_getElem (l := l) (i := lo) (by have := HN.out; omega)
        generalize l[lo]'(by have := HN.out; omega) = x at *
        obtain ⟨b, o, rfl, hb, ⟨y0, y1, y2, y3⟩⟩ := (HA.out.below hbel).at hx
        obtain ⟨g0, g1, g2, g3⟩ := hy
        simp only [Nat.zero_add] at g1 g2 g3
        have K1 := Lib.hid (fun W => SCompare_any x ⟨yn, ylo, yhi, yto⟩ W)
        unfold sv at K1
        have HX := Lib.hid hx
        clear hx
        have hSS : ∀ w', Below wr.heap.size wr w' → (w'.cell? ⟨b, o + lo * 4, none⟩ = some (.int .i64 x.n) ∧ w'.cell? ⟨b, o + lo * 4 + 1, none⟩ = some (.int .i64 x.lo) ∧ w'.cell? ⟨b, o + lo * 4 + 2, none⟩ = some (.int .i64 x.hi) ∧ w'.cell? ⟨b, o + lo * 4 + 3, none⟩ = some (.int .i64 x.to)) ∧ w'.cell? ⟨w.heap.size, 0, none⟩ = some (.int .i64 yn) ∧ w'.cell? ⟨w.heap.size, 1, none⟩ = some (.int .i64 ylo) ∧ w'.cell? ⟨w.heap.size, 2, none⟩ = some (.int .i64 yhi) ∧ w'.cell? ⟨w.heap.size, 3, none⟩ = some (.int .i64 yto) := fun w' hw => by
          have hbz := Nat.lt_of_lt_of_le hb hbel.size
          have q := S4.keep (w' := w') ⟨y0, y1, y2, y3⟩ fun i => hw.cell (p := ⟨b, i, none⟩) hbz
          have p : Bs w' w.heap.size ⟨yn, ylo, yhi, yto⟩ := Bs.below ⟨g0, g1, g2, g3⟩ hw hz
          exact ⟨⟨q.c0, q.c1, q.c2, q.c3⟩, p.c0, p.c1, p.c2, p.c3⟩
        have HH := Lib.hid hSS
        have z0 : Below wr.heap.size wr wr.drew := (Below.refl _ _).drew
        have HY : Hid (∀ w', Below wr.heap.size wr w' → Bs w' w.heap.size ⟨yn, ylo, yhi, yto⟩ ∧ Below w.heap.size w w' ∧ w.heap.size < w'.heap.size) := Lib.hid fun w' hw => ⟨Bs.below ⟨g0, g1, g2, g3⟩ hw hz, hbel.trans (hw.mono hbel.size), Nat.lt_of_lt_of_le hz hw.size⟩
        clear y0 y1 y2 y3 g0 g1 g2 g3 hSS hbel
        cases hcm : (cmpS x ⟨yn, ylo, yhi, yto⟩ == 0)
        all_goals
          have HCM := Lib.hid hcm
          generalize hcx : cmpS x ⟨yn, ylo, yhi, yto⟩ = cm at *
          have HCX := Lib.hid hcx
          clear hcx
          go_wp2_with fail
          go_region_held (fun w' => (w'.cell? ⟨b, o + lo * 4, none⟩ = some (.int .i64 x.n) ∧ w'.cell? ⟨b, o + lo * 4 + 1, none⟩ = some (.int .i64 x.lo) ∧ w'.cell? ⟨b, o + lo * 4 + 2, none⟩ = some (.int .i64 x.hi) ∧ w'.cell? ⟨b, o + lo * 4 + 3, none⟩ = some (.int .i64 x.to)) ∧ w'.cell? ⟨w.heap.size, 0, none⟩ = some (.int .i64 yn) ∧ w'.cell? ⟨w.heap.size, 1, none⟩ = some (.int .i64 ylo) ∧ w'.cell? ⟨w.heap.size, 2, none⟩ = some (.int .i64 yhi) ∧ w'.cell? ⟨w.heap.size, 3, none⟩ = some (.int .i64 yto))
            (first | with_reducible exact HH.out _ z8 | with_reducible exact HH.out _ z0)
            ((go_at_call 53; with_reducible refine (K1.out _).mono ?_; rintro e x1 ⟨rfl, y8⟩; have z8 := z0.trans (y8.mono z0.size)))
        · all_goals
            go_wp2
            go_returns
            refine ⟨⟨lo, false, ⟨by rw [← HN.out]; exact h2, fun e => (by cases e), fun _ s hs => ?_⟩, rfl⟩, (HY.out _ z8).2.1⟩
            have hne : ¬ cmpS x ⟨yn, ylo, yhi, yto⟩ = 0 := by rw [HCX.out]; simpa using HCM.out
            have hyx : ahS ⟨yn, ylo, yhi, yto⟩ x := Classical.byContradiction fun hn => hne (cmpS_zero.2 ⟨HI.out.2 lo x (Nat.le_refl _) HX.out, hn⟩)
            obtain ⟨t, ht, es⟩ := List.getElem_of_mem hs
            have hts : l[t]? = some s := by rw [List.getElem?_eq_getElem ht, es]
            rcases Nat.lt_or_ge t lo with k | k
            · exact .inl (HI.out.1 t s k hts)
            · exact .inr (M2.out lo t x s HX.out hts k hyx)
        · all_goals
            go_wp2
            go_returns
            refine ⟨⟨lo, true, ⟨by rw [← HN.out]; exact h2, fun _ => ⟨x, HX.out, ?_⟩, fun e => (by cases e)⟩, rfl⟩, (HY.out _ z8).2.1⟩
            have h0 : cmpS x ⟨yn, ylo, yhi, yto⟩ = 0 := by rw [HCX.out]; simpa using HCM.out
            exact cmpS_zero.1 h0
      · have t1 : decide (lo < n) = false := decide_eq_false hln
        go_wp2
        go_quiet (fail)
        go_wp2
        go_returns
        refine ⟨⟨lo, false, ⟨by rw [← HN.out]; exact h2, fun e => (by cases e), fun _ s hs => ?_⟩, rfl⟩, below_drewN hbel _⟩
        obtain ⟨t, ht, es⟩ := List.getElem_of_mem hs
        exact .inl (HI.out.1 t s (by have := HN.out; omega) (by rw [List.getElem?_eq_getElem ht, es]))
end Go.Proofs.YtmjneokjgcgchaaGreat
/-
  The program's own Find.
-/
namespace Go.Proofs.YtmjneokjgcgchaaGreat
open Go.RowKit
attribute [local go_sem ↓] Go.wp_at_zero Go.wp_at_succ

/-- What a table tells of a code. -/
noncomputable def findS (st : Bool) (l : List Sp) (n v : Int) : Option Int := if Cn st l then lastS st l n v else none
theorem Srch.yes {st : Bool} {l : List Sp} {n v : Int} {i : Nat} (hc : Cn st l) (h : Srch l ⟨n, v, v, 0⟩ i true) : ∃ s, l[i]? = some s ∧ lastS st l n v = toS st s n v := by
  obtain ⟨s, hs, h1, h2⟩ := h.2.1 rfl
  refine ⟨s, hs, ?_⟩
  have hm := List.mem_of_getElem? hs
  have e : n = s.n ∧ s.lo ≤ v ∧ v ≤ s.hi := by
    unfold ahS at h1 h2
    simp only at h1 h2
    omega
  obtain ⟨rfl, e1, e2⟩ := e
  rw [hc.of hm e1 e2, toS_yes (hc.1 s hm) e1 e2]
theorem Srch.no {st : Bool} {l : List Sp} {n v : Int} {i : Nat} (h : Srch l ⟨n, v, v, 0⟩ i false) : lastS st l n v = none := by
  rw [lastS_none]
  intro s hs
  rcases h.2.2 rfl s hs with k | k
  · refine toS_none fun q => ?_
    unfold ahS at k
    simp only at k
    omega
  · refine toS_none fun q => ?_
    unfold ahS at k
    simp only at k
    omega
set_option maxRecDepth 100000 in
set_option maxHeartbeats 4000000 in
theorem Find_any (st : Bool) (A : Option Addr) (c : Nat) (l : List Sp) (n v : Int) (w : World) (hA : Ss w w.heap.size A l) (hl : l.length ≤ 1048576) :
    Calls Tryz.prog 26 #[.slice A l.length c, .agg #[.int .i64 n, .int .i64 v], .bool st] w fun e w' => e = .returned (oV (findS st l n v)) ∧ Below w.heap.size w w' := by
  obtain ⟨r, hr⟩ : ∃ r, r = findS st l n v := ⟨_, rfl⟩
  rw [← hr]
  have HR := Lib.hid hr
  have HA := Lib.hid hA
  have hb0 : Below w.heap.size w (w.alloc (.cells #[.int .i64 n, .int .i64 v] 54)) := (Below.refl _ _).alloc (Nat.le_refl _) _
  have hd0 := Bd.new w n v 54
  have hz0 : w.heap.size < (w.alloc (.cells #[.int .i64 n, .int .i64 v] 54)).heap.size := by simp
  have K1 := Lib.hid (SCanon_any st A c l (w.alloc (.cells #[.int .i64 n, .int .i64 v] 54)) (hA.over hb0) hl)
  obtain ⟨k, hk⟩ : ∃ k, k = l.length := ⟨_, rfl⟩
  have HK := Lib.hid hk
  have K2 : Hid (Cn st l → ∀ W, Below w.heap.size w W → Calls Tryz.prog 52 #[.slice A k c, .agg #[.int .i64 n, .int .i64 v, .int .i64 v, .int .i64 0], .func (.func 53) #[] #[]] W fun e w' => (∃ (i : Nat) (ok : Bool), Srch l ⟨n, v, v, 0⟩ i ok ∧ e = .returned (.tuple #[.int .i64 (i : Int), .bool ok])) ∧ Below W.heap.size W w') := Lib.hid fun h W hW => by
    have := bsearch_any st A c l ⟨n, v, v, 0⟩ W (HA.out.over hW) hl h
    rwa [← hk] at this
  rw [← hk] at K1 hl ⊢
  clear hr hA hk
  cases hc : decide (Cn st l) with
  | false =>
    rw [hc] at K1
    have HC := Lib.hid (of_decide_eq_false hc)
    clear hc
    go_enter Tryz.func26, Tryz.ntmps26
    go_wp2_with ((go_at_call 47; refine K1.out.mono ?_; rintro e w1 ⟨rfl, hb1⟩))
    go_returns
    exact ⟨by rw [HR.out, findS, if_neg HC.out]; rfl, hb0.trans (hb1.mono (by omega))⟩
  | true =>
    rw [hc] at K1
    have hcn := of_decide_eq_true hc
    have HC := Lib.hid hcn
    have K3 := Lib.hid (K2.out hcn)
    clear hc hcn K2
    go_enter Tryz.func26, Tryz.ntmps26
    go_wp2_with fail
    refine K1.out.mono ?_
    rintro e w1 ⟨rfl, hb1⟩
    obtain ⟨f0, f1⟩ := hd0.below hb1 hz0
    have hbk : Below w.heap.size w w1 := hb0.trans (hb1.mono (by omega))
    have hz1 : w.heap.size < w1.heap.size := Nat.lt_of_lt_of_le hz0 hb1.size
    have hd1 : Bd w1 w.heap.size n v := ⟨f0, f1⟩
    clear hb0 hd0 hz0 hb1 K1
    go_wp2_with fail
    refine (K3.out _ hbk).mono ?_
    rintro e w2 ⟨⟨i, ok, hs, rfl⟩, hb2⟩
    have hd2 := hd1.below hb2 hz1
    have hbk2 : Below w.heap.size w w2 := hbk.trans (hb2.mono (by omega))
    have hz2 : w.heap.size < w2.heap.size := Nat.lt_of_lt_of_le hz1 hb2.size
    clear f0 f1 hd1 hb2 hbk hz1 K3
    cases ok with
    | false =>
      have hn := hs.no (st := st)
      have HNN := Lib.hid hn
      clear hs hn
      go_wp2
      go_returns
      exact ⟨by rw [HR.out, findS, if_pos HC.out, HNN.out]; rfl, hbk2⟩
    | true =>
      obtain ⟨x, hx, ex⟩ := hs.yes (st := st) HC.out
      obtain ⟨b, o, rfl, hb, ⟨y0, y1, y2, y3⟩⟩ := (HA.out.below hbk2).at hx
      have hik : i < k := by rw [HK.out]; exact (List.getElem?_eq_some_iff.1 hx).1
      have HEX := Lib.hid ex
      have K4 := Lib.hid (fun W => To_any st x n v W)
      unfold sv at K4
      have hSS : ∀ w', Below w2.heap.size w2 w' → (w'.cell? ⟨b, o + i * 4, none⟩ = some (.int .i64 x.n) ∧ w'.cell? ⟨b, o + i * 4 + 1, none⟩ = some (.int .i64 x.lo) ∧ w'.cell? ⟨b, o + i * 4 + 2, none⟩ = some (.int .i64 x.hi) ∧ w'.cell? ⟨b, o + i * 4 + 3, none⟩ = some (.int .i64 x.to)) ∧ w'.cell? ⟨w.heap.size, 0, none⟩ = some (.int .i64 n) ∧ w'.cell? ⟨w.heap.size, 1, none⟩ = some (.int .i64 v) := fun w' hw => by
        have hbz := Nat.lt_of_lt_of_le hb hbk2.size
        have q := S4.keep (w' := w') ⟨y0, y1, y2, y3⟩ fun i => hw.cell (p := ⟨b, i, none⟩) hbz
        have p := hd2.below hw hz2
        exact ⟨⟨q.c0, q.c1, q.c2, q.c3⟩, p.c0, p.c1⟩
      have HH := Lib.hid hSS
      have z0 : Below w2.heap.size w2 w2.drew := (Below.refl _ _).drew
      clear hs hx ex y0 y1 y2 y3 hSS hd2
      go_wp2_with fail
      go_region_held (fun w' => (w'.cell? ⟨b, o + i * 4, none⟩ = some (.int .i64 x.n) ∧ w'.cell? ⟨b, o + i * 4 + 1, none⟩ = some (.int .i64 x.lo) ∧ w'.cell? ⟨b, o + i * 4 + 2, none⟩ = some (.int .i64 x.hi) ∧ w'.cell? ⟨b, o + i * 4 + 3, none⟩ = some (.int .i64 x.to)) ∧ w'.cell? ⟨w.heap.size, 0, none⟩ = some (.int .i64 n) ∧ w'.cell? ⟨w.heap.size, 1, none⟩ = some (.int .i64 v))
        (first | with_reducible exact HH.out _ z8 | with_reducible exact HH.out _ z0)
        ((go_at_call 54; with_reducible refine (K4.out _).mono ?_; unfold oV; rintro e x1 ⟨rfl, y8⟩; have z8 := z0.trans (y8.mono z0.size)))
      all_goals
        go_wp2
        go_returns
        exact ⟨by rw [HR.out, findS, if_pos HC.out, HEX.out]; rfl, hbk2.trans (z8.mono hbk2.size)⟩
end Go.Proofs.YtmjneokjgcgchaaGreat
/-
  Layer 8 as plain lists: what an entry tells, what the last of some tells, tables; two tables that tell the same are one.
-/
namespace Go.Proofs.YtmjneokjgcgchaaGreat

/-- Units, the last one so much more. -/
def addU : List Int → Int → List Int
  | [], _ => []
  | [x], d => [x + d]
  | x :: y :: l, d => x :: addU (y :: l) d
theorem addU_snoc : ∀ (l : List Int) (x d : Int), addU (l ++ [x]) d = l ++ [x + d]
  | [], _, _ => rfl
  | [_], _, _ => rfl
  | a :: b :: l, x, d => by
    show a :: addU (b :: l ++ [x]) d = _
    rw [addU_snoc (b :: l) x d]
    rfl
theorem addU_add : ∀ (l : List Int) (a b : Int), addU (addU l a) b = addU l (a + b) := fun l a b => by
  rcases List.eq_nil_or_concat l with rfl | ⟨p, e, rfl⟩
  · rfl
  · rw [List.concat_eq_append, addU_snoc, addU_snoc, addU_snoc, Int.add_assoc]
theorem addU_zero (l : List Int) : addU l 0 = l := by
  rcases List.eq_nil_or_concat l with rfl | ⟨p, e, rfl⟩
  · rfl
  · rw [List.concat_eq_append, addU_snoc, Int.add_zero]
theorem addU_length (l : List Int) (d : Int) : (addU l d).length = l.length := by
  rcases List.eq_nil_or_concat l with rfl | ⟨p, e, rfl⟩
  · rfl
  · rw [List.concat_eq_append, addU_snoc]; simp
/-- The last unit. -/
def lastU (l : List Int) : Int := l.getLast?.getD 0
theorem lastU_snoc (l : List Int) (x : Int) : lastU (l ++ [x]) = x := by simp [lastU]
theorem lastU_add {l : List Int} (h : l ≠ []) (d : Int) : lastU (addU l d) = lastU l + d := by
  rcases List.eq_nil_or_concat l with rfl | ⟨p, e, rfl⟩
  · exact absurd rfl h
  · rw [List.concat_eq_append, addU_snoc, lastU_snoc, lastU_snoc]
/-- Units that may be. -/
def okU (l : List Int) : Prop := 1 ≤ l.length ∧ l.length ≤ 64 ∧ ∀ x ∈ l, 0 ≤ x ∧ x ≤ 65535
instance (l : List Int) : Decidable (okU l) := inferInstanceAs (Decidable (_ ∧ _))
theorem okU.ne {l : List Int} (h : okU l) : l ≠ [] := by rintro rfl; exact absurd h.1 (by simp)
theorem okU.last {l : List Int} (h : okU l) : 0 ≤ lastU l ∧ lastU l ≤ 65535 := by
  rcases List.eq_nil_or_concat l with rfl | ⟨p, e, rfl⟩
  · exact absurd rfl h.ne
  · rw [List.concat_eq_append, lastU_snoc]
    exact h.2.2 e (by simp)
theorem okU.add {l : List Int} (h : okU l) {d : Int} (h0 : 0 ≤ lastU l + d) (h1 : lastU l + d ≤ 65535) : okU (addU l d) := by
  rcases List.eq_nil_or_concat l with rfl | ⟨p, e, rfl⟩
  · exact absurd rfl h.ne
  · rw [List.concat_eq_append] at *
    rw [lastU_snoc] at *
    obtain ⟨a, b, c⟩ := h
    rw [addU_snoc]
    refine ⟨by simp, by simpa using b, fun x hx => ?_⟩
    rcases List.mem_append.1 hx with hx | hx
    · exact c x (List.mem_append_left _ hx)
    · rw [List.mem_singleton] at hx
      rw [hx]; exact ⟨h0, h1⟩
/-- An entry. -/
structure Bp where
  n : Int
  lo : Int
  hi : Int
  u : List Int
deriving DecidableEq

def goB (s : Bp) (v : Int) : List Int := addU s.u (v - s.lo)
def Sb (s : Bp) : Prop := saneB s.n s.lo = true ∧ saneB s.n s.hi = true ∧ s.lo ≤ s.hi ∧ okU s.u ∧ lastU s.u + (s.hi - s.lo) ≤ 65535
instance (s : Bp) : Decidable (Sb s) := inferInstanceAs (Decidable (_ ∧ _))
def toB (s : Bp) (n v : Int) : Option (List Int) := if Sb s ∧ n = s.n ∧ s.lo ≤ v ∧ v ≤ s.hi then some (goB s v) else none
def lastB : List Bp → Int → Int → Option (List Int)
  | [], _, _ => none
  | s :: l, n, v => (lastB l n v).or (toB s n v)
def ahB (a b : Bp) : Prop := a.n < b.n ∨ (a.n = b.n ∧ a.hi < b.lo)
instance (a b : Bp) : Decidable (ahB a b) := inferInstanceAs (Decidable (_ ∨ _))
def jnB (a b : Bp) : Prop := a.n = b.n ∧ b.lo = a.hi + 1 ∧ b.u = goB a b.lo
instance (a b : Bp) : Decidable (jnB a b) := inferInstanceAs (Decidable (_ ∧ _))
def RqB (a b : Bp) : Prop := ahB a b ∧ ¬ jnB a b
/-- A table. -/
def Ct (l : List Bp) : Prop := (∀ s ∈ l, Sb s) ∧ l.Pairwise RqB

theorem goB_lo (s : Bp) : goB s s.lo = s.u := by
  unfold goB
  rw [Int.sub_self, addU_zero]
theorem goB_add (s : Bp) (u d : Int) : goB s (u + d) = addU (goB s u) d := by
  unfold goB
  rw [addU_add]
  congr 1
  omega
theorem ahB.trans {a b c : Bp} (h : ahB a b) (k : ahB b c) (hb : b.lo ≤ b.hi) : ahB a c := by
  unfold ahB at *
  omega
section
variable {n v : Int} {x : List Int}
theorem toB_some {s : Bp} : toB s n v = some x ↔ Sb s ∧ n = s.n ∧ s.lo ≤ v ∧ v ≤ s.hi ∧ x = goB s v := by
  unfold toB
  split
  · rename_i h
    constructor
    · intro e
      injection e with e
      exact ⟨h.1, h.2.1, h.2.2.1, h.2.2.2, e.symm⟩
    · rintro ⟨_, _, _, _, rfl⟩
      rfl
  · rename_i h
    constructor
    · intro e; cases e
    · rintro ⟨h1, h2, h3, h4, _⟩
      exact absurd ⟨h1, h2, h3, h4⟩ h
theorem toB_none {s : Bp} (h : ¬ (n = s.n ∧ s.lo ≤ v ∧ v ≤ s.hi)) : toB s n v = none := by
  unfold toB
  rw [if_neg (fun k => h k.2)]
theorem toB_yes {s : Bp} (h : Sb s) (h1 : s.lo ≤ v) (h2 : v ≤ s.hi) : toB s s.n v = some (goB s v) := toB_some.2 ⟨h, rfl, h1, h2, rfl⟩
theorem lastB_append (a b : List Bp) : lastB (a ++ b) n v = (lastB b n v).or (lastB a n v) := by
  induction a with
  | nil => simp [lastB]
  | cons s a ih => rw [List.cons_append, lastB, ih, lastB, Option.or_assoc]
theorem lastB_none {l : List Bp} : lastB l n v = none ↔ ∀ s ∈ l, toB s n v = none := by
  induction l with
  | nil => simp [lastB]
  | cons s l ih => rw [lastB, Option.or_eq_none_iff, ih]; simp [and_comm]
theorem lastB_mem {l : List Bp} (h : lastB l n v = some x) : ∃ s ∈ l, toB s n v = some x := by
  induction l with
  | nil => cases h
  | cons s l ih =>
    rw [lastB] at h
    cases e : lastB l n v with
    | some y =>
      rw [e] at h
      obtain ⟨q, hq, hx⟩ := ih (by rw [e]; exact h)
      exact ⟨q, List.mem_cons_of_mem _ hq, hx⟩
    | none =>
      rw [e] at h
      exact ⟨s, List.mem_cons_self, h⟩
theorem ahB.off {a b : Bp} (h : ahB a b) (ha : toB a n v = some x) : toB b n v = none := by
  obtain ⟨_, h1, h2, h3, _⟩ := toB_some.1 ha
  refine toB_none fun k => ?_
  unfold ahB at h
  omega
theorem ahB.oth {a b : Bp} (h : ahB a b) (hb : toB b n v = some x) : toB a n v = none := by
  obtain ⟨_, h1, h2, h3, _⟩ := toB_some.1 hb
  refine toB_none fun k => ?_
  unfold ahB at h
  omega
/-- Where spans go ahead of each other, the one that tells of a code is the one by which it is told. -/
theorem lastB_of {l : List Bp} (hp : l.Pairwise ahB) {s : Bp} (hs : s ∈ l) (h : toB s n v = some x) : lastB l n v = some x := by
  induction l with
  | nil => cases hs
  | cons a l ih =>
    rw [List.pairwise_cons] at hp
    rw [lastB]
    rcases List.mem_cons.1 hs with rfl | hs
    · rw [lastB_none.2 (fun q hq => (hp.1 q hq).off h)]
      exact h
    · rw [ih hp.2 hs]
      rfl
theorem Ct.ah {l : List Bp} (h : Ct l) : l.Pairwise ahB := h.2.imp fun k => k.1
theorem Ct.lo {l : List Bp} (h : Ct l) {s : Bp} (hs : s ∈ l) : s.lo ≤ s.hi := (h.1 s hs).2.2.1
theorem Ct.of {l : List Bp} (h : Ct l) {s : Bp} (hs : s ∈ l) (h1 : s.lo ≤ v) (h2 : v ≤ s.hi) : lastB l s.n v = some (goB s v) := lastB_of h.ah hs (toB_yes (h.1 s hs) h1 h2)
theorem Ct.nil : Ct [] := ⟨by simp, List.Pairwise.nil⟩
theorem Ct.tail {a : Bp} {l : List Bp} (h : Ct (a :: l)) : Ct l := ⟨fun s hs => h.1 s (List.mem_cons_of_mem _ hs), (List.pairwise_cons.1 h.2).2⟩
theorem pair_twoB {R : Bp → Bp → Prop} {l : List Bp} (hp : l.Pairwise R) {a b : Bp} (ha : a ∈ l) (hb : b ∈ l) (hne : a ≠ b) : R a b ∨ R b a := by
  induction l with
  | nil => cases ha
  | cons c l ih =>
    rw [List.pairwise_cons] at hp
    rcases List.mem_cons.1 ha with rfl | ha'
    · rcases List.mem_cons.1 hb with rfl | hb'
      · exact absurd rfl hne
      · exact .inl (hp.1 b hb')
    · rcases List.mem_cons.1 hb with rfl | hb'
      · exact .inr (hp.1 a ha')
      · exact ih hp.2 ha' hb'
/-- A SPAN ENDS WHERE IT ENDS. -/
theorem Ct.ends {l : List Bp} (h : Ct l) {s : Bp} (hs : s ∈ l) (hx : lastB l s.n (s.hi + 1) = some x) : x ≠ goB s (s.hi + 1) := by
  obtain ⟨q, hq, hqx⟩ := lastB_mem hx
  obtain ⟨_, q1, q2, q3, rfl⟩ := toB_some.1 hqx
  have hl := h.lo hs
  have hne : s ≠ q := by rintro rfl; omega
  rcases pair_twoB h.2 hs hq hne with k | k
  · intro e
    have k1 := k.1
    unfold ahB at k1
    have e1 : q.lo = s.hi + 1 := by omega
    rw [← e1, goB_lo] at e
    exact k.2 ⟨q1, e1, e⟩
  · have k1 := k.1
    unfold ahB at k1
    omega
/-- A TABLE IS ONE FOR ALL. -/
theorem Ct.one : ∀ {t u : List Bp}, Ct t → Ct u → (∀ n v, lastB t n v = lastB u n v) → t = u
  | [], [], _, _, _ => rfl
  | [], b :: u, _, hu, h => by
    have := h b.n b.lo
    rw [hu.of List.mem_cons_self (Int.le_refl _) (hu.lo List.mem_cons_self)] at this
    cases this
  | a :: t, [], ht, _, h => by
    have := h a.n a.lo
    rw [ht.of List.mem_cons_self (Int.le_refl _) (ht.lo List.mem_cons_self)] at this
    cases this
  | a :: t, b :: u, ht, hu, h => by
    have la := ht.lo (s := a) List.mem_cons_self
    have lb := hu.lo (s := b) List.mem_cons_self
    have fa := ht.of (s := a) List.mem_cons_self (Int.le_refl _) la
    have fb := hu.of (s := b) List.mem_cons_self (Int.le_refl _) lb
    have key : ∀ {a b : Bp} {u : List Bp} {y : List Int}, Ct (b :: u) → lastB (b :: u) a.n a.lo = some y → b.n < a.n ∨ (b.n = a.n ∧ b.lo ≤ a.lo) := fun {a b u y} hu f => by
      obtain ⟨q, hq, hqx⟩ := lastB_mem f
      obtain ⟨_, q1, q2, q3, _⟩ := toB_some.1 hqx
      have lb := hu.lo (s := b) List.mem_cons_self
      rcases List.mem_cons.1 hq with rfl | hq
      · omega
      · have := ((List.pairwise_cons.1 hu.2).1 q hq).1
        unfold ahB at this
        omega
    have k1 := key hu ((h a.n a.lo).symm.trans fa)
    have k2 := key ht ((h b.n b.lo).trans fb)
    have en : a.n = b.n := by omega
    have el : a.lo = b.lo := by omega
    have et : a.u = b.u := by
      have f1 := fa.symm.trans (h a.n a.lo)
      rw [en, el, fb, ← el, goB_lo, el, goB_lo] at f1
      injection f1
    have eg : ∀ v, goB a v = goB b v := fun v => by unfold goB; rw [el, et]
    have eh : a.hi = b.hi := by
      rcases Int.lt_trichotomy a.hi b.hi with k | k | k
      · exfalso
        have f := hu.of (s := b) (v := a.hi + 1) List.mem_cons_self (by omega) (by omega)
        rw [← en, ← h, ← eg] at f
        exact ht.ends List.mem_cons_self f rfl
      · exact k
      · exfalso
        have f := ht.of (s := a) (v := b.hi + 1) List.mem_cons_self (by omega) (by omega)
        rw [en, h, eg] at f
        exact hu.ends List.mem_cons_self f rfl
    have e : a = b := by
      cases a; cases b
      simp only [Bp.mk.injEq]
      exact ⟨en, el, eh, et⟩
    subst e
    congr 1
    refine Ct.one ht.tail hu.tail fun n v => ?_
    have hh := h n v
    rw [lastB, lastB] at hh
    cases e : toB a n v with
    | none =>
      rw [e, Option.or_none, Option.or_none] at hh
      exact hh
    | some y =>
      rw [lastB_none.2 (fun q hq => ((List.pairwise_cons.1 ht.2).1 q hq).1.off e), lastB_none.2 (fun q hq => ((List.pairwise_cons.1 hu.2).1 q hq).1.off e)]
/-- Where nothing begins or ends between two codes, both go by the same one. -/
theorem lastB_shift {l : List Bp} {u : Int} (huv : u ≤ v) (h : ∀ r ∈ l, Sb r → r.n = n → ¬ (u < r.lo ∧ r.lo ≤ v) ∧ ¬ (u < r.hi + 1 ∧ r.hi + 1 ≤ v)) : lastB l n v = (lastB l n u).map (addU · (v - u)) := by
  induction l with
  | nil => rfl
  | cons r l ih =>
    rw [lastB, lastB, ih (fun q hq => h q (List.mem_cons_of_mem _ hq))]
    have e : toB r n v = (toB r n u).map (addU · (v - u)) := by
      by_cases hr : Sb r ∧ n = r.n
      · have h0 := h r List.mem_cons_self hr.1 hr.2.symm
        by_cases hu : r.lo ≤ u ∧ u ≤ r.hi
        · rw [toB_some.2 ⟨hr.1, hr.2, hu.1, hu.2, rfl⟩, toB_some.2 ⟨hr.1, hr.2, by omega, by omega, rfl⟩]
          have := goB_add r u (v - u)
          rw [show u + (v - u) = v by omega] at this
          rw [this]
          rfl
        · rw [toB_none (v := u) (by omega), toB_none (v := v) (by omega)]
          rfl
      · have g : ∀ y, toB r n y = none := fun y => by
          unfold toB
          rw [if_neg (fun k => hr ⟨k.1, k.2.1⟩)]
        rw [g, g]
        rfl
    rw [e]
    cases lastB l n u <;> rfl
/-- Where something begins, or has ended. -/
def bordB (l : List Bp) : List (Int × Int) := l.flatMap fun s => [(s.n, s.lo), (s.n, s.hi + 1)]
theorem bordB_length (l : List Bp) : (bordB l).length = 2 * l.length := by
  induction l with
  | nil => rfl
  | cons s l ih => simp only [bordB, List.flatMap_cons, List.length_append, List.length_cons, List.length_nil] at *; omega
theorem Ct.start {t l : List Bp} (h : Ct t) (e : ∀ n v, lastB t n v = lastB l n v) {s : Bp} (hs : s ∈ t) : (s.n, s.lo) ∈ bordB l := by
  refine Decidable.byContradiction fun hc => ?_
  have hb : ∀ r ∈ l, Sb r → r.n = s.n → ¬ (s.lo - 1 < r.lo ∧ r.lo ≤ s.lo) ∧ ¬ (s.lo - 1 < r.hi + 1 ∧ r.hi + 1 ≤ s.lo) := fun r hr _ hn => by
    constructor
    · intro k
      exact hc (List.mem_flatMap.2 ⟨r, hr, by rw [hn, show r.lo = s.lo by omega]; exact List.mem_cons_self⟩)
    · intro k
      exact hc (List.mem_flatMap.2 ⟨r, hr, by rw [hn, show r.hi + 1 = s.lo by omega]; exact List.mem_cons_of_mem _ List.mem_cons_self⟩)
  have h1 := lastB_shift (v := s.lo) (u := s.lo - 1) (by omega) hb
  have h2 := h.of hs (Int.le_refl _) (h.lo hs)
  rw [← e, ← e, h2] at h1
  cases h3 : lastB t s.n (s.lo - 1) with
  | none => rw [h3] at h1; cases h1
  | some x =>
    rw [h3, goB_lo] at h1
    injection h1 with h1
    obtain ⟨q, hq, hqx⟩ := lastB_mem h3
    obtain ⟨_, q1, q2, q3, rfl⟩ := toB_some.1 hqx
    have hl := h.lo hs
    have hne : q ≠ s := by rintro rfl; omega
    rcases pair_twoB h.2 hq hs hne with k | k
    · have k1 := k.1
      unfold ahB at k1
      refine k.2 ⟨q1.symm, by omega, ?_⟩
      have := goB_add q (s.lo - 1) (s.lo - (s.lo - 1))
      rw [show s.lo - 1 + (s.lo - (s.lo - 1)) = s.lo by omega] at this
      rw [this]
      exact h1
    · have k1 := k.1
      unfold ahB at k1
      omega
theorem Ct.starts : ∀ {t : List Bp}, Ct t → (t.map fun s => (s.n, s.lo)).Nodup
  | [], _ => List.nodup_nil
  | a :: t, h => by
    rw [List.map_cons, List.nodup_cons]
    refine ⟨fun hm => ?_, Ct.starts h.tail⟩
    obtain ⟨q, hq, e⟩ := List.mem_map.1 hm
    injection e with e1 e2
    have := ((List.pairwise_cons.1 h.2).1 q hq).1
    have := h.lo (s := a) List.mem_cons_self
    unfold ahB at *
    omega
theorem Ct.few {t l : List Bp} (h : Ct t) (e : ∀ n v, lastB t n v = lastB l n v) : t.length ≤ 2 * l.length := by
  have := nodup_le h.starts (m := bordB l) fun a ha => by
    obtain ⟨s, hs, rfl⟩ := List.mem_map.1 ha
    exact h.start e hs
  rw [List.length_map, bordB_length] at this
  exact this
end
end Go.Proofs.YtmjneokjgcgchaaGreat
/-
  Layer 8 as plain lists: one table of two, the second of which overrides, step by step.
-/
namespace Go.Proofs.YtmjneokjgcgchaaGreat

def partB (s : Bp) (lo hi : Int) : Bp := ⟨s.n, lo, hi, goB s lo⟩
/-- One more at the end of a table. -/
def addE (o : List Bp) (x : Bp) : List Bp :=
  match o.getLast? with
  | none => [x]
  | some e => if jnB e x then o.dropLast ++ [{ e with hi := x.hi }] else o ++ [x]

section
theorem addE_nil (x : Bp) : addE [] x = [x] := rfl
theorem addE_snoc (p : List Bp) (e x : Bp) : addE (p ++ [e]) x = if jnB e x then p ++ [{ e with hi := x.hi }] else p ++ [e] ++ [x] := by
  unfold addE
  rw [List.getLast?_concat, List.dropLast_concat]
theorem addE_ind {o : List Bp} {x : Bp} {C : List Bp → List Bp → Prop} (h0 : C [] [x]) (h1 : ∀ p e, jnB e x → C (p ++ [e]) (p ++ [{ e with hi := x.hi }])) (h2 : ∀ p e, ¬ jnB e x → C (p ++ [e]) (p ++ [e] ++ [x])) : C o (addE o x) := by
  rcases List.eq_nil_or_concat o with rfl | ⟨p, e, rfl⟩
  · exact h0
  · rw [List.concat_eq_append, addE_snoc]
    split
    · exact h1 _ _ ‹_›
    · exact h2 _ _ ‹_›
theorem addE_length (o : List Bp) (x : Bp) : (addE o x).length ≤ o.length + 1 :=
  addE_ind (C := fun o r => r.length ≤ o.length + 1) (by simp) (by simp) (by simp)
theorem addE_ah {o : List Bp} {x z : Bp} (ho : ∀ e ∈ o, ahB e z) (hx : ahB x z) : ∀ e ∈ addE o x, ahB e z := by
  revert ho
  refine addE_ind (C := fun o r => (∀ e ∈ o, ahB e z) → ∀ e ∈ r, ahB e z) ?_ ?_ ?_
  · intro _ e he
    rw [List.mem_singleton] at he
    rw [he]; exact hx
  · intro p e hj ho q hq
    rcases List.mem_append.1 hq with hq | hq
    · exact ho q (List.mem_append_left _ hq)
    · rw [List.mem_singleton] at hq
      subst hq
      have := hj.1
      unfold ahB at *
      show e.n < z.n ∨ e.n = z.n ∧ x.hi < z.lo
      rw [this]
      exact hx
  · intro p e hj ho q hq
    rcases List.mem_append.1 hq with hq | hq
    · exact ho q hq
    · rw [List.mem_singleton] at hq
      rw [hq]; exact hx
theorem goB_goB {e x : Bp} (hj : jnB e x) (v : Int) : goB x v = goB e v := by
  unfold goB
  rw [hj.2.2, goB, addU_add]
  congr 1
  omega
theorem lastU_goB {s : Bp} (h : okU s.u) (v : Int) : lastU (goB s v) = lastU s.u + (v - s.lo) := lastU_add h.ne _
theorem joinB_sn {e x : Bp} (he : Sb e) (hx : Sb x) (hj : jnB e x) : Sb { e with hi := x.hi } := by
  obtain ⟨e1, e2, e3, e4, e5⟩ := he
  obtain ⟨x1, x2, x3, x4, x5⟩ := hx
  have hl : lastU x.u = lastU e.u + (x.lo - e.lo) := by rw [hj.2.2]; exact lastU_goB e4 _
  obtain ⟨j1, j2, j3⟩ := hj
  refine ⟨e1, by rw [j1]; exact x2, ?_, e4, ?_⟩
  · show e.lo ≤ x.hi
    omega
  · show lastU e.u + (x.hi - e.lo) ≤ 65535
    omega
theorem joinB_to {e x : Bp} (he : Sb e) (hx : Sb x) (hj : jnB e x) (n v : Int) : toB { e with hi := x.hi } n v = (toB x n v).or (toB e n v) := by
  have hm := joinB_sn he hx hj
  have hg := goB_goB hj
  obtain ⟨j1, j2, j3⟩ := hj
  have he3 := he.2.2.1
  have hx3 := hx.2.2.1
  by_cases k : n = e.n ∧ e.lo ≤ v ∧ v ≤ x.hi
  · rw [toB_some.2 ⟨hm, k.1, k.2.1, k.2.2, rfl⟩]
    by_cases k2 : x.lo ≤ v
    · rw [toB_some.2 ⟨hx, by omega, k2, k.2.2, rfl⟩, hg]
      rfl
    · rw [toB_none (s := x) (by omega), toB_some.2 ⟨he, k.1, k.2.1, by omega, rfl⟩]
      rfl
  · rw [toB_none (s := { e with hi := x.hi }) k, toB_none (s := x) (by omega), toB_none (s := e) (by omega)]
    rfl
theorem addE_last {o : List Bp} {x : Bp} (hx : Sb x) (ho : ∀ e ∈ o, Sb e) (n v : Int) : lastB (addE o x) n v = (toB x n v).or (lastB o n v) := by
  revert ho
  refine addE_ind (C := fun o r => (∀ e ∈ o, Sb e) → lastB r n v = (toB x n v).or (lastB o n v)) ?_ ?_ ?_
  · intro _
    simp [lastB]
  · intro p e hj ho
    rw [lastB_append, lastB_append, ← Option.or_assoc]
    congr 1
    simp only [lastB, Option.none_or]
    exact joinB_to (ho e (by simp)) hx hj n v
  · intro p e hj ho
    rw [lastB_append _ [x]]
    simp [lastB]
theorem addE_cn {o : List Bp} {x : Bp} (hx : Sb x) (ho : Ct o) (ha : ∀ e ∈ o, ahB e x) : Ct (addE o x) := by
  revert ho ha
  refine addE_ind (C := fun o r => Ct o → (∀ e ∈ o, ahB e x) → Ct r) ?_ ?_ ?_
  · intro _ _
    exact ⟨fun s hs => by rw [List.mem_singleton] at hs; rw [hs]; exact hx, List.pairwise_singleton _ _⟩
  · intro p e hj ho _
    obtain ⟨h1, h2⟩ := ho
    rw [List.pairwise_append] at h2
    refine ⟨fun s hs => ?_, List.pairwise_append.2 ⟨h2.1, List.pairwise_singleton _ _, fun a ha b hb => ?_⟩⟩
    · rcases List.mem_append.1 hs with hs | hs
      · exact h1 s (List.mem_append_left _ hs)
      · rw [List.mem_singleton] at hs
        rw [hs]
        exact joinB_sn (h1 e (by simp)) hx hj
    · rw [List.mem_singleton] at hb
      subst hb
      exact h2.2.2 a ha e (by simp)
  · intro p e hj ho ha
    obtain ⟨h1, h2⟩ := ho
    refine ⟨fun s hs => ?_, List.pairwise_append.2 ⟨h2, List.pairwise_singleton _ _, fun a ha' b hb => ?_⟩⟩
    · rcases List.mem_append.1 hs with hs | hs
      · exact h1 s hs
      · rw [List.mem_singleton] at hs
        rw [hs]; exact hx
    · rw [List.mem_singleton] at hb
      subst hb
      refine ⟨ha a ha', fun hj2 => ?_⟩
      rcases List.mem_append.1 ha' with hp | hp
      · have k1 := ((List.pairwise_append.1 h2).2.2 a hp e (by simp)).1
        have k2 := ha e (by simp)
        have k3 := (h1 e (by simp)).2.2.1
        obtain ⟨j1, j2, _⟩ := hj2
        unfold ahB at *
        omega
      · rw [List.mem_singleton] at hp
        rw [hp] at hj2
        exact hj hj2
/-- What holds as one table is put over another: o is made, v is left of the one above, T of the one below. -/
structure IvB (o v T : List Bp) : Prop where
  co : Ct o
  cv : Ct v
  sT : ∀ s ∈ T, Sb s
  pT : T.Pairwise ahB
  ov : ∀ e ∈ o, ∀ x ∈ v, ahB e x
  oT : ∀ e ∈ o, ∀ x ∈ T, ahB e x
def mB (o v T : List Bp) (n y : Int) : Option (List Int) := (lastB v n y).or ((lastB T n y).or (lastB o n y))
theorem IvB.up {o v T : List Bp} {x : Bp} (h : IvB o (x :: v) T) (hx : ∀ z ∈ T, ahB x z) : IvB (addE o x) v T ∧ ∀ n y, mB (addE o x) v T n y = mB o (x :: v) T n y := by
  have sx := h.cv.1 x List.mem_cons_self
  refine ⟨⟨addE_cn sx h.co (fun e he => h.ov e he x List.mem_cons_self), h.cv.tail, h.sT, h.pT, ?_, ?_⟩, fun n y => ?_⟩
  · intro e he z hz
    exact addE_ah (fun e he => h.ov e he z (List.mem_cons_of_mem _ hz)) ((List.pairwise_cons.1 h.cv.2).1 z hz).1 e he
  · intro e he z hz
    exact addE_ah (fun e he => h.oT e he z hz) (hx z hz) e he
  · unfold mB
    rw [addE_last sx h.co.1, lastB, Option.or_assoc]
    congr 1
    cases e : toB x n y with
    | none => simp
    | some a =>
      rw [lastB_none.2 (fun z hz => (hx z hz).off e)]
      rfl
theorem IvB.low {o v T : List Bp} {a : Bp} (h : IvB o v (a :: T)) (ha : ∀ x ∈ v, ahB a x) : IvB (addE o a) v T ∧ ∀ n y, mB (addE o a) v T n y = mB o v (a :: T) n y := by
  have sa := h.sT a List.mem_cons_self
  refine ⟨⟨addE_cn sa h.co (fun e he => h.oT e he a List.mem_cons_self), h.cv, fun s hs => h.sT s (List.mem_cons_of_mem _ hs), (List.pairwise_cons.1 h.pT).2, ?_, ?_⟩, fun n y => ?_⟩
  · intro e he z hz
    exact addE_ah (fun e he => h.ov e he z hz) (ha z hz) e he
  · intro e he z hz
    exact addE_ah (fun e he => h.oT e he z (List.mem_cons_of_mem _ hz)) ((List.pairwise_cons.1 h.pT).1 z hz) e he
  · unfold mB
    rw [addE_last sa h.co.1, lastB, Option.or_assoc]
theorem part_goB (s : Bp) (lo hi v : Int) : goB (partB s lo hi) v = goB s v := by
  unfold partB
  show addU (goB s lo) (v - lo) = _
  rw [← goB_add]
  congr 1
  omega
theorem partB_sn {s : Bp} (hs : Sb s) {lo hi : Int} (h1 : s.lo ≤ lo) (h2 : lo ≤ hi) (h3 : hi ≤ s.hi) : Sb (partB s lo hi) := by
  obtain ⟨s1, s2, s3, s4, s5⟩ := hs
  have hl := s4.last
  refine ⟨(show saneB s.n lo = true from saneB_mid s1 s2 h1 (by omega)), (show saneB s.n hi = true from saneB_mid s1 s2 (by omega) h3), h2, s4.add (by omega) (by omega), ?_⟩
  show lastU (goB s lo) + (hi - lo) ≤ 65535
  rw [lastU_goB s4]
  omega
theorem partB_self (s : Bp) : partB s s.lo s.hi = s := by
  unfold partB
  rw [goB_lo]
theorem partB_up (s : Bp) (hi : Int) : { s with hi := hi } = partB s s.lo hi := by
  unfold partB
  rw [goB_lo]
theorem partB_to {s : Bp} (hs : Sb s) {m : Int} (h1 : s.lo < m) (h2 : m ≤ s.hi) (n v : Int) : toB s n v = (toB (partB s m s.hi) n v).or (toB (partB s s.lo (m - 1)) n v) := by
  by_cases k : n = s.n ∧ s.lo ≤ v ∧ v ≤ s.hi
  · rw [toB_some.2 ⟨hs, k.1, k.2.1, k.2.2, rfl⟩]
    by_cases k2 : m ≤ v
    · rw [toB_some.2 ⟨partB_sn hs (by omega) h2 (Int.le_refl _), k.1, k2, k.2.2, rfl⟩, part_goB]
      rfl
    · rw [toB_none (s := partB s m s.hi) (fun q => k2 q.2.1), toB_some.2 ⟨partB_sn hs (Int.le_refl _) (by omega) (by omega), k.1, k.2.1, (by show v ≤ m - 1; omega), rfl⟩, part_goB]
      rfl
  · rw [toB_none k, toB_none (s := partB s m s.hi) (fun q => k ⟨q.1, by have : m ≤ v := q.2.1; omega, q.2.2⟩), toB_none (s := partB s s.lo (m - 1)) (fun q => k ⟨q.1, q.2.1, by have : v ≤ m - 1 := q.2.2; omega⟩)]
    rfl
theorem IvB.split {o v T : List Bp} {a : Bp} (h : IvB o v (a :: T)) {m : Int} (h1 : a.lo < m) (h2 : m ≤ a.hi) : IvB o v (partB a a.lo (m - 1) :: partB a m a.hi :: T) ∧ ∀ n y, mB o v (partB a a.lo (m - 1) :: partB a m a.hi :: T) n y = mB o v (a :: T) n y := by
  have sa := h.sT a List.mem_cons_self
  have hp := List.pairwise_cons.1 h.pT
  refine ⟨⟨h.co, h.cv, fun s hs => ?_, List.pairwise_cons.2 ⟨fun z hz => ?_, List.pairwise_cons.2 ⟨fun z hz => ?_, hp.2⟩⟩, h.ov, fun e he z hz => ?_⟩, fun n y => ?_⟩
  · rcases List.mem_cons.1 hs with rfl | hs
    · exact partB_sn sa (Int.le_refl _) (by omega) (by omega)
    · rcases List.mem_cons.1 hs with rfl | hs
      · exact partB_sn sa (by omega) h2 (Int.le_refl _)
      · exact h.sT s (List.mem_cons_of_mem _ hs)
  · rcases List.mem_cons.1 hz with rfl | hz
    · exact .inr ⟨rfl, by show m - 1 < m; omega⟩
    · have := hp.1 z hz
      unfold ahB at *
      show a.n < z.n ∨ a.n = z.n ∧ m - 1 < z.lo
      omega
  · exact hp.1 z hz
  · have k := h.oT e he a List.mem_cons_self
    rcases List.mem_cons.1 hz with rfl | hz
    · exact k
    · rcases List.mem_cons.1 hz with rfl | hz
      · unfold ahB at *
        show e.n < a.n ∨ e.n = a.n ∧ e.hi < m
        omega
      · exact h.oT e he z (List.mem_cons_of_mem _ hz)
  · unfold mB
    rw [lastB, lastB, lastB, partB_to sa h1 h2]
    simp only [Option.or_assoc]
theorem IvB.skip {o v T : List Bp} {a b : Bp} (h : IvB o v (a :: T)) (hb : b ∈ v) (h0 : a.n = b.n) (h1 : b.lo ≤ a.lo) (h2 : a.hi ≤ b.hi) : IvB o v T ∧ ∀ n y, mB o v T n y = mB o v (a :: T) n y := by
  refine ⟨⟨h.co, h.cv, fun s hs => h.sT s (List.mem_cons_of_mem _ hs), (List.pairwise_cons.1 h.pT).2, h.ov, fun e he z hz => h.oT e he z (List.mem_cons_of_mem _ hz)⟩, fun n y => ?_⟩
  unfold mB
  rw [lastB]
  by_cases k : n = a.n ∧ a.lo ≤ y ∧ y ≤ a.hi
  · have := h.cv.of (v := y) hb (by omega) (by omega)
    rw [show n = b.n by omega, this]
    rfl
  · rw [toB_none k, Option.or_none]
/-- One step: what holds of the cut parts. -/
theorem IvB.cutLo {o v T : List Bp} {a b : Bp} (h : IvB o (b :: v) (a :: T)) (h0 : a.n = b.n) (h1 : a.lo < b.lo) (h2 : b.lo ≤ a.hi) : IvB (addE o (partB a a.lo (b.lo - 1))) (b :: v) (partB a b.lo a.hi :: T) ∧ ∀ n y, mB (addE o (partB a a.lo (b.lo - 1))) (b :: v) (partB a b.lo a.hi :: T) n y = mB o (b :: v) (a :: T) n y := by
  obtain ⟨g1, g2⟩ := h.split h1 h2
  have hab : ahB (partB a a.lo (b.lo - 1)) b := .inr ⟨h0, by show b.lo - 1 < b.lo; omega⟩
  obtain ⟨k1, k2⟩ := g1.low fun x hx => by
    rcases List.mem_cons.1 hx with rfl | hx
    · exact hab
    · exact hab.trans ((List.pairwise_cons.1 h.cv.2).1 x hx).1 (h.cv.lo List.mem_cons_self)
  exact ⟨k1, fun n y => (k2 n y).trans (g2 n y)⟩
theorem IvB.cutHi {o v T : List Bp} {a b : Bp} (h : IvB o (b :: v) (a :: T)) (h0 : a.n = b.n) (h1 : b.lo ≤ a.lo) (h2 : a.lo ≤ b.hi) (h3 : b.hi < a.hi) : IvB o (b :: v) (partB a (b.hi + 1) a.hi :: T) ∧ ∀ n y, mB o (b :: v) (partB a (b.hi + 1) a.hi :: T) n y = mB o (b :: v) (a :: T) n y := by
  obtain ⟨g1, g2⟩ := h.split (m := b.hi + 1) (by omega) (by omega)
  obtain ⟨k1, k2⟩ := g1.skip (b := b) List.mem_cons_self h0 h1 (by show b.hi + 1 - 1 ≤ b.hi; omega)
  exact ⟨k1, fun n y => (k2 n y).trans (g2 n y)⟩
theorem IvB.restV : ∀ {v o : List Bp}, IvB o v [] → Ct (v.foldl addE o) ∧ ∀ n y, lastB (v.foldl addE o) n y = mB o v [] n y
  | [], o, h => ⟨h.co, fun n y => by simp [mB, lastB]⟩
  | x :: v, o, h => by
    obtain ⟨g1, g2⟩ := h.up (by simp)
    obtain ⟨k1, k2⟩ := IvB.restV g1
    exact ⟨k1, fun n y => (k2 n y).trans (g2 n y)⟩
theorem IvB.restT : ∀ {T o : List Bp}, IvB o [] T → Ct (T.foldl addE o) ∧ ∀ n y, lastB (T.foldl addE o) n y = mB o [] T n y
  | [], o, h => ⟨h.co, fun n y => by simp [mB, lastB]⟩
  | x :: v, o, h => by
    obtain ⟨g1, g2⟩ := h.low (by simp)
    obtain ⟨k1, k2⟩ := IvB.restT g1
    exact ⟨k1, fun n y => (k2 n y).trans (g2 n y)⟩
theorem IvB.start {t over : List Bp} (ht : Ct t) (hv : Ct over) : IvB [] over t := ⟨Ct.nil, hv, ht.1, ht.ah, by simp, by simp⟩
/-- How far it is to the end. -/
def wid (T : List Bp) : Nat := (T.map fun s => (s.hi - s.lo + 1).toNat).sum
theorem wid_cons (a : Bp) (T : List Bp) : wid (a :: T) = (a.hi - a.lo + 1).toNat + wid T := by simp [wid]
end
end Go.Proofs.YtmjneokjgcgchaaGreat
/-
  Entries in memory: four cells each, the last of which is a slice that holds the units; slices that hold lists of entries.
-/
namespace Go.Proofs.YtmjneokjgcgchaaGreat
open Go.RowKit

/-- An entry, and where its units lie. -/
structure Me where
  b : Bp
  a : Option Addr
  c : Nat
def Me.s (m : Me) : Value := .slice m.a m.b.u.length m.c
/-- An entry as cells, as an argument. -/
def fq (m : Me) : List Value := [.int .i64 m.b.n, .int .i64 m.b.lo, .int .i64 m.b.hi, .slice m.a m.b.u.length m.c]
def fv (m : Me) : Value := .agg #[.int .i64 m.b.n, .int .i64 m.b.lo, .int .i64 m.b.hi, .slice m.a m.b.u.length m.c]
def dvs (d : List Me) : List Value := d.flatMap fq
/-- The entries themselves. -/
def pl (d : List Me) : List Bp := d.map Me.b
theorem pl_length (d : List Me) : (pl d).length = d.length := by simp [pl]
theorem pl_append (a b : List Me) : pl (a ++ b) = pl a ++ pl b := by simp [pl]
theorem pl_get {d : List Me} {j : Nat} {m : Me} (h : d[j]? = some m) : (pl d)[j]? = some m.b := by simp [pl, h]
theorem dvs_cons (t : Me) (l : List Me) : dvs (t :: l) = fq t ++ dvs l := by simp [dvs]
theorem dvs_append (a b : List Me) : dvs (a ++ b) = dvs a ++ dvs b := by simp [dvs]
theorem dvs_length : ∀ l : List Me, (dvs l).length = l.length * 4
  | [] => rfl
  | t :: l => by rw [dvs_cons, List.length_append, dvs_length l, List.length_cons]; simp [fq]; omega
theorem dvs_one (l : List Me) : ∀ u ∈ dvs l, u.oneCell' = true := by
  intro u hu
  simp only [dvs, List.mem_flatMap, fq, List.mem_cons, List.not_mem_nil, or_false] at hu
  obtain ⟨t, _, rfl | rfl | rfl | rfl⟩ := hu <;> rfl
theorem dvs_get : ∀ (l : List Me) (j i : Nat) (x : Me), l[j]? = some x → i < 4 → (dvs l)[j * 4 + i]? = (fq x)[i]?
  | [], j, i, x, h, _ => by simp at h
  | t :: l, 0, i, x, h, hi => by
    rw [List.getElem?_cons_zero] at h
    cases h
    rw [dvs_cons, Nat.zero_mul, Nat.zero_add, List.getElem?_append_left (by simpa [fq] using hi)]
  | t :: l, j + 1, i, x, h, hi => by
    rw [List.getElem?_cons_succ] at h
    rw [dvs_cons, List.getElem?_append_right (by simp [fq]; omega), ← dvs_get l j i x h hi]
    congr 1
    simp [fq]
    omega
/-- Units, held by a slice. -/
structure Un (w : World) (a : Option Addr) (c : Nat) (u : List Int) : Prop where
  c0 : u.length ≤ c
  c1 : a = none → c = 0
  si : Si w w.heap.size a u
/-- Units in a block of ints. -/
structure Ut (w : World) (a : Option Addr) (c : Nat) (u : List Int) : Prop where
  un : Un w a c u
  ty : 0 < u.length → ∃ (b o : Nat) (cs : Array Value) (f : Nat × Nat), a = some ⟨b, o, none⟩ ∧ w.heap[b]? = some (Obj.cells cs 3 f)
/-- Blocks of ints stay. -/
structure Ik (w w' : World) : Prop where
  size : w.heap.size ≤ w'.heap.size
  keep : ∀ (b : Nat) cs f, w.heap[b]? = some (Obj.cells cs 3 f) → w'.heap[b]? = some (Obj.cells cs 3 f)
section
variable {w w' w'' : World} {a : Option Addr} {c : Nat} {u : List Int}
theorem Un.over (h : Un w a c u) (hb : Below w.heap.size w w') : Un w' a c u := ⟨h.c0, h.c1, h.si.over hb⟩
theorem Ut.ik (h : Ut w a c u) (k : Ik w w') : Ut w' a c u := by
  refine ⟨⟨h.un.c0, h.un.c1, fun hn => ?_⟩, fun hn => ?_⟩
  · obtain ⟨b, o, e, hb, hc⟩ := h.un.si hn
    obtain ⟨b', o', cs, f, e', hh⟩ := h.ty hn
    rw [e] at e'
    injection e' with e'
    injection e' with e1 e2
    subst e1 e2
    refine ⟨b, o, e, Nat.lt_of_lt_of_le hb k.size, fun j hj => ?_⟩
    exact (World.cell?_of_block (a := ⟨b, o + j, none⟩) (by rw [k.keep b cs f hh, hh])).trans (hc j hj)
  · obtain ⟨b', o', cs, f, e', hh⟩ := h.ty hn
    exact ⟨b', o', cs, f, e', k.keep _ _ _ hh⟩
theorem Ik.refl (w : World) : Ik w w := ⟨Nat.le_refl _, fun _ _ _ h => h⟩
theorem Ik.trans (h : Ik w w') (k : Ik w' w'') : Ik w w'' := ⟨Nat.le_trans h.size k.size, fun b cs f hb => k.keep b cs f (h.keep b cs f hb)⟩
theorem Ik.of_below (h : Below w.heap.size w w') : Ik w w' := ⟨h.size, fun b _ _ hb => (h.block b (Array.getElem?_eq_some_iff.1 hb).1).trans hb⟩
/-- A block of entries. -/
def Tq (w : World) (b : Nat) : Prop := ∃ cs, w.heap[b]? = some (Obj.cells cs 73 (0, 0))
theorem Ik.of_grown {row : Option Nat} (h : w.grownBy w' row) (hr : ∀ g, row = some g → Tq w g) : Ik w w' := ⟨h.size, fun b cs f hb => (h.block b (Array.getElem?_eq_some_iff.1 hb).1 (fun e => by
  obtain ⟨cs', h2⟩ := hr b e.symm
  rw [hb] at h2
  injection h2 with h2
  injection h2 with _ h2
  revert h2
  decide)).trans hb⟩
theorem Ik.of_set {g i : Nat} {v : Value} (hr : Tq w g) : Ik w (w.setCell ⟨g, i, none⟩ v) := ⟨by simp, fun b cs f hb => by
  rw [heap_setCell_other]
  · exact hb
  · show b ≠ g
    rintro rfl
    obtain ⟨cs', h2⟩ := hr
    rw [hb] at h2
    injection h2 with h2
    injection h2 with _ h2
    revert h2
    decide⟩
end
/-- An entry's four cells, at a place. -/
structure F4 (w : World) (b p : Nat) (x : Me) : Prop where
  c0 : w.cell? ⟨b, p, none⟩ = some (.int .i64 x.b.n)
  c1 : w.cell? ⟨b, p + 1, none⟩ = some (.int .i64 x.b.lo)
  c2 : w.cell? ⟨b, p + 2, none⟩ = some (.int .i64 x.b.hi)
  c3 : w.cell? ⟨b, p + 3, none⟩ = some (.slice x.a x.b.u.length x.c)
theorem F4.keep {w w' : World} {b p : Nat} {x : Me} (h : F4 w b p x) (hk : ∀ i, w'.cell? ⟨b, i, none⟩ = w.cell? ⟨b, i, none⟩) : F4 w' b p x := ⟨(hk _).trans h.c0, (hk _).trans h.c1, (hk _).trans h.c2, (hk _).trans h.c3⟩
abbrev Fb (w : World) (b : Nat) (x : Me) : Prop := F4 w b 0 x
theorem Fb.below {w w1 : World} {b B : Nat} {r : Me} (h : Fb w b r) (hb : Below B w w1) (hB : b < B) : Fb w1 b r := F4.keep h fun i => hb.cell (p := ⟨b, i, none⟩) hB
theorem Fb.new (w : World) (r : Me) (t : TypeId) : Fb (w.alloc (.cells #[.int .i64 r.b.n, .int .i64 r.b.lo, .int .i64 r.b.hi, .slice r.a r.b.u.length r.c] t)) w.heap.size r := ⟨by simp, by simp, by simp, by simp⟩
/-- A slice at A holds the entries d, below block B. -/
def Rd (w : World) (B : Nat) (A : Option Addr) (d : List Me) : Prop :=
  0 < d.length → ∃ b o, A = some ⟨b, o, none⟩ ∧ b < B ∧ ∀ j x, d[j]? = some x → F4 w b (o + j * 4) x
/-- A list's units. -/
def Ul (w : World) (d : List Me) : Prop := ∀ m ∈ d, Un w m.a m.c m.b.u
def Utl (w : World) (d : List Me) : Prop := ∀ m ∈ d, Ut w m.a m.c m.b.u
/-- A slice that holds entries, with their units. -/
structure Sd (w : World) (A : Option Addr) (d : List Me) : Prop where
  rd : Rd w w.heap.size A d
  ul : Ul w d
section
variable {w w' : World} {B B' : Nat} {A : Option Addr} {d : List Me}
theorem Rd.keep (h : Rd w B A d) (hk : ∀ p : Addr, p.block < B → w'.cell? p = w.cell? p) : Rd w' B A d := fun hn => by
  obtain ⟨b, o, e, hb, hc⟩ := h hn
  exact ⟨b, o, e, hb, fun j x hx => (hc j x hx).keep fun i => hk ⟨b, i, none⟩ hb⟩
theorem Rd.below (h : Rd w B A d) (hb : Below B w w') : Rd w' B A d := h.keep fun _ hp => hb.cell hp
theorem Rd.more (h : Rd w B A d) (hB : B ≤ B') : Rd w B' A d := fun hn => by
  obtain ⟨b, o, e, hb, hc⟩ := h hn
  exact ⟨b, o, e, by omega, hc⟩
theorem Rd.over (h : Rd w w.heap.size A d) (hb : Below w.heap.size w w') : Rd w' w'.heap.size A d := (h.below hb).more hb.size
theorem Rd.nil : Rd w B A [] := fun h => absurd h (by simp)
theorem Rd.at (h : Rd w B A d) {j : Nat} {x : Me} (hx : d[j]? = some x) : ∃ b o, A = some ⟨b, o, none⟩ ∧ b < B ∧ F4 w b (o + j * 4) x := by
  obtain ⟨b, o, e, hb, hc⟩ := h (by have := (List.getElem?_eq_some_iff.1 hx).1; omega)
  exact ⟨b, o, e, hb, hc j x hx⟩
theorem Rd.of_own {base : Nat} {e : TypeId} {v : Value} {n : Nat} (h : w.ownsRow base e 4 v n (dvs d)) : ∃ c, n = d.length ∧ n ≤ c ∧ ∃ A, v = .slice A d.length c ∧ (A = none → c = 0) ∧ Rd w w.heap.size A d := by
  have hl : n = d.length := by have := h.1; rw [dvs_length] at this; omega
  subst hl
  rcases h.2 with ⟨rfl, h0⟩ | ⟨g, cap, cur, rfl, hb, hg, hc, hm, hs, ht⟩
  · exact ⟨0, rfl, by omega, none, by rw [h0], fun _ => rfl, fun hn => absurd hn (by omega)⟩
  · refine ⟨cap, rfl, hc, some ⟨g, 0, none⟩, rfl, (fun e => by cases e), fun hn => ⟨g, 0, rfl, (Array.getElem?_eq_some_iff.1 hg).1, fun j x hx => ?_⟩⟩
    have key : ∀ i u, i < 4 → (fq x)[i]? = some u → w.cell? ⟨g, 0 + j * 4 + i, none⟩ = some u := fun i u hi hu => by
      have := h.cells (g := g) rfl (j * 4 + i) u ((dvs_get d j i x hx hi).trans hu)
      rwa [addr_add, ← Nat.add_assoc] at this
    exact ⟨key 0 _ (by omega) rfl, key 1 _ (by omega) rfl, key 2 _ (by omega) rfl, key 3 _ (by omega) rfl⟩
theorem Ul.over (h : Ul w d) (hb : Below w.heap.size w w') : Ul w' d := fun m hm => (h m hm).over hb
theorem Utl.ik (h : Utl w d) (hb : Ik w w') : Utl w' d := fun m hm => (h m hm).ik hb
theorem Utl.ul (h : Utl w d) : Ul w d := fun m hm => (h m hm).un
theorem Sd.over (h : Sd w A d) (hb : Below w.heap.size w w') : Sd w' A d := ⟨h.rd.over hb, h.ul.over hb⟩
theorem Sd.nil : Sd w A [] := ⟨Rd.nil, fun _ h => by cases h⟩
end
theorem infoB : (Tryz.prog.info? 73).map (fun i => (i.zero, i.size, i.bytes)) = some (some (.agg #[.int .i64 0, .int .i64 0, .int .i64 0, .slice none 0 0]), 4, 48) := by kernel_rfl
/-- A code's block. -/
structure Cdm (w : World) (b : Nat) (n v : Int) : Prop where
  c0 : w.cell? ⟨b, 0, none⟩ = some (.int .i64 n)
  c1 : w.cell? ⟨b, 1, none⟩ = some (.int .i64 v)
theorem Cdm.below {w w1 : World} {b B : Nat} {n v : Int} (h : Cdm w b n v) (hb : Below B w w1) (hB : b < B) : Cdm w1 b n v :=
  ⟨(hb.cell (p := ⟨b, 0, none⟩) hB).trans h.c0, (hb.cell (p := ⟨b, 1, none⟩) hB).trans h.c1⟩
theorem Cdm.new (w : World) (n v : Int) (t : TypeId) : Cdm (w.alloc (.cells #[.int .i64 n, .int .i64 v] t)) w.heap.size n v := ⟨by simp, by simp⟩
/-- append(s, l...) of ints. -/
theorem app_ints {P : Program} {w : World} {ops : Array Oper} {rest : List Oper} {o : Oper} {a : Act} {Q : Exit → Act → World → Prop} (hgd : o.guard = none) (s x : Operand) (t : TypeId)
    (ho : o.op = .call { callee := .builtin .append, args := #[s, x], argTypes := #[t, t] })
    (base : Nat) (e : TypeId) (i : TypeInfo) (ht : P.underlying t = some (.slice e)) (hi : P.info? e = some i) (hz : i.zero = some (.int .i64 0)) (hsize : i.size = 1) (hby : i.bytes = 8)
    (v : Value) (xs : List Int) (hs : a.eval s = v) (hown : w.ownsRow base e 1 v xs.length (ivs xs)) (B : Nat) (A : Option Addr) (n c : Nat) (l : List Int) (hn : n = l.length) (hx : a.eval x = .slice A n c) (hA : Si w B A l) (hc : A = none → c = 0)
    (hl : xs.length + l.length ≤ 1048576) (hbase : base ≤ w.heap.size)
    (h : ∀ v' w', w'.ownsRow base e 1 v' (xs ++ l).length (ivs (xs ++ l)) → w.grownBy w' v.ownBlock → wpList P ops Q rest (a.put o.dst v') w') : wpList P ops Q (o :: rest) a w := by
  subst hn
  cases A with
  | none =>
    have hn : l = [] := by
      rcases Nat.eq_zero_or_pos l.length with h0 | h0
      · exact List.eq_nil_of_length_eq_zero h0
      · obtain ⟨b, o, e, _⟩ := hA h0
        cases e
    subst hn
    rw [hc rfl] at hx
    refine wpList_append_own_none hgd s x t ho base e i 1 ht hi v xs.length (ivs xs) hs hown hx ?_
    rw [List.append_nil] at h
    exact h v w hown (World.grownBy.refl w _)
  | some ad =>
    have hcell : ∀ j u, (ivs l)[j]? = some u → w.cell? (ad.add j) = some u := fun j u hu => by
      have hj : j < l.length := by
        rcases Nat.lt_or_ge j l.length with h | h
        · exact h
        · rw [List.getElem?_eq_none (by rw [ivs_length]; exact h)] at hu; cases hu
      obtain ⟨ad', e, hcs⟩ := hA.cells (by omega)
      injection e with e
      subst e
      exact hcs j u hu
    refine wpList_append_own w hgd s x t ho base e i (.int .i64 0) 1 8 ht hi hz hsize hby rfl (by omega) v xs.length (ivs xs) hs hown ad l.length c (ivs l) hx (by rw [ivs_length]; omega) hcell (ivs_one l) (by unfold maxLen; omega) (by omega) hbase fun v' w' h1 h2 _ => ?_
    rw [← ivs_append] at h1
    exact h v' w' (by rw [List.length_append]; exact h1) h2
theorem own_emptyI (w : World) (B : Nat) (e : TypeId) (hB : B ≤ w.heap.size) : (w.alloc (.cells #[] e)).ownsRow B e 1 (.slice (some ⟨w.heap.size, 0, none⟩) 0 0) ([] : List Int).length (ivs []) :=
  ⟨rfl, .inr ⟨w.heap.size, 0, #[], rfl, hB, heap_alloc_new w _, Nat.le_refl _, by unfold maxLen; omega, rfl, rfl⟩⟩
theorem own_belowD {w w' : World} {base n b size : Nat} {e : TypeId} {v : Value} {xs : List Value} (h : w.ownsRow base e size v n xs) (hb : Below b w w') (hB : w.heap.size ≤ b) : w'.ownsRow base e size v n xs := by
  refine ⟨h.1, ?_⟩
  rcases h.2 with hn | ⟨g, cap, cur, rfl, h1, hg, rest⟩
  · exact .inl hn
  · refine .inr ⟨g, cap, cur, rfl, h1, ?_, rest⟩
    have hlt := (Array.getElem?_eq_some_iff.1 hg).1
    rw [hb.block g (by omega)]
    exact hg
theorem own_lowD {w : World} {base base' n size : Nat} {e : TypeId} {v : Value} {xs : List Value} (h : w.ownsRow base e size v n xs) (hb : base' ≤ base) : w.ownsRow base' e size v n xs := by
  refine ⟨h.1, ?_⟩
  rcases h.2 with hn | ⟨g, cap, cur, e, h1, rest⟩
  · exact .inl hn
  · exact .inr ⟨g, cap, cur, e, by omega, rest⟩
theorem own_ltD {w : World} {base : Nat} {e : TypeId} {v : Value} {n g size : Nat} {xs : List Value} (h : w.ownsRow base e size v n xs) (hg : v.ownBlock = some g) : base ≤ g ∧ g < w.heap.size := by
  rcases h.2 with ⟨rfl, _⟩ | ⟨g', cap, cur, rfl, h1, hg', _⟩
  · cases hg
  · have e2 : g' = g := by simpa [Value.ownBlock] using hg
    subst e2
    exact ⟨h1, (Array.getElem?_eq_some_iff.1 hg').1⟩
/-- A row of one's own holds units. -/
theorem Ut.of_own {w : World} {base n : Nat} {v : Value} {u : List Int} (h : w.ownsRow base 3 1 v n (ivs u)) : ∃ A c, v = .slice A u.length c ∧ Ut w A c u ∧ n = u.length := by
  obtain ⟨c, hn, ⟨hc, _⟩, A, rfl, hsi⟩ := Si.of_own h
  subst hn
  refine ⟨A, c, rfl, ⟨⟨hc, fun e => ?_, hsi⟩, fun hn => ?_⟩, rfl⟩
  · rcases h.2 with ⟨h1, _⟩ | ⟨g, cap, cur, h1, _⟩
    · injection h1
    · injection h1 with h1; rw [h1] at e; cases e
  · rcases h.2 with ⟨h1, h0⟩ | ⟨g, cap, cur, h1, h2, h3, _⟩
    · omega
    · injection h1 with h1
      exact ⟨g, 0, cur, (0, 0), h1, h3⟩
end Go.Proofs.YtmjneokjgcgchaaGreat
/-
  The program's own ahead, compare, saneCodes, saneUnits, lastUnit.
-/
namespace Go.Proofs.YtmjneokjgcgchaaGreat
open Go.RowKit
attribute [local go_sem ↓] Go.wp_at_zero Go.wp_at_succ

theorem ahB_eq (a b : Bp) : decide (ahB a b) = (decide (a.n < b.n) || ((a.n == b.n) && decide (a.hi < b.lo))) := by
  show decide (a.n < b.n ∨ (a.n = b.n ∧ a.hi < b.lo)) = _
  rw [Bool.eq_iff_iff]
  simp
set_option maxHeartbeats 1000000 in
theorem dAhead_any (a b : Me) (w : World) :
    Calls Tryz.prog 108 #[fv a, fv b] w fun e w' => e = .returned (.bool (decide (ahB a.b b.b))) ∧ Below w.heap.size w w' := by
  rw [ahB_eq]
  unfold fv
  cases d1 : decide (a.b.n < b.b.n) with
  | true =>
    go_enter Tryz.func108, Tryz.ntmps108
    go_wp2
    go_ret
    exact ⟨rfl, ((Below.refl _ _).alloc (Nat.le_refl _) _).alloc (by simp) _⟩
  | false =>
    cases d2 : (a.b.n == b.b.n) with
    | true =>
      go_enter Tryz.func108, Tryz.ntmps108
      go_wp2
      go_ret
      exact ⟨rfl, ((Below.refl _ _).alloc (Nat.le_refl _) _).alloc (by simp) _⟩
    | false =>
      go_enter Tryz.func108, Tryz.ntmps108
      go_wp2
      go_ret
      exact ⟨rfl, ((Below.refl _ _).alloc (Nat.le_refl _) _).alloc (by simp) _⟩
theorem okU_take {u : List Int} {k : Nat} {x : Int} (hx : u[k]? = some x) (hk : ∀ y ∈ u.take k, 0 ≤ y ∧ y ≤ 65535) (h0 : 0 ≤ x) (h1 : x ≤ 65535) : ∀ y ∈ u.take (k + 1), 0 ≤ y ∧ y ≤ 65535 := by
  rw [List.take_add_one, hx]
  intro y hy
  rcases List.mem_append.1 hy with hy | hy
  · exact hk y hy
  · simp at hy
    rw [hy]
    exact ⟨h0, h1⟩
set_option maxRecDepth 100000 in
set_option maxHeartbeats 4000000 in
theorem dUnits_any (A : Option Addr) (c : Nat) (u : List Int) (w : World) (hu : Si w w.heap.size A u) :
    Calls Tryz.prog 137 #[.slice A u.length c] w fun e w' => e = .returned (.bool (decide (okU u))) ∧ Below w.heap.size w w' := by
  have HA := Lib.hid hu
  obtain ⟨n, hn⟩ : ∃ n, n = u.length := ⟨_, rfl⟩
  have HN := Lib.hid hn
  obtain ⟨r, hr⟩ : ∃ r, r = decide (okU u) := ⟨_, rfl⟩
  have HR := Lib.hid hr
  rw [← hn, ← hr]
  clear hn hr hu
  by_cases h1 : n < 1
  · have t1 : decide ((n : Int) < 1) = true := decide_eq_true (by omega)
    have e : r = false := by rw [HR.out]; exact decide_eq_false fun h => by have := h.1; have := HN.out; omega
    subst e
    clear h1
    go_enter Tryz.func137, Tryz.ntmps137
    go_wp2
    go_ret
    exact ⟨rfl, Below.refl _ _⟩
  · have t1 : decide ((n : Int) < 1) = false := decide_eq_false (by omega)
    by_cases h2 : 64 < n
    · have t2 : decide ((64 : Int) < (n : Int)) = true := decide_eq_true (by omega)
      have e : r = false := by rw [HR.out]; exact decide_eq_false fun h => by have := h.2.1; have := HN.out; omega
      subst e
      clear h1 h2
      go_enter Tryz.func137, Tryz.ntmps137
      go_wp2
      go_ret
      exact ⟨rfl, Below.refl _ _⟩
    · have t2 : decide ((64 : Int) < (n : Int)) = false := decide_eq_false (by omega)
      obtain ⟨b, o, e, hb, hc⟩ := HA.out (by have := HN.out; omega)
      subst e
      have HC := Lib.hid hc
      have H1 := Lib.hid (And.intro (show 1 ≤ n by omega) (show n ≤ 64 by omega))
      have h64 : n ≤ 64 := H1.out.2
      clear h1 h2 hc HA
      go_enter Tryz.func137, Tryz.ntmps137
      go_wp2
      go_loopw [15] (fun i wr => ∃ k : Nat, k ≤ n ∧ i = .int .i64 (k : Int) ∧ Hid (∀ y ∈ u.take k, 0 ≤ y ∧ y ≤ 65535) ∧ wr = w) (fun i _ => n - (intOf i).toNat)
      case atStart => exact ⟨0, Nat.zero_le _, rfl, Lib.hid (by simp), rfl⟩
      case round =>
        obtain ⟨k, hk, rfl, HK, hwr⟩ := hrel
        subst hwr
        by_cases hlt : k < n
        · have t0 : decide (k < n) = true := decide_eq_true hlt
          have hx := List.getElem?_eq_getElem (l := u) (i := k) (by have := HN.out; omega)
          have hcell := HC.out k (by have := HN.out; omega)
          rw [hx] at hcell
          generalize u[k]'(by have := HN.out; omega) = x at *
          have hcell2 : wr.cell? ⟨b, o + k, none⟩ = some (.int .i64 x) := hcell
          clear hcell
          have HX := Lib.hid hx
          clear hx
          by_cases g1 : x < 0
          · have s1 : decide (x < 0) = true := decide_eq_true g1
            have e : r = false := by
              rw [HR.out]
              exact decide_eq_false fun h => by have := (h.2.2 x (List.mem_of_getElem? HX.out)).1; omega
            subst e
            clear g1
            go_wp2
            go_ret
            exact ⟨rfl, Below.refl _ _⟩
          · have s1 : decide (x < 0) = false := decide_eq_false g1
            by_cases g2 : 65535 < x
            · have s2 : decide (65535 < x) = true := decide_eq_true g2
              have e : r = false := by
                rw [HR.out]
                exact decide_eq_false fun h => by have := (h.2.2 x (List.mem_of_getElem? HX.out)).2; omega
              subst e
              clear g1 g2
              go_wp2
              go_ret
              exact ⟨rfl, Below.refl _ _⟩
            · have s2 : decide (65535 < x) = false := decide_eq_false g2
              have K2 := Lib.hid (okU_take (k := k) (x := x) HX.out HK.out (by omega) (by omega))
              clear g1 g2
              go_wp2
              exact ⟨⟨k + 1, by omega, by first | rfl | go_num, K2, trivial⟩, by simp [intOf]; omega⟩
        · have t0 : decide (k < n) = false := decide_eq_false hlt
          obtain rfl : k = n := by omega
          have e : r = true := by
            rw [HR.out]
            refine decide_eq_true ⟨by have := HN.out; have := H1.out.1; omega, by have := HN.out; have := H1.out.2; omega, fun x hx => HK.out x ?_⟩
            rw [List.take_of_length_le (by have := HN.out; omega)]
            exact hx
          subst e
          go_wp2
          go_ret
          exact ⟨rfl, Below.refl _ _⟩
/-- How a list that is not empty ends. -/
theorem lastU_at {u : List Int} {q : Nat} (hq : u.length = q + 1) : u[q]? = some (lastU u) := by
  rcases List.eq_nil_or_concat u with rfl | ⟨p, e, rfl⟩
  · simp at hq
  · rw [List.concat_eq_append] at *
    simp at hq
    rw [lastU_snoc, ← hq]
    simp
set_option maxRecDepth 100000 in
set_option maxHeartbeats 2000000 in
theorem lastUnit_any (x : Me) (v : Int) (w : World) (hu : Si w w.heap.size x.a x.b.u) (hk : okU x.b.u) (h0 : 0 ≤ x.b.lo) (h1 : x.b.lo < 4294967296) (h4 : 0 ≤ v) (h5 : v ≤ 4294967296) :
    Calls Tryz.prog 138 #[fv x, .int .i64 v] w fun e w' => e = .returned (.int .i64 (lastU x.b.u + (v - x.b.lo))) ∧ Below w.heap.size w w' := by
  obtain ⟨q, hq⟩ : ∃ q, x.b.u.length = q + 1 := ⟨x.b.u.length - 1, by have := hk.1; omega⟩
  obtain ⟨b, o, e, hb, hc⟩ := hu (by omega)
  have hl := hk.last
  have hcell := hc q (by omega)
  rw [lastU_at hq] at hcell
  unfold fv
  rw [hq, e]
  have hq64 : q < 64 := by have := hk.2.1; omega
  clear hc hu hk e
  generalize lastU x.b.u = L at *
  have hcell2 : ∀ ob, (w.alloc ob).cell? ⟨b, o + q, none⟩ = some (.int .i64 L) := fun ob => (World.cell?_alloc_lt w ob ⟨b, o + q, none⟩ hb).trans hcell
  have w1 : IntKind.i64.wrap (L + v) = L + v := IntWalk.i64_in _ (by omega)
  have w2 : IntKind.i64.wrap (L + v - x.b.lo) = L + v - x.b.lo := IntWalk.i64_in _ (by omega)
  have f1 : (0 : Int) ≤ (q : Int) := by omega
  rw [show L + (v - x.b.lo) = L + v - x.b.lo by omega]
  have HL := Lib.hid hl
  clear hl hcell h0 h1 h4 h5
  go_enter Tryz.func138, Tryz.ntmps138
  go_wp2
  go_quiet (fail)
  go_wp2
  go_ret
  exact ⟨rfl, below_drewN ((Below.refl _ _).alloc (Nat.le_refl _) _) _⟩
end Go.Proofs.YtmjneokjgcgchaaGreat
/-
  What an int is to the program.
-/
namespace Go.Proofs.YtmjneokjgcgchaaGreat
open Go.RowKit

theorem info64 : (Tryz.prog.info? 3).map (fun i => (i.zero, i.size, i.bytes)) = some (some (.int .i64 0), 1, 8) := by kernel_rfl
end Go.Proofs.YtmjneokjgcgchaaGreat
/-
  The program's own saneCodes, Sane, slices.Clone at ints, units, from, upTo, To.
-/
namespace Go.Proofs.YtmjneokjgcgchaaGreat
open Go.RowKit
attribute [local go_sem ↓] Go.wp_at_zero Go.wp_at_succ

set_option maxHeartbeats 4000000 in
theorem dCodes_any (x : Me) (w : World) :
    Calls Tryz.prog 136 #[fv x] w fun e w' => e = .returned (.bool ((saneB x.b.n x.b.lo && saneB x.b.n x.b.hi) && decide (x.b.lo ≤ x.b.hi))) ∧ Below w.heap.size w w' := by
  have hs := Fb.new w x 73
  have hb0 : Below w.heap.size w (w.alloc (.cells #[.int .i64 x.b.n, .int .i64 x.b.lo, .int .i64 x.b.hi, .slice x.a x.b.u.length x.c] 73)) := (Below.refl _ _).alloc (Nat.le_refl _) _
  have hz0 : w.heap.size < (w.alloc (.cells #[.int .i64 x.b.n, .int .i64 x.b.lo, .int .i64 x.b.hi, .slice x.a x.b.u.length x.c] 73)).heap.size := by simp
  have K1 := Lib.hid (fun W => Sane_any x.b.n x.b.lo W)
  have K2 := Lib.hid (fun W => Sane_any x.b.n x.b.hi W)
  cases d1 : saneB x.b.n x.b.lo with
  | false =>
    rw [d1] at K1
    unfold fv at *
    go_enter Tryz.func136, Tryz.ntmps136
    go_wp2_with ((go_at_call 61; refine (K1.out _).mono ?_; rintro e w1 ⟨rfl, hb1⟩))
    go_ret
    exact ⟨rfl, hb0.trans (hb1.mono (by omega))⟩
  | true =>
    cases d2 : saneB x.b.n x.b.hi with
    | false =>
      rw [d1] at K1
      rw [d2] at K2
      unfold fv at *
      go_enter Tryz.func136, Tryz.ntmps136
      go_wp2_with fail
      refine (K1.out _).mono ?_
      rintro e w1 ⟨rfl, hb1⟩
      obtain ⟨c0, c1, c2, c3⟩ := hs.below hb1 hz0
      rw [Nat.zero_add] at c1 c2 c3
      go_wp2_with fail
      refine (K2.out _).mono ?_
      rintro e w2 ⟨rfl, hb2⟩
      go_wp2
      go_ret
      exact ⟨rfl, (hb0.trans (hb1.mono (by omega))).trans (hb2.mono (by have := hb1.size; omega))⟩
    | true =>
      rw [d1] at K1
      rw [d2] at K2
      unfold fv at *
      have key : ∀ w1 w2, Below (w.alloc (.cells #[.int .i64 x.b.n, .int .i64 x.b.lo, .int .i64 x.b.hi, .slice x.a x.b.u.length x.c] 73)).heap.size (w.alloc (.cells #[.int .i64 x.b.n, .int .i64 x.b.lo, .int .i64 x.b.hi, .slice x.a x.b.u.length x.c] 73)) w1 → Below w1.heap.size w1 w2 → Below w.heap.size w w2 ∧ w.heap.size < w2.heap.size ∧ Fb w2 w.heap.size x := fun w1 w2 hb1 hb2 => by
        have a := hb1.size
        have b := hb2.size
        exact ⟨(hb0.trans (hb1.mono (by omega))).trans (hb2.mono (by omega)), by omega, (hs.below hb1 hz0).below hb2 (by omega)⟩
      go_enter Tryz.func136, Tryz.ntmps136
      go_wp2_with fail
      refine (K1.out _).mono ?_
      rintro e w1 ⟨rfl, hb1⟩
      obtain ⟨c0, c1, c2, c3⟩ := hs.below hb1 hz0
      rw [Nat.zero_add] at c1 c2 c3
      go_wp2_with fail
      refine (K2.out _).mono ?_
      rintro e w2 ⟨rfl, hb2⟩
      obtain ⟨k1, k2, e0, e1, e2, e3⟩ := key w1 w2 hb1 hb2
      rw [Nat.zero_add] at e1 e2 e3
      clear c0 c1 c2 c3 key hb0 hb1 hb2 hs hz0
      go_wp2
      go_ret
      exact ⟨rfl, k1⟩
theorem Sb_eq (s : Bp) : decide (Sb s) = (((saneB s.n s.lo && saneB s.n s.hi) && decide (s.lo ≤ s.hi)) && (decide (okU s.u) && decide (lastU s.u + (s.hi - s.lo) ≤ 65535))) := by
  show decide (saneB s.n s.lo = true ∧ saneB s.n s.hi = true ∧ s.lo ≤ s.hi ∧ okU s.u ∧ lastU s.u + (s.hi - s.lo) ≤ 65535) = _
  rw [Bool.eq_iff_iff]
  simp [and_assoc]
theorem al_below (w : World) (O : Obj) : Below w.heap.size w (w.alloc O) := (Below.refl _ _).alloc (Nat.le_refl _) _
set_option maxHeartbeats 4000000 in
theorem DSane_any (x : Me) (w : World) (hu : Un w x.a x.c x.b.u) :
    Calls Tryz.prog 109 #[fv x] w fun e w' => e = .returned (.bool (decide (Sb x.b))) ∧ Below w.heap.size w w' := by
  have hs := Fb.new w x 73
  have hb0 := al_below w (.cells #[.int .i64 x.b.n, .int .i64 x.b.lo, .int .i64 x.b.hi, .slice x.a x.b.u.length x.c] 73)
  have hz0 : w.heap.size < (w.alloc (.cells #[.int .i64 x.b.n, .int .i64 x.b.lo, .int .i64 x.b.hi, .slice x.a x.b.u.length x.c] 73)).heap.size := by simp
  have K1 := Lib.hid (fun W => dCodes_any x W)
  have K2 : Hid (∀ W, Below w.heap.size w W → Calls Tryz.prog 137 #[.slice x.a x.b.u.length x.c] W fun e w' => e = .returned (.bool (decide (okU x.b.u))) ∧ Below W.heap.size W w') := Lib.hid fun W hW => dUnits_any x.a x.c x.b.u W (hu.over hW).si
  have K3 : Hid (∀ W, Below w.heap.size w W → saneB x.b.n x.b.lo = true → saneB x.b.n x.b.hi = true → okU x.b.u → Calls Tryz.prog 138 #[fv x, .int .i64 x.b.hi] W fun e w' => e = .returned (.int .i64 (lastU x.b.u + (x.b.hi - x.b.lo))) ∧ Below W.heap.size W w') := Lib.hid fun W hW h1 h2 h3 => by
    have a := saneB_top h1
    have b := saneB_top h2
    exact lastUnit_any x x.b.hi W (hu.over hW).si h3 a.1 a.2.1 b.1 (by omega)
  have key : ∀ w1 w2, Below (w.alloc (.cells #[.int .i64 x.b.n, .int .i64 x.b.lo, .int .i64 x.b.hi, .slice x.a x.b.u.length x.c] 73)).heap.size (w.alloc (.cells #[.int .i64 x.b.n, .int .i64 x.b.lo, .int .i64 x.b.hi, .slice x.a x.b.u.length x.c] 73)) w1 → Below w1.heap.size w1 w2 → Below w.heap.size w w2 ∧ w.heap.size < w2.heap.size ∧ Fb w2 w.heap.size x := fun w1 w2 hb1 hb2 => by
    have a := hb1.size
    have b := hb2.size
    exact ⟨(hb0.trans (hb1.mono (by omega))).trans (hb2.mono (by omega)), by omega, (hs.below hb1 hz0).below hb2 (by omega)⟩
  have KEY := Lib.hid key
  rw [Sb_eq]
  clear key hs hb0 hz0 hu
  cases d1 : ((saneB x.b.n x.b.lo && saneB x.b.n x.b.hi) && decide (x.b.lo ≤ x.b.hi)) with
  | false =>
    rw [d1] at K1
    unfold fv at *
    go_enter Tryz.func109, Tryz.ntmps109
    go_wp2_with ((go_at_call 136; refine (K1.out _).mono ?_; rintro e w1 ⟨rfl, hb1⟩))
    go_ret
    exact ⟨rfl, (KEY.out _ _ hb1 (Below.refl _ _)).1⟩
  | true =>
    rw [d1] at K1
    have HD := Lib.hid d1
    clear d1
    cases d2 : decide (okU x.b.u) with
    | false =>
      rw [d2] at K2
      clear d2
      unfold fv at *
      go_enter Tryz.func109, Tryz.ntmps109
      go_wp2_with fail
      refine (K1.out _).mono ?_
      rintro e w1 ⟨rfl, hb1⟩
      obtain ⟨k1, k2, c0, c1, c2, c3⟩ := KEY.out _ _ hb1 (Below.refl _ _)
      rw [Nat.zero_add] at c1 c2 c3
      go_wp2_with fail
      refine (K2.out _ k1).mono ?_
      rintro e w2 ⟨rfl, hb2⟩
      have k3 := (KEY.out _ _ hb1 hb2).1
      go_wp2
      go_ret
      exact ⟨rfl, k3⟩
    | true =>
      rw [d2] at K2
      have HO := Lib.hid (of_decide_eq_true d2)
      clear d2
      have K4 : Hid (∀ W, Below w.heap.size w W → Calls Tryz.prog 138 #[fv x, .int .i64 x.b.hi] W fun e w' => e = .returned (.int .i64 (lastU x.b.u + (x.b.hi - x.b.lo))) ∧ Below W.heap.size W w') := Lib.hid fun W hW => by
        have h := HD.out
        simp only [Bool.and_eq_true] at h
        exact K3.out W hW h.1.1 h.1.2 HO.out
      clear K3
      generalize lastU x.b.u + (x.b.hi - x.b.lo) = L at *
      unfold fv at *
      go_enter Tryz.func109, Tryz.ntmps109
      go_wp2_with fail
      refine (K1.out _).mono ?_
      rintro e w1 ⟨rfl, hb1⟩
      obtain ⟨k1, k2, c0, c1, c2, c3⟩ := KEY.out _ _ hb1 (Below.refl _ _)
      rw [Nat.zero_add] at c1 c2 c3
      go_wp2_with fail
      refine (K2.out _ k1).mono ?_
      rintro e w2 ⟨rfl, hb2⟩
      obtain ⟨k3, k4, e0, e1, e2, e3⟩ := KEY.out _ _ hb1 hb2
      rw [Nat.zero_add] at e1 e2 e3
      clear c0 c1 c2 c3 KEY
      go_wp2_with fail
      refine (K4.out _ k3).mono ?_
      rintro e w3 ⟨rfl, hb3⟩
      go_wp2
      go_ret
      exact ⟨rfl, k3.trans (hb3.mono (by omega))⟩
end Go.Proofs.YtmjneokjgcgchaaGreat
/-
  slices.Clone at ints; the program's own units.
-/
namespace Go.Proofs.YtmjneokjgcgchaaGreat
open Go.RowKit
attribute [local go_sem ↓] Go.wp_at_zero Go.wp_at_succ

set_option maxRecDepth 100000 in
set_option maxHeartbeats 2000000 in
/-- Units copied: new memory. -/
theorem Clone_any (a : Option Addr) (c : Nat) (u : List Int) (w : World) (hu : Un w a c u) (hn : 0 < u.length) (hl : u.length ≤ 1000) :
    Calls Tryz.prog 139 #[.slice a u.length c] w fun e w' => ∃ v, e = .returned v ∧ w'.ownsRow w.heap.size 3 1 v u.length (ivs u) ∧ Below w.heap.size w w' := by
  obtain ⟨i0, hi, hz0, hz1, hz2⟩ := info_parts info64
  obtain ⟨b, o, e, _⟩ := hu.si hn
  have HS := Lib.hid hu.si
  obtain ⟨n, hnn⟩ : ∃ n, n = u.length := ⟨_, rfl⟩
  have HN := Lib.hid hnn
  rw [← hnn]
  rw [e] at HS ⊢
  clear hu hnn e
  have hnil : ∀ wx, (binOp .eql 57 (.slice (some ⟨b, o, none⟩) n c) (.slice none 0 0)).run Tryz.prog wx = .ok (.bool false) wx := fun wx => Lib.run_eql_slice_nil wx 57 3 (some ⟨b, o, none⟩) n c 0 0 Tryz.underlying57
  go_enter Tryz.func139, Tryz.ntmps139
  go_wp2_with (at_builtin; refine app_ints rfl _ _ _ rfl w.heap.size 3 i0 Tryz.underlying57 hi hz0 hz1 hz2 _ [] rfl (own_emptyI w w.heap.size _ (Nat.le_refl _)) w.heap.size (some ⟨b, o, none⟩) _ _ u HN.out rfl (HS.out.alloc (Nat.le_refl _) _) (fun e => by cases e) (by simp; omega) (by simp) ?_; intro v' w3 hown3 hgrow3)
  go_ret
  rw [List.nil_append] at hown3
  exact ⟨v', rfl, by rw [HN.out]; exact hown3, (al_below w _).grown hgrow3 (by simp) (fun q hq => ((own_emptyI w w.heap.size 3 (Nat.le_refl _)).lt q hq).1)⟩
end Go.Proofs.YtmjneokjgcgchaaGreat
/-
  The program's own units.
-/
namespace Go.Proofs.YtmjneokjgcgchaaGreat
open Go.RowKit
attribute [local go_sem ↓] Go.wp_at_zero Go.wp_at_succ

theorem ivs_set_last {u : List Int} {q : Nat} (hq : u.length = q + 1) (d : Int) : (ivs u).set q (.int .i64 (lastU u + d)) = ivs (addU u d) := by
  rcases List.eq_nil_or_concat u with rfl | ⟨p, e, rfl⟩
  · simp at hq
  · rw [List.concat_eq_append] at *
    simp at hq
    rw [addU_snoc, lastU_snoc, ivs_append, ivs_append, List.set_append_right _ _ (by rw [ivs_length]; omega), ivs_length, hq, Nat.sub_self]
    rfl
set_option maxRecDepth 100000 in
set_option maxHeartbeats 4000000 in
/-- Units of a code: new memory. -/
theorem units_any (x : Me) (v : Int) (w : World) (hu : Un w x.a x.c x.b.u) (hk : okU x.b.u) (h0 : 0 ≤ x.b.lo) (h1 : x.b.lo < 4294967296) (h4 : 0 ≤ v) (h5 : v ≤ 4294967296) :
    Calls Tryz.prog 110 #[fv x, .int .i64 v] w fun e w' => ∃ r, e = .returned r ∧ w'.ownsRow w.heap.size 3 1 r x.b.u.length (ivs (goB x.b v)) ∧ Below w.heap.size w w' := by
  obtain ⟨q, hq⟩ : ∃ q, x.b.u.length = q + 1 := ⟨x.b.u.length - 1, by have := hk.1; omega⟩
  have hq64 : q < 64 := by have := hk.2.1; omega
  have K1 : Hid (∀ W, Below w.heap.size w W → Calls Tryz.prog 139 #[.slice x.a x.b.u.length x.c] W fun e w' => ∃ v, e = .returned v ∧ w'.ownsRow W.heap.size 3 1 v x.b.u.length (ivs x.b.u) ∧ Below W.heap.size W w') := Lib.hid fun W hW => Clone_any x.a x.c x.b.u W (hu.over hW) (by omega) (by omega)
  have K2 : Hid (∀ W, Below w.heap.size w W → Calls Tryz.prog 138 #[fv x, .int .i64 v] W fun e w' => e = .returned (.int .i64 (lastU x.b.u + (v - x.b.lo))) ∧ Below W.heap.size W w') := Lib.hid fun W hW => lastUnit_any x v W (hu.over hW).si hk h0 h1 h4 h5
  have hs := Fb.new w x 73
  have hb0 := al_below w (.cells #[.int .i64 x.b.n, .int .i64 x.b.lo, .int .i64 x.b.hi, .slice x.a x.b.u.length x.c] 73)
  have hz0 : w.heap.size < (w.alloc (.cells #[.int .i64 x.b.n, .int .i64 x.b.lo, .int .i64 x.b.hi, .slice x.a x.b.u.length x.c] 73)).heap.size := by simp
  have E1 := Lib.hid (ivs_set_last hq (v - x.b.lo))
  unfold fv at *
  rw [hq] at K1 K2 hs hb0 hz0 ⊢
  have HQ := Lib.hid hq
  clear hu hk h0 h1 h4 h5 hq
  go_enter Tryz.func110, Tryz.ntmps110
  go_wp2_with fail
  refine (K1.out _ hb0).mono ?_
  rintro e w1 ⟨r, rfl, hown, hb1⟩
  obtain ⟨g, cap, rfl, hg1, hg2⟩ := hown.form (by omega)
  obtain ⟨c0, c1, c2, c3⟩ := hs.below hb1 hz0
  rw [Nat.zero_add] at c1 c2 c3
  rw [HQ.out] at c3
  have k1 : Below w.heap.size w w1 := hb0.trans (hb1.mono (by omega))
  have f1 : (0 : Int) ≤ (q : Int) := by omega
  go_wp2_with fail
  refine (K2.out _ k1).mono ?_
  rintro e w2 ⟨rfl, hb2⟩
  have hown2 := own_lowD (own_belowD hown hb2 (Nat.le_refl _)) (base' := w.heap.size) (by omega)
  have hf := hown2.frozenAt q
  have hcl := hown2.cells (g := g) rfl q _ (ivs_get x.b.u q (by have := HQ.out; omega))
  rw [addr_add, Nat.zero_add] at hcl
  have k3 := hown2.stored q (.int .i64 (lastU x.b.u + (v - x.b.lo)))
  rw [E1.out] at k3
  clear c0 c1 c2 c3
  go_wp2
  go_ret
  exact ⟨_, rfl, k3.1, (k1.trans (hb2.mono (by have := hb1.size; omega))).setCell (p := ⟨g, q, none⟩) (by show w.heap.size ≤ g; omega) _⟩
end Go.Proofs.YtmjneokjgcgchaaGreat
/-
  The program's own from, upTo, To.
-/
namespace Go.Proofs.YtmjneokjgcgchaaGreat
open Go.RowKit
attribute [local go_sem ↓] Go.wp_at_zero Go.wp_at_succ

/-- Four stores into one block. -/
theorem setB4 {w : World} {b : Nat} {a0 a1 a2 a3 : Value} (h0 : w.cell? ⟨b, 0, none⟩ = some a0) (h1 : w.cell? ⟨b, 1, none⟩ = some a1) (h2 : w.cell? ⟨b, 2, none⟩ = some a2) (h3 : w.cell? ⟨b, 3, none⟩ = some a3) (u0 u1 u2 u3 : Value) :
    ∀ W, W = (((w.setCell ⟨b, 0, none⟩ u0).setCell ⟨b, 1, none⟩ u1).setCell ⟨b, 2, none⟩ u2).setCell ⟨b, 3, none⟩ u3 → W.cell? ⟨b, 0, none⟩ = some u0 ∧ W.cell? ⟨b, 1, none⟩ = some u1 ∧ W.cell? ⟨b, 2, none⟩ = some u2 ∧ W.cell? ⟨b, 3, none⟩ = some u3 := by
  rintro W rfl
  have ne : ∀ i j : Nat, i ≠ j → (⟨b, i, none⟩ : Addr) ≠ ⟨b, j, none⟩ := fun i j h e => by injection e with _ e2; exact h e2
  refine ⟨?_, ?_, ?_, ?_⟩
  · rw [World.cell?_setCell_other _ _ _ _ (ne 3 0 (by decide)), World.cell?_setCell_other _ _ _ _ (ne 2 0 (by decide)), World.cell?_setCell_other _ _ _ _ (ne 1 0 (by decide))]
    exact World.cell?_setCell_same _ _ _ h0
  · rw [World.cell?_setCell_other _ _ _ _ (ne 3 1 (by decide)), World.cell?_setCell_other _ _ _ _ (ne 2 1 (by decide))]
    exact World.cell?_setCell_same _ _ _ ((World.cell?_setCell_other _ _ _ _ (ne 0 1 (by decide))).trans h1)
  · rw [World.cell?_setCell_other _ _ _ _ (ne 3 2 (by decide))]
    exact World.cell?_setCell_same _ _ _ ((World.cell?_setCell_other _ _ _ _ (ne 1 2 (by decide))).trans ((World.cell?_setCell_other _ _ _ _ (ne 0 2 (by decide))).trans h2))
  · exact World.cell?_setCell_same _ _ _ ((World.cell?_setCell_other _ _ _ _ (ne 2 3 (by decide))).trans ((World.cell?_setCell_other _ _ _ _ (ne 1 3 (by decide))).trans ((World.cell?_setCell_other _ _ _ _ (ne 0 3 (by decide))).trans h3)))
theorem belowB4 {w w0 : World} {B b : Nat} (h : Below B w0 w) (hb : B ≤ b) (u0 u1 u2 u3 : Value) : Below B w0 ((((w.setCell ⟨b, 0, none⟩ u0).setCell ⟨b, 1, none⟩ u1).setCell ⟨b, 2, none⟩ u2).setCell ⟨b, 3, none⟩ u3) :=
  (((h.setCell (p := ⟨b, 0, none⟩) hb _).setCell (p := ⟨b, 1, none⟩) hb _).setCell (p := ⟨b, 2, none⟩) hb _).setCell (p := ⟨b, 3, none⟩) hb _
/-- An entry handed back: its units are new. -/
def RetE (w : World) (b : Bp) (e : Ending) (w' : World) : Prop := ∃ a c, e = .returned (fv ⟨b, a, c⟩) ∧ Ut w' a c b.u ∧ Below w.heap.size w w'
theorem Ut.setFar {w : World} {a : Option Addr} {c g i : Nat} {u : List Int} {v : Value} (h : Ut w a c u) (hg : Tq w g) : Ut (w.setCell ⟨g, i, none⟩ v) a c u := h.ik (Ik.of_set hg)
/-- Units at a row that was made behind some block, where only blocks ahead of the row are written. -/
theorem Un.oth {w w' : World} {a : Option Addr} {c : Nat} {u : List Int} (h : Un w a c u) (hs : w.heap.size ≤ w'.heap.size) (hk : ∀ b o, a = some ⟨b, o, none⟩ → w'.heap[b]? = w.heap[b]?) : Un w' a c u := ⟨h.c0, h.c1, fun hn => by
  obtain ⟨b, o, e, hb, hc⟩ := h.si hn
  exact ⟨b, o, e, Nat.lt_of_lt_of_le hb hs, fun j hj => (World.cell?_of_block (a := ⟨b, o + j, none⟩) (hk b o e)).trans (hc j hj)⟩⟩
theorem Ut.oth {w w' : World} {a : Option Addr} {c : Nat} {u : List Int} (h : Ut w a c u) (hs : w.heap.size ≤ w'.heap.size) (hk : ∀ b o, a = some ⟨b, o, none⟩ → w'.heap[b]? = w.heap[b]?) : Ut w' a c u := ⟨h.un.oth hs hk, fun hn => by
  obtain ⟨b, o, cs, f, e, hh⟩ := h.ty hn
  exact ⟨b, o, cs, f, e, (hk b o e).trans hh⟩⟩
theorem set4_heap (w : World) (b k : Nat) (u0 u1 u2 u3 : Value) (h : k ≠ b) : ((((w.setCell ⟨b, 0, none⟩ u0).setCell ⟨b, 1, none⟩ u1).setCell ⟨b, 2, none⟩ u2).setCell ⟨b, 3, none⟩ u3).heap[k]? = w.heap[k]? := by
  rw [heap_setCell_other _ _ _ _ h, heap_setCell_other _ _ _ _ h, heap_setCell_other _ _ _ _ h, heap_setCell_other _ _ _ _ h]
set_option maxRecDepth 100000 in
set_option maxHeartbeats 4000000 in
theorem from_any (x : Me) (lo : Int) (w : World) (hu : Un w x.a x.c x.b.u) (hk : okU x.b.u) (h0 : 0 ≤ x.b.lo) (h1 : x.b.lo < 4294967296) (h4 : 0 ≤ lo) (h5 : lo ≤ 4294967296) :
    Calls Tryz.prog 114 #[fv x, .int .i64 lo] w (RetE w (partB x.b lo x.b.hi)) := by
  have K1 : Hid (∀ W, Below w.heap.size w W → Calls Tryz.prog 110 #[fv x, .int .i64 lo] W fun e w' => ∃ r, e = .returned r ∧ w'.ownsRow W.heap.size 3 1 r x.b.u.length (ivs (goB x.b lo)) ∧ Below W.heap.size W w') := Lib.hid fun W hW => units_any x lo W (hu.over hW) hk h0 h1 h4 h5
  have HG := Lib.hid (show (goB x.b lo).length = x.b.u.length from addU_length _ _)
  obtain ⟨G, hG⟩ : ∃ G, G = goB x.b lo := ⟨_, rfl⟩
  have EG := Lib.hid hG
  rw [← hG] at K1 HG
  clear hu hk h0 h1 h4 h5 hG
  unfold fv at *
  go_enter Tryz.func114, Tryz.ntmps114
  go_wp2_with fail
  have xs : Fb ((w.alloc (.cells #[.int .i64 x.b.n, .int .i64 x.b.lo, .int .i64 x.b.hi, .slice x.a x.b.u.length x.c] 73)).alloc (.cells #[.int .i64 0, .int .i64 0, .int .i64 0, .slice none 0 0] 73)) w.heap.size x := ⟨by simp, by simp, by simp, by simp⟩
  have xz : Fb ((w.alloc (.cells #[.int .i64 x.b.n, .int .i64 x.b.lo, .int .i64 x.b.hi, .slice x.a x.b.u.length x.c] 73)).alloc (.cells #[.int .i64 0, .int .i64 0, .int .i64 0, .slice none 0 0] 73)) (w.heap.size + 1) ⟨⟨0, 0, 0, []⟩, none, 0⟩ := ⟨by simp, by simp, by simp, by simp⟩
  have xf : ∀ i, ((w.alloc (.cells #[.int .i64 x.b.n, .int .i64 x.b.lo, .int .i64 x.b.hi, .slice x.a x.b.u.length x.c] 73)).alloc (.cells #[.int .i64 0, .int .i64 0, .int .i64 0, .slice none 0 0] 73)).frozen? ⟨w.heap.size + 1, i, none⟩ = false := fun i => by simp
  have b1 : Below w.heap.size w ((w.alloc (.cells #[.int .i64 x.b.n, .int .i64 x.b.lo, .int .i64 x.b.hi, .slice x.a x.b.u.length x.c] 73)).alloc (.cells #[.int .i64 0, .int .i64 0, .int .i64 0, .slice none 0 0] 73)) := ((Below.refl _ _).alloc (Nat.le_refl _) _).alloc (by simp) _
  have z1 : w.heap.size + 1 < ((w.alloc (.cells #[.int .i64 x.b.n, .int .i64 x.b.lo, .int .i64 x.b.hi, .slice x.a x.b.u.length x.c] 73)).alloc (.cells #[.int .i64 0, .int .i64 0, .int .i64 0, .slice none 0 0] 73)).heap.size := by simp
  generalize (w.alloc (.cells #[.int .i64 x.b.n, .int .i64 x.b.lo, .int .i64 x.b.hi, .slice x.a x.b.u.length x.c] 73)).alloc (.cells #[.int .i64 0, .int .i64 0, .int .i64 0, .slice none 0 0] 73) = wr at *
  have hS : ∀ w', Below wr.heap.size wr w' → (fun w' => (w'.cell? ⟨w.heap.size, 0, none⟩ = some (.int .i64 x.b.n) ∧ w'.cell? ⟨w.heap.size, 1, none⟩ = some (.int .i64 x.b.lo) ∧ w'.cell? ⟨w.heap.size, 2, none⟩ = some (.int .i64 x.b.hi) ∧ w'.cell? ⟨w.heap.size, 3, none⟩ = some (.slice x.a x.b.u.length x.c)) ∧ (w'.cell? ⟨w.heap.size + 1, 0, none⟩ = some (.int .i64 0) ∧ w'.cell? ⟨w.heap.size + 1, 1, none⟩ = some (.int .i64 0) ∧ w'.cell? ⟨w.heap.size + 1, 2, none⟩ = some (.int .i64 0) ∧ w'.cell? ⟨w.heap.size + 1, 3, none⟩ = some (.slice none 0 0)) ∧ (w'.frozen? ⟨w.heap.size + 1, 0, none⟩ = false ∧ w'.frozen? ⟨w.heap.size + 1, 1, none⟩ = false ∧ w'.frozen? ⟨w.heap.size + 1, 2, none⟩ = false ∧ w'.frozen? ⟨w.heap.size + 1, 3, none⟩ = false)) w' := fun w' hb => by
    have p := Fb.below xs hb (by omega)
    have q := Fb.below xz hb (by omega)
    have f : ∀ i, w'.frozen? ⟨w.heap.size + 1, i, none⟩ = false := fun i => (hb.frozen (p := ⟨w.heap.size + 1, i, none⟩) z1).trans (xf i)
    exact ⟨⟨p.c0, p.c1, p.c2, p.c3⟩, ⟨q.c0, q.c1, q.c2, q.c3⟩, f 0, f 1, f 2, f 3⟩
  have HS := Lib.hid hS
  clear hS xs xz xf
  have z0 : Below wr.heap.size wr wr.drew := (Below.refl _ _).drew
  have KB : Hid (∀ W, Below wr.heap.size wr W → Below w.heap.size w W) := Lib.hid fun W hW => b1.trans (hW.mono (by omega))
  obtain ⟨⟨p0, p1, p2, p3⟩, ⟨q0, q1, q2, q3⟩, f0, f1, f2, f3⟩ := HS.out wr (Below.refl _ _)
  go_region_with ((go_at_call 110; (with_reducible refine (K1.out _ (KB.out _ z0)).mono ?_); rintro e x1 ⟨rU, rfl, hown, y8⟩; have z8 := z0.trans (y8.mono z0.size); obtain ⟨rA, rC, rfl, hut, _⟩ := Ut.of_own hown; have hlow : ∀ g, (Value.slice rA G.length rC).ownBlock = some g → wr.drew.heap.size ≤ g ∧ g < x1.heap.size := fun g hg => own_ltD hown hg; obtain ⟨⟨p0, p1, p2, p3⟩, ⟨q0, q1, q2, q3⟩, f0, f1, f2, f3⟩ := HS.out _ z8))
  all_goals
    have hg := setB4 q0 q1 q2 q3 (.int .i64 x.b.n) (.int .i64 lo) (.int .i64 x.b.hi) (.slice rA G.length rC) _ rfl
    have hbE := belowB4 (b := w.heap.size + 1) (b1.trans (z8.mono (by omega))) (by omega) (.int .i64 x.b.n) (.int .i64 lo) (.int .i64 x.b.hi) (.slice rA G.length rC)
    have hutE : Ut ((((x1.setCell ⟨w.heap.size + 1, 0, none⟩ (.int .i64 x.b.n)).setCell ⟨w.heap.size + 1, 1, none⟩ (.int .i64 lo)).setCell ⟨w.heap.size + 1, 2, none⟩ (.int .i64 x.b.hi)).setCell ⟨w.heap.size + 1, 3, none⟩ (.slice rA G.length rC)) rA rC G := hut.oth (by simp) (fun b o e => set4_heap _ _ _ _ _ _ _ (by
      have h1 := (hlow b (by rw [e]; rfl)).1
      have h2 := z0.size
      omega))
    clear p0 p1 p2 p3 q0 q1 q2 q3 f0 f1 f2 f3
    go_wp2
    generalize (((World.setCell x1 ⟨w.heap.size + 1, 0, none⟩ (.int .i64 x.b.n)).setCell ⟨w.heap.size + 1, 1, none⟩ (.int .i64 lo)).setCell ⟨w.heap.size + 1, 2, none⟩ (.int .i64 x.b.hi)).setCell ⟨w.heap.size + 1, 3, none⟩ (.slice rA G.length rC) = W at *
    obtain ⟨g0, g1, g2, g3⟩ := hg
    refine bodyPost_ret (v := _) (by simp [results, Tryz.results114, go_sem, g0, g1, g2, g3]; try rfl) rfl ?_
    refine ⟨rA, rC, ?_, ?_, hbE⟩
    · unfold fv partB
      rw [← EG.out]
    · show Ut W rA rC (goB x.b lo)
      rw [← EG.out]
      exact hutE
end Go.Proofs.YtmjneokjgcgchaaGreat
/-
  The program's own upTo; what To hands back.
-/
namespace Go.Proofs.YtmjneokjgcgchaaGreat
open Go.RowKit
attribute [local go_sem ↓] Go.wp_at_zero Go.wp_at_succ

set_option maxRecDepth 100000 in
set_option maxHeartbeats 4000000 in
theorem upTo_any (x : Me) (hi : Int) (w : World) :
    Calls Tryz.prog 157 #[fv x, .int .i64 hi] w fun e w' => e = .returned (fv ⟨{ x.b with hi := hi }, x.a, x.c⟩) ∧ Below w.heap.size w w' := by
  unfold fv
  go_enter Tryz.func157, Tryz.ntmps157
  go_wp2
  go_returns
  refine ⟨rfl, ?_⟩
  exact (((Below.refl _ _).alloc (Nat.le_refl _) _).alloc (by simp) _)
/-- Units, or nothing. -/
def RetO (w : World) (o : Option (List Int)) (e : Ending) (w' : World) : Prop :=
  (match o with
  | none => e = .returned (.tuple #[.slice none 0 0, .bool false])
  | some u => ∃ a c, e = .returned (.tuple #[.slice a u.length c, .bool true]) ∧ Ut w' a c u) ∧ Below w.heap.size w w'
end Go.Proofs.YtmjneokjgcgchaaGreat
/-
  A token as a plain value.
-/
namespace Go.Proofs.YtmjneokjgcgchaaGreat

/-- A token, with its place. -/
structure Tk where
  kind : Int
  at_ : Int
  n : Int
  s : List UInt8
end Go.Proofs.YtmjneokjgcgchaaGreat
/-
  Codes, entries and items as plain values.
-/
namespace Go.Proofs.YtmjneokjgcgchaaGreat

/-- A code: how many bytes, and their number. -/
structure Cd where
  n : Int
  v : Int
/-- An entry. -/
structure En where
  lo : Cd
  hi : Cd
  to : Int
  u : List Int
  ll : List (List Int)
/-- An item. -/
structure Im where
  kind : Int
  at_ : Int
  name : List UInt8
  val : Tk
  ents : List En
end Go.Proofs.YtmjneokjgcgchaaGreat
/-
  Rows in memory whose cells lead to other rows: units, lists of units, entries, items; and which blocks they avoid.
-/
namespace Go.Proofs.YtmjneokjgcgchaaGreat
open Go.RowKit

/-- Blocks that are none of X stay. -/
structure Kp (w w' : World) (X : Nat → Prop) : Prop where
  size : w.heap.size ≤ w'.heap.size
  block : ∀ b, b < w.heap.size → ¬ X b → w'.heap[b]? = w.heap[b]?
section
variable {w w' w'' : World} {X X' Y : Nat → Prop}
theorem Kp.cell (h : Kp w w' X) {b o : Nat} (hb : b < w.heap.size) (hx : ¬ X b) : w'.cell? ⟨b, o, none⟩ = w.cell? ⟨b, o, none⟩ := World.cell?_of_block (a := ⟨b, o, none⟩) (h.block b hb hx)
theorem Kp.of_below (h : Below w.heap.size w w') : Kp w w' X := ⟨h.size, fun b hb _ => h.block b hb⟩
theorem Kp.of_grown {row : Option Nat} (h : w.grownBy w' row) (hX : ∀ b, row = some b → X b) : Kp w w' X := ⟨h.size, fun b hb hx => h.block b hb (fun e => hx (hX b e.symm))⟩
theorem Kp.mono (h : Kp w w' X) (hx : ∀ b, b < w.heap.size → X b → Y b) : Kp w w' Y := ⟨h.size, fun b hb hn => h.block b hb (fun hX => hn (hx b hb hX))⟩
theorem Kp.trans (h : Kp w w' X) (k : Kp w' w'' X) : Kp w w'' X := ⟨Nat.le_trans h.size k.size, fun b hb hn => (k.block b (Nat.lt_of_lt_of_le hb h.size) hn).trans (h.block b hb hn)⟩
theorem Kp.refl (w : World) (X : Nat → Prop) : Kp w w X := ⟨Nat.le_refl _, fun _ _ _ => rfl⟩
end

/-- A slice holds rows of k cells each: those that q tells; its block is none of X. -/
def Rw {α : Type} (w : World) (X : Nat → Prop) (k : Nat) (q : α → List Value) (v : Value) (l : List α) : Prop :=
  ∃ A c, v = .slice A l.length c ∧ (l.length ≤ c ∧ (A = none → c = 0)) ∧ (0 < l.length → ∃ b o, A = some ⟨b, o, none⟩ ∧ b < w.heap.size ∧ ¬ X b ∧ ∀ j x, l[j]? = some x → ∀ i u, (q x)[i]? = some u → w.cell? ⟨b, o + j * k + i, none⟩ = some u)
section
variable {α : Type} {w w' : World} {X X' : Nat → Prop} {k : Nat} {q : α → List Value} {v : Value} {l : List α}
theorem Rw.to (h : Rw w X k q v l) (hk : Kp w w' X) (hx : ∀ b, b < w.heap.size → X' b → X b) : Rw w' X' k q v l := by
  obtain ⟨A, c, e, hc, hh⟩ := h
  refine ⟨A, c, e, hc, fun hn => ?_⟩
  obtain ⟨b, o, e2, hb, hne, hcl⟩ := hh hn
  exact ⟨b, o, e2, Nat.lt_of_lt_of_le hb hk.size, fun h => hne (hx b hb h), fun j x hj i u hu => (hk.cell hb hne).trans (hcl j x hj i u hu)⟩
theorem Rw.nil : Rw w X k q (.slice none 0 0) ([] : List α) := ⟨none, 0, rfl, ⟨Nat.le_refl _, fun _ => rfl⟩, fun h => absurd h (by simp)⟩
theorem flat_get (hq : ∀ x, (q x).length = k) : ∀ (l : List α) (j i : Nat) (x : α), l[j]? = some x → i < k → (l.flatMap q)[j * k + i]? = (q x)[i]?
  | [], j, i, x, h, _ => by simp at h
  | y :: l, 0, i, x, h, hi => by
    simp at h
    subst h
    rw [List.flatMap_cons, Nat.zero_mul, Nat.zero_add, List.getElem?_append_left (by rw [hq]; exact hi)]
  | y :: l, j + 1, i, x, h, hi => by
    have e : (j + 1) * k = j * k + k := Nat.succ_mul j k
    rw [List.flatMap_cons, List.getElem?_append_right (by rw [hq]; omega), hq, ← flat_get hq l j i x (by simpa using h) hi]
    congr 1
    omega
theorem flat_len (hq : ∀ x, (q x).length = k) : ∀ l : List α, (l.flatMap q).length = l.length * k
  | [] => by simp
  | y :: l => by
    have e : (l.length + 1) * k = l.length * k + k := Nat.succ_mul _ k
    rw [List.flatMap_cons, List.length_append, hq, flat_len hq l, List.length_cons]
    omega
theorem Rw.of_own {base n : Nat} {e : TypeId} (hq : ∀ x, (q x).length = k) (hk : 0 < k) (h : w.ownsRow base e k v n (l.flatMap q)) (hX : ∀ b, v.ownBlock = some b → b < w.heap.size → ¬ X b) : n = l.length ∧ Rw w X k q v l := by
  have hl : n = l.length := by have := h.1; rw [flat_len hq] at this; exact (Nat.eq_of_mul_eq_mul_right hk this).symm
  refine ⟨hl, ?_⟩
  subst hl
  rcases h.2 with ⟨rfl, h0⟩ | ⟨g, cap, cur, rfl, hb, hg, hc, hm, hs, ht⟩
  · exact ⟨none, 0, by rw [h0], ⟨by omega, fun _ => rfl⟩, fun hn => absurd hn (by omega)⟩
  · have hlt := (Array.getElem?_eq_some_iff.1 hg).1
    refine ⟨some ⟨g, 0, none⟩, cap, rfl, ⟨hc, fun e => by cases e⟩, fun _ => ⟨g, 0, rfl, hlt, hX g rfl hlt, fun j x hj i u hu => ?_⟩⟩
    have hi : i < k := by
      rcases Nat.lt_or_ge i k with h | h
      · exact h
      · rw [List.getElem?_eq_none (by rw [hq]; exact h)] at hu; cases hu
    have := h.cells (g := g) rfl (j * k + i) u ((flat_get hq l j i x hj hi).trans hu)
    rwa [addr_add, ← Nat.add_assoc] at this
theorem flat_snoc (l : List α) (x : α) : (l ++ [x]).flatMap q = l.flatMap q ++ q x := by simp
end

/-- Units: ints, one cell each. -/
def uq (n : Int) : List Value := [.int .i64 n]
def Ux (w : World) (X : Nat → Prop) (v : Value) (u : List Int) : Prop := Rw w X 1 uq v u
/-- A list of units: slices, one cell each. -/
def lq (p : List Int × Value) : List Value := [p.2]
def Lx (w : World) (X : Nat → Prop) (v : Value) (ll : List (List Int)) : Prop := ∃ d : List (List Int × Value), ll = d.map (·.1) ∧ Rw w X 1 lq v d ∧ ∀ p ∈ d, Ux w X p.2 p.1
/-- Entries, seven cells each. -/
def dq (p : En × Value × Value) : List Value := [.int .i64 p.1.lo.n, .int .i64 p.1.lo.v, .int .i64 p.1.hi.n, .int .i64 p.1.hi.v, .int .i64 p.1.to, p.2.1, p.2.2]
def Eo (w : World) (X : Nat → Prop) (p : En × Value × Value) : Prop := Ux w X p.2.1 p.1.u ∧ Lx w X p.2.2 p.1.ll
def Ex (w : World) (X : Nat → Prop) (v : Value) (es : List En) : Prop := ∃ d : List (En × Value × Value), es = d.map (·.1) ∧ Rw w X 7 dq v d ∧ ∀ p ∈ d, Eo w X p
/-- Items, eight cells each. -/
def iq (p : Im × Value) : List Value := [.int .i64 p.1.kind, .int .i64 p.1.at_, .string (str p.1.name), .int .i64 p.1.val.kind, .int .i64 p.1.val.at_, .int .i64 p.1.val.n, .string (str p.1.val.s), p.2]
def Ix (w : World) (X : Nat → Prop) (v : Value) (is : List Im) : Prop := ∃ d : List (Im × Value), is = d.map (·.1) ∧ Rw w X 8 iq v d ∧ ∀ p ∈ d, Ex w X p.2 p.1.ents
theorem uq_len (n : Int) : (uq n).length = 1 := rfl
theorem lq_len (p : List Int × Value) : (lq p).length = 1 := rfl
theorem dq_len (p : En × Value × Value) : (dq p).length = 7 := rfl
theorem iq_len (p : Im × Value) : (iq p).length = 8 := rfl
section
variable {w w' : World} {X X' : Nat → Prop} {v : Value}
theorem Ux.to {u : List Int} (h : Ux w X v u) (hk : Kp w w' X) (hx : ∀ b, b < w.heap.size → X' b → X b) : Ux w' X' v u := Rw.to h hk hx
theorem Lx.to {ll : List (List Int)} (h : Lx w X v ll) (hk : Kp w w' X) (hx : ∀ b, b < w.heap.size → X' b → X b) : Lx w' X' v ll := by
  obtain ⟨d, e, hr, hd⟩ := h
  exact ⟨d, e, hr.to hk hx, fun p hp => (hd p hp).to hk hx⟩
theorem Eo.to {p : En × Value × Value} (h : Eo w X p) (hk : Kp w w' X) (hx : ∀ b, b < w.heap.size → X' b → X b) : Eo w' X' p := ⟨h.1.to hk hx, h.2.to hk hx⟩
theorem Ex.to {es : List En} (h : Ex w X v es) (hk : Kp w w' X) (hx : ∀ b, b < w.heap.size → X' b → X b) : Ex w' X' v es := by
  obtain ⟨d, e, hr, hd⟩ := h
  exact ⟨d, e, hr.to hk hx, fun p hp => (hd p hp).to hk hx⟩
theorem Ix.to {is : List Im} (h : Ix w X v is) (hk : Kp w w' X) (hx : ∀ b, b < w.heap.size → X' b → X b) : Ix w' X' v is := by
  obtain ⟨d, e, hr, hd⟩ := h
  exact ⟨d, e, hr.to hk hx, fun p hp => (hd p hp).to hk hx⟩
theorem Ux.nil : Ux w X (.slice none 0 0) [] := Rw.nil
theorem Lx.nil : Lx w X (.slice none 0 0) [] := ⟨[], rfl, Rw.nil, fun _ h => by cases h⟩
theorem Ex.nil : Ex w X (.slice none 0 0) [] := ⟨[], rfl, Rw.nil, fun _ h => by cases h⟩
theorem Ix.nil : Ix w X (.slice none 0 0) [] := ⟨[], rfl, Rw.nil, fun _ h => by cases h⟩
/-- Units as a slice of ints. -/
theorem Ux.si {u : List Int} (h : Ux w X v u) : ∃ A c, v = .slice A u.length c ∧ (u.length ≤ c ∧ (A = none → c = 0)) ∧ Si w w.heap.size A u := by
  obtain ⟨A, c, e, hc, hh⟩ := h
  refine ⟨A, c, e, hc, fun hn => ?_⟩
  obtain ⟨b, o, e2, hb, _, hcl⟩ := hh hn
  refine ⟨b, o, e2, hb, fun j hj => ?_⟩
  have := hcl j (u[j]?.getD 0) (by rw [List.getElem?_eq_getElem hj]; rfl) 0 (.int .i64 (u[j]?.getD 0)) rfl
  simpa using this
theorem Ux.of_si {u : List Int} {A : Option Addr} {c : Nat} (h : Si w w.heap.size A u) (hc : u.length ≤ c ∧ (A = none → c = 0)) (hX : ∀ b o, A = some ⟨b, o, none⟩ → b < w.heap.size → ¬ X b) : Ux w X (.slice A u.length c) u := by
  refine ⟨A, c, rfl, hc, fun hn => ?_⟩
  obtain ⟨b, o, e, hb, hcl⟩ := h hn
  refine ⟨b, o, e, hb, hX b o e hb, fun j x hj i y hy => ?_⟩
  have hj2 : j < u.length := (List.getElem?_eq_some_iff.1 hj).1
  cases i with
  | zero =>
    have := hcl j hj2
    rw [hj] at this
    simp only [uq, List.getElem?_cons_zero, Option.some.injEq] at hy
    subst hy
    simpa using this
  | succ i => simp [uq] at hy
end
theorem ivs_flat (u : List Int) : ivs u = u.flatMap uq := by
  induction u with
  | nil => rfl
  | cons a u ih => rw [List.flatMap_cons, ← ih]; rfl
/-- A row's cells, at a place. -/
theorem Rw.at {α : Type} {w : World} {X : Nat → Prop} {k : Nat} {q : α → List Value} {v : Value} {l : List α} (h : Rw w X k q v l) {j : Nat} (hj : j < l.length) :
    ∃ b o c x, v = .slice (some ⟨b, o, none⟩) l.length c ∧ l[j]? = some x ∧ x ∈ l ∧ ∀ i u, (q x)[i]? = some u → w.cell? ⟨b, o + j * k + i, none⟩ = some u := by
  obtain ⟨A, c, e, _, hh⟩ := h
  obtain ⟨b, o, e2, _, _, hc⟩ := hh (by omega)
  subst e2
  exact ⟨b, o, c, l[j], e, List.getElem?_eq_getElem hj, List.getElem_mem _, hc j _ (List.getElem?_eq_getElem hj)⟩
theorem Rw.any {α : Type} {w w' : World} {X : Nat → Prop} {k : Nat} {q : α → List Value} {v : Value} {l : List α} (h : Rw w X k q v l) (hk : Kp w w' (fun _ => False)) : Rw w' (fun _ => False) k q v l := Rw.to (Rw.to h (Kp.refl _ _) (X' := fun _ => False) (fun _ _ h => h.elim)) hk (fun _ _ h => h)
section
variable {w w' : World} {X : Nat → Prop} {v : Value}
theorem Ux.any {u : List Int} (h : Ux w X v u) (hk : Kp w w' (fun _ => False)) : Ux w' (fun _ => False) v u := Rw.any h hk
theorem Lx.any {u : List (List Int)} (h : Lx w X v u) (hk : Kp w w' (fun _ => False)) : Lx w' (fun _ => False) v u := Lx.to (Lx.to h (Kp.refl _ _) (X' := fun _ => False) (fun _ _ h => h.elim)) hk (fun _ _ h => h)
theorem Ex.any {u : List En} (h : Ex w X v u) (hk : Kp w w' (fun _ => False)) : Ex w' (fun _ => False) v u := Ex.to (Ex.to h (Kp.refl _ _) (X' := fun _ => False) (fun _ _ h => h.elim)) hk (fun _ _ h => h)
theorem Ix.any {u : List Im} (h : Ix w X v u) (hk : Kp w w' (fun _ => False)) : Ix w' (fun _ => False) v u := Ix.to (Ix.to h (Kp.refl _ _) (X' := fun _ => False) (fun _ _ h => h.elim)) hk (fun _ _ h => h)
theorem Lx.shape' {u : List (List Int)} (h : Lx w X v u) : ∃ A n c, v = .slice A n c := by obtain ⟨d, _, ⟨A, c, hv, _⟩, _⟩ := h; exact ⟨A, _, c, hv⟩
theorem Ex.shape' {u : List En} (h : Ex w X v u) : ∃ A n c, v = .slice A n c := by obtain ⟨d, _, ⟨A, c, hv, _⟩, _⟩ := h; exact ⟨A, _, c, hv⟩
end
theorem take_last {α : Type} {d : List α} {k : Nat} {x : α} (h : d[k]? = some x) : d.take (k + 1) = d.take k ++ [x] := by rw [List.take_add_one, h]; rfl
theorem Rw.old {α : Type} {w : World} {X : Nat → Prop} {k : Nat} {q : α → List Value} {v : Value} {l : List α} (h : Rw w X k q v l) : Rw w (fun b => w.heap.size ≤ b) k q v l := by
  obtain ⟨A, c, e, hc, hh⟩ := h
  refine ⟨A, c, e, hc, fun hn => ?_⟩
  obtain ⟨b, o, e2, hb, _, hcl⟩ := hh hn
  exact ⟨b, o, e2, hb, fun h => Nat.not_le_of_lt hb h, hcl⟩
theorem Lx.old {w : World} {X : Nat → Prop} {v : Value} {l : List (List Int)} (h : Lx w X v l) : Lx w (fun b => w.heap.size ≤ b) v l := by
  obtain ⟨d, e, r, n⟩ := h
  exact ⟨d, e, r.old, fun p hp => Rw.old (n p hp)⟩
theorem Ex.old {w : World} {X : Nat → Prop} {v : Value} {l : List En} (h : Ex w X v l) : Ex w (fun b => w.heap.size ≤ b) v l := by
  obtain ⟨d, e, r, n⟩ := h
  exact ⟨d, e, r.old, fun p hp => ⟨Rw.old (n p hp).1, Lx.old (n p hp).2⟩⟩
theorem Ix.old {w : World} {X : Nat → Prop} {v : Value} {l : List Im} (h : Ix w X v l) : Ix w (fun b => w.heap.size ≤ b) v l := by
  obtain ⟨d, e, r, n⟩ := h
  exact ⟨d, e, r.old, fun p hp => (n p hp).old⟩
end Go.Proofs.YtmjneokjgcgchaaGreat
