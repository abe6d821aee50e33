/-
  The program's own Canon: those that stay, each once, in order.
-/
import Derived.Test.YtnojapffmcnbaaaRectHeld2
import Derived.Deep.AppendLies
namespace Go.Proofs.Ytnojapffmcnbaaa
open Go.RowKit

/-- Does one of a list stay? -/
def stB (m : List Rc) (x : Rc) : Bool := !(m.any fun y => decide (y ≠ x) && hoC y x)
theorem stB_at {m : List Rc} {i : Nat} {x : Rc} (ho : m.Pairwise (fun a b => ltC a b = true)) (hx : m[i]? = some x) : (!((m.take i).any fun y => hoC y x) && !((m.drop (i + 1)).any fun y => hoC y x)) = stB m x := by
  have hm : m = m.take i ++ x :: m.drop (i + 1) := by rw [← drop_cons hx, List.take_append_drop]
  have key : ∀ y, (y ∈ m.take i ∨ y ∈ m.drop (i + 1)) → y ≠ x := fun y hy e => by
    subst e
    rw [hm, List.pairwise_append, List.pairwise_cons] at ho
    rcases hy with h | h
    · have := ho.2.2 y h y List.mem_cons_self
      rw [hol.irr] at this
      cases this
    · have := ho.2.1.1 y h
      rw [hol.irr] at this
      cases this
  have e1 : ∀ l : List Rc, (∀ y ∈ l, y ≠ x) → (l.any fun y => decide (y ≠ x) && hoC y x) = l.any fun y => hoC y x := fun l h => by
    induction l with
    | nil => rfl
    | cons a l ih =>
      rw [List.any_cons, List.any_cons, ih (fun y hy => h y (List.mem_cons_of_mem _ hy)), decide_eq_true (h a List.mem_cons_self), Bool.true_and]
  unfold stB
  have e2 : (m.any fun y => decide (y ≠ x) && hoC y x) = (((m.take i).any fun y => hoC y x) || ((m.drop (i + 1)).any fun y => hoC y x)) := by
    rw [← e1 _ (fun y hy => key y (.inl hy)), ← e1 _ (fun y hy => key y (.inr hy))]
    conv => lhs; rw [hm]
    rw [List.any_append, List.any_cons]
    simp
  rw [e2, Bool.not_or]
/-- Those that stay of what inOrder tells. -/
theorem stays_cnn {l m : List Rc} (ho : m.Pairwise (fun a b => ltC a b = true)) (hm : ∀ x, x ∈ m ↔ x ∈ l ∧ saneR x = true) : Cnn saneR hoC ltC l (m.filter (stB m)) := by
  refine ⟨ho.sublist List.filter_sublist, fun r => ?_⟩
  rw [List.mem_filter, hm r]
  unfold stB Sty
  rw [Bool.not_eq_true', List.any_eq_false]
  constructor
  · rintro ⟨⟨h1, h2⟩, h3⟩
    refine ⟨h1, h2, fun s hs hne => ?_⟩
    cases hh : hoC s r with
    | false => rfl
    | true =>
      have := h3 s ((hm s).2 ⟨hs, ((hoC_iff s r).1 hh).1⟩)
      rw [decide_eq_true hne, hh] at this
      exact absurd rfl this
  · rintro ⟨h1, h2, h3⟩
    refine ⟨⟨h1, h2⟩, fun s hs e => ?_⟩
    rw [Bool.and_eq_true, decide_eq_true_eq] at e
    have := h3 s ((hm s).1 hs).1 e.1
    rw [this] at e
    cases e.2
/-- What Canon hands back. -/
def Rcn (w : World) (l : List Rc) (e : Ending) (w' : World) : Prop := ∃ m : List Rc, Cnn saneR hoC ltC l m ∧ m.length ≤ l.length ∧ RetR w m e w'
set_option maxRecDepth 100000 in
set_option maxHeartbeats 4000000 in
theorem Canon_any (A : Option Addr) (c : Nat) (l : List Rc) (w : World) (hA : Sr w w.heap.size A l) (hl : l.length ≤ 1000) :
    Calls Try.prog 24 #[.slice A l.length c] w (Rcn w l) := by
  obtain ⟨i0, hi, hz0, hz1, hz2⟩ := info_parts infoR
  have K1 := Lib.hid (inOrder_any A c l w hA hl)
  have HLL := Lib.hid hl
  clear hA hl
  go_enter Try.func24, Try.ntmps24
  go_wp2_with fail
  refine K1.out.mono ?_
  rintro e w1 ⟨m, hml, hmo, hmm, A1, c1, rfl, hc1, hs1, hb1⟩
  have hl : m.length ≤ 1000 := by have := HLL.out; omega
  have hsm : ∀ x ∈ m, Sml x := fun x hx => Sml.of_sane ((hmm x).1 hx).2
  have K2 := Lib.hid (reach_any A1 c1 m w1 hs1 hl hsm)
  have HCN := Lib.hid (stays_cnn hmo hmm)
  have HML := Lib.hid hml
  have HMO := Lib.hid hmo
  have HSM := Lib.hid hsm
  have HS1 := Lib.hid hs1
  obtain ⟨n, hn⟩ : ∃ n, n = m.length := ⟨_, rfl⟩
  have HN := Lib.hid hn
  rw [← hn] at K2 hl hc1 ⊢
  clear hn hmm hml hmo hsm hs1
  go_wp2_with fail
  refine K2.out.mono ?_
  rintro e w2 ⟨F, A2, c2, rfl, hfl, hrc, hsq, hb2⟩
  have hb12 := hb1.trans (hb2.mono hb1.size)
  have HSR : Hid (Sr w2 w2.heap.size A1 m) := Lib.hid (HS1.out.over hb2)
  have HSQ := Lib.hid hsq
  have HRC := Lib.hid hrc
  have HFL := Lib.hid hfl
  obtain ⟨f, hf⟩ : ∃ f, f = F.length := ⟨_, rfl⟩
  have HF := Lib.hid hf
  rw [← hf]
  clear hf hfl hrc hsq hb1 hb2
  go_wp2
  go_loopw [4, 13] (fun v i wr => ∃ (k : Nat) (out : List Rc), k ≤ n ∧ out.length ≤ k ∧ i = .int .i64 (k : Int) ∧ Hid (out = (m.take k).filter (stB m)) ∧ wr.ownsRow w2.heap.size 23 3 v out.length (rvs out) ∧ Below w2.heap.size w2 wr) (fun _ i _ => n - (intOf i).toNat)
  case atStart => exact ⟨0, [], Nat.zero_le _, Nat.le_refl _, rfl, Lib.hid (by simp), World.ownsRow_nil _ _ _ _, Below.refl _ _⟩
  case round =>
    obtain ⟨k, out, hk, hout, rfl, HE, hown, hbel⟩ := hrel
    have hsz := hbel.size
    by_cases hlt : k < n
    · have t0 : decide (k < n) = true := decide_eq_true hlt
      have hx := List.getElem?_eq_getElem (l := m) (i := k) (by have := HN.out; omega)
      generalize m[k]'(by have := HN.out; omega) = x at *
      obtain ⟨b, o, rfl, hb, ⟨y0, y1, y2⟩⟩ := (HSR.out.below hbel).at hx
      have ht : m.take (k + 1) = m.take k ++ [x] := by rw [List.take_add_one, hx]; rfl
      have hst := stB_at HMO.out hx
      have hK3 : ∀ W, Below w2.heap.size w2 W → Calls Try.prog 38 #[.slice (some ⟨b, o, none⟩) n c1, .slice A2 f c2, .int .i64 (k : Int)] W fun e w' => e = .returned (.bool ((m.take k).any fun y => hoC y x)) ∧ Below W.heap.size W w' := fun W hW => by
        have := heldAhead_any (some ⟨b, o, none⟩) A2 c1 c2 m F k x W (HSR.out.over hW) (HSQ.out.over hW) (by have := HN.out; omega) HFL.out HRC.out HSM.out hx
        rwa [← HN.out, ← HF.out] at this
      have hK4 : ∀ W, Below w2.heap.size w2 W → Calls Try.prog 39 #[.slice (some ⟨b, o, none⟩) n c1, .int .i64 (k : Int)] W fun e w' => e = .returned (.bool ((m.drop (k + 1)).any fun y => hoC y x)) ∧ Below W.heap.size W w' := fun W hW => by
        have := heldBehind_any (some ⟨b, o, none⟩) c1 m k x W (HSR.out.over hW) (by have := HN.out; omega) HMO.out HSM.out hx
        rwa [← HN.out] at this
      generalize ((m.take k).any fun y => hoC y x) = q1 at *
      generalize ((m.drop (k + 1)).any fun y => hoC y x) = q2 at *
      have K3 := Lib.hid hK3
      have K4 := Lib.hid hK4
      have HX := Lib.hid ht
      have HST := Lib.hid hst
      clear hx ht hK3 hK4 hst
      have hbA : Below w2.heap.size w2 (wr.alloc (.cells #[.int .i64 x.n, .int .i64 x.lo, .int .i64 x.hi] 23)) := hbel.alloc hsz _
      cases q1 with
      | true =>
        go_wp2_with fail
        refine (K3.out _ hbA).mono ?_
        rintro e w3 ⟨rfl, hb3⟩
        have hb3' := ((Below.refl wr.heap.size wr).alloc (Nat.le_refl _) _).trans (hb3.mono (by simp))
        have hown3 := own_belowN hown hb3' (Nat.le_refl _)
        have hbel3 := hbel.trans (hb3'.mono hsz)
        clear y0 y1 y2 hb3
        go_wp2
        refine ⟨⟨k + 1, out, by omega, by omega, by go_num, Lib.hid (by rw [HX.out, List.filter_append, ← HE.out]; have := HST.out; simp at this; simp [← this]), hown3, hbel3⟩, by simp [intOf]; omega⟩
      | false =>
        go_wp2_with fail
        refine (K3.out _ hbA).mono ?_
        rintro e w3 ⟨rfl, hb3⟩
        have x3 : Bx w3 wr.heap.size x := (Bx.new wr x _).below hb3 (by simp)
        have z3 : wr.heap.size < w3.heap.size := by have := hb3.size; simp at this; omega
        have hb3' := ((Below.refl wr.heap.size wr).alloc (Nat.le_refl _) _).trans (hb3.mono (by simp))
        have hown3 := own_belowN hown hb3' (Nat.le_refl _)
        have hbel3 := hbel.trans (hb3'.mono hsz)
        clear y0 y1 y2 hb3
        go_wp2_with fail
        refine (K4.out _ hbel3).mono ?_
        rintro e w4 ⟨rfl, hb4⟩
        have x4 := x3.below hb4 z3
        have hown4 := own_belowN hown3 hb4 (Nat.le_refl _)
        have hbel4 := hbel3.trans (hb4.mono hbel3.size)
        have hsz4 := hbel4.size
        clear x3 hown3 hb4 hb3'
        cases q2 with
        | true =>
          go_wp2
          refine ⟨⟨k + 1, out, by omega, by omega, by go_num, Lib.hid (by rw [HX.out, List.filter_append, ← HE.out]; have := HST.out; simp at this; simp [← this]), hown4, hbel4⟩, by simp [intOf]; omega⟩
        | false =>
          obtain ⟨y0, y1, y2⟩ := x4
          obtain ⟨c', _, hc', A', hv, hst⟩ := Sr.of_own hown4
          subst hv
          clear hst hown
          go_wp2_with (at_builtin; refine wpList_append_lies _ rfl _ _ _ rfl w2.heap.size 23 i0 (.agg #[.int .i64 0, .int .i64 0, .int .i64 0]) 3 24 Try.underlying36 hi hz0 hz1 hz2 rfl (by omega) _ _ _ rfl (hown4.alloc _) ⟨w4.heap.size, 0, none⟩ 1 1 (rq x) rfl rfl (World.news_of_block (heap_alloc_new w4 _)) (by intro u hu; exact rvs_one [x] u (by simpa [rvs] using hu)) (by omega) (by unfold maxLen; omega) (by omega) (by simp; omega) _ rfl ?_; intro g cap w5 hown5 hgrow hat hgl)
          refine ⟨⟨k + 1, out ++ [x], by omega, by simp; omega, by go_num, Lib.hid (by rw [HX.out, List.filter_append, ← HE.out]; have := HST.out; simp at this; simp [← this]), own_rc hown5 rfl, ?_⟩, by simp [intOf]; omega⟩
          exact (hbel4.alloc hsz4 _).grown hgrow (by simp; omega) (fun k hk => (hown4.lt k hk).1)
    · have t0 : decide (k < n) = false := decide_eq_false hlt
      have hE : out = m.filter (stB m) := by rw [HE.out, List.take_of_length_le (by have := HN.out; omega)]
      obtain ⟨c', _, hc', A', hv, hst⟩ := Sr.of_own hown
      subst hv
      have HE2 := Lib.hid hE
      clear hE hown
      go_wp2
      go_ret
      refine ⟨out, by rw [HE2.out]; exact HCN.out, by have := HML.out; have := HN.out; omega, A', c', rfl, hc', hst, hb12.trans (hbel.mono hb12.size)⟩
end Go.Proofs.Ytnojapffmcnbaaa
