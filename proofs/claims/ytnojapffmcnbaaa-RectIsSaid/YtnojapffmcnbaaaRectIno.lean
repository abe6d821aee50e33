/-
  The program's own inOrder: those that may be, in order, each once.
-/
import Derived.Test.YtnojapffmcnbaaaRectSrt
import Derived.Deep.AppendLies
namespace Go.Proofs.Ytnojapffmcnbaaa
open Go.RowKit

theorem own_rc {w : World} {base : Nat} {e : TypeId} {v : Value} {n : Nat} {out : List Rc} {x : Rc} (h : w.ownsRow base e 3 v n (rvs out ++ rq x)) (hn : n = out.length + 1) : w.ownsRow base e 3 v (out ++ [x]).length (rvs (out ++ [x])) := by
  subst hn
  rw [rvs_append, List.length_append]
  simpa [rvs] using h
/-- An owned row may be written. -/
theorem own_ra {w : World} {base : Nat} {e : TypeId} {l : List Rc} {g c : Nat} (h : w.ownsRow base e 3 (.slice (some ⟨g, 0, none⟩) l.length c) l.length (rvs l)) : Ra w g 0 l.toArray ∧ base ≤ g ∧ g < w.heap.size := by
  rcases h.2 with ⟨hv, _⟩ | ⟨g', cap, cur, hv, hb, hg, hc, hm, hs, ht⟩
  · cases hv
  · injection hv with hv1 _ hv3
    injection hv1 with hv1
    injection hv1 with hv1
    subst hv1 hv3
    refine ⟨fun j hj => ?_, hb, (Array.getElem?_eq_some_iff.1 hg).1⟩
    have hj' : j < l.length := by simpa using hj
    have hx : l[j]? = some (l.toArray[j]!) := by
      rw [getElem!_pos l.toArray j hj, List.getElem?_eq_getElem hj']
      simp
    have key : ∀ i u, i < 3 → (rq (l.toArray[j]!))[i]? = some u → w.cell? ⟨g, 0 + j * 3 + i, none⟩ = some u := fun i u hi hu => by
      have := h.cells (g := g) rfl (j * 3 + i) u ((rvs_get l j i _ hx hi).trans hu)
      rwa [addr_add, ← Nat.add_assoc] at this
    have fz : ∀ q, q < l.length * 3 → w.frozen? ⟨g, 0 + q, none⟩ = false := fun q hq => by
      simp [World.frozen?, hg]
    exact ⟨⟨key 0 _ (by omega) rfl, key 1 _ (by omega) rfl, key 2 _ (by omega) rfl⟩, ⟨fz (j * 3) (by omega), by rw [Nat.add_assoc]; exact fz (j * 3 + 1) (by omega), by rw [Nat.add_assoc]; exact fz (j * 3 + 2) (by omega)⟩⟩
set_option maxHeartbeats 1000000 in
theorem Compact_none (p : Option Addr) (c : Nat) (w : World) :
    Calls Try.prog 45 #[.slice p 0 c] w fun e w' => e = .returned (.slice p 0 c) ∧ w' = w := by
  go_enter Try.func45, Try.ntmps45
  go_wp2
  go_ret
  exact ⟨rfl, rfl⟩
/-- What inOrder hands back. -/
def Ino (w : World) (l : List Rc) (e : Ending) (w' : World) : Prop :=
  ∃ m : List Rc, m.length ≤ l.length ∧ m.Pairwise (fun a b => ltC a b = true) ∧ (∀ x, x ∈ m ↔ x ∈ l ∧ saneR x = true) ∧ RetR w m e w'
theorem comp_len (d : Array Rc) : ∀ m, (Lib.compactUpTo d m).length ≤ m
  | 0 => by simp [Lib.compactUpTo]
  | m + 1 => by
    have := comp_len d m
    rw [Lib.compactUpTo_succ, List.length_append]
    split
    · simp only [List.length_cons, List.length_nil]; omega
    · simp only [List.length_nil]; omega
set_option maxRecDepth 100000 in
set_option maxHeartbeats 4000000 in
theorem inOrder_any (A : Option Addr) (c : Nat) (l : List Rc) (w : World) (hA : Sr w w.heap.size A l) (hl : l.length ≤ 1000) :
    Calls Try.prog 36 #[.slice A l.length c] w (Ino w l) := by
  obtain ⟨i0, hi, hz0, hz1, hz2⟩ := info_parts infoR
  have HA := Lib.hid hA
  clear hA
  generalize hn : l.length = n at *
  have HN := Lib.hid hn
  clear hn
  go_enter Try.func36, Try.ntmps36
  go_wp2
  go_loopw [3, 8] (fun v i wr => ∃ (k : Nat) (out : List Rc), k ≤ n ∧ out.length ≤ k ∧ i = .int .i64 (k : Int) ∧ Hid (out = (l.take k).filter (fun x => saneR x)) ∧ wr.ownsRow w.heap.size 23 3 v out.length (rvs out) ∧ Below w.heap.size w wr) (fun _ i _ => n - (intOf i).toNat)
  case atStart => exact ⟨0, [], Nat.zero_le _, Nat.le_refl _, rfl, Lib.hid (by simp), World.ownsRow_nil _ _ _ _, Below.refl _ _⟩
  case round =>
    obtain ⟨k, out, hk, hout, rfl, HE, hown, hbel⟩ := hrel
    have hsz := hbel.size
    by_cases hlt : k < n
    · have t0 : decide (k < n) = true := decide_eq_true hlt
      have hx := List.getElem?_eq_getElem (l := l) (i := k) (by have := HN.out; omega)
      generalize l[k]'(by have := HN.out; omega) = x at *
      obtain ⟨b, o, rfl, hb, ⟨y0, y1, y2⟩⟩ := (HA.out.below hbel).at hx
      have ht : l.take (k + 1) = l.take k ++ [x] := by rw [List.take_add_one, hx]; rfl
      have k1 := rcSane_any x
      have HX := Lib.hid ht
      clear hx ht
      cases hs : saneR x with
      | true =>
        rw [hs] at k1
        have K1 := Lib.hid k1
        have HS := Lib.hid hs
        clear k1 hs
        obtain ⟨c', _, hc', A', hv, hst⟩ := Sr.of_own hown
        subst hv
        clear hst
        go_wp2_with fail
        refine (K1.out _).mono ?_
        rintro e w2 ⟨rfl, hb2⟩
        have x2 : Bx w2 wr.heap.size x := (Bx.new wr x _).below hb2 (by simp)
        have hb2' := ((Below.refl wr.heap.size wr).alloc (Nat.le_refl _) _).trans (hb2.mono (by simp))
        have hown2 := own_belowN hown hb2' (Nat.le_refl _)
        have hbel2 := hbel.trans (hb2'.mono hsz)
        have hsz2 := hbel2.size
        clear y0 y1 y2 hb2
        obtain ⟨y0, y1, y2⟩ := x2
        go_wp2_with (at_builtin; refine wpList_append_lies _ rfl _ _ _ rfl w.heap.size 23 i0 (.agg #[.int .i64 0, .int .i64 0, .int .i64 0]) 3 24 Try.underlying36 hi hz0 hz1 hz2 rfl (by omega) _ _ _ rfl (hown2.alloc _) ⟨w2.heap.size, 0, none⟩ 1 1 (rq x) rfl rfl (World.news_of_block (heap_alloc_new w2 _)) (by intro u hu; exact rvs_one [x] u (by simpa [rvs] using hu)) (by omega) (by unfold maxLen; omega) (by omega) (by simp; omega) _ rfl ?_; intro g cap w3 hown3 hgrow hat hgl)
        refine ⟨⟨k + 1, out ++ [x], by omega, by simp; omega, by go_num, Lib.hid (by rw [HX.out, List.filter_append, ← HE.out]; simp [HS.out]), own_rc hown3 rfl, ?_⟩, by simp [intOf]; omega⟩
        exact (hbel2.alloc hsz2 _).grown hgrow (by simp; omega) (fun k hk => (hown2.lt k hk).1)
      | false =>
        rw [hs] at k1
        have K1 := Lib.hid k1
        have HS := Lib.hid hs
        clear k1 hs
        go_wp2_with fail
        refine (K1.out _).mono ?_
        rintro e w2 ⟨rfl, hb2⟩
        have hb2' := ((Below.refl wr.heap.size wr).alloc (Nat.le_refl _) _).trans (hb2.mono (by simp))
        have hown2 := own_belowN hown hb2' (Nat.le_refl _)
        have hbel2 := hbel.trans (hb2'.mono hsz)
        clear y0 y1 y2 hb2
        go_wp2
        refine ⟨⟨k + 1, out, by omega, by omega, by go_num, Lib.hid (by rw [HX.out, List.filter_append, ← HE.out]; simp [HS.out]), hown2, hbel2⟩, by simp [intOf]; omega⟩
    · have t0 : decide (k < n) = false := decide_eq_false hlt
      have hE : out = l.filter (fun x => saneR x) := by rw [HE.out, List.take_of_length_le (by have := HN.out; omega)]
      have HE2 := Lib.hid hE
      clear hE
      have hol' : out.length ≤ 1000 := by omega
      have hsm : ∀ x ∈ out, Sml x := fun x hx => by
        rw [HE2.out, List.mem_filter] at hx
        exact Sml.of_sane hx.2
      have HM := Lib.hid hsm
      clear hsm
      rcases hown.2 with ⟨hv, h0⟩ | ⟨g, cap, cur, hv, _, _, hcap, _, _, _⟩
      · subst hv
        clear hown
        have t1 := fun W => Sort_none none 0 (.func (.func 44) #[] #[]) W
        have T1 := Lib.hid t1
        clear t1
        have he : out = [] := List.length_eq_zero_iff.1 h0
        have HH := Lib.hid he
        clear he h0
        go_wp2_with (first | (go_at_call 43; refine (T1.out _).mono ?_; rintro e w2 ⟨rfl, rfl⟩) | (go_at_call 45; refine (Compact_none _ _ _).mono ?_; rintro e w2 ⟨rfl, rfl⟩))
        go_ret
        refine ⟨[], Nat.zero_le _, List.Pairwise.nil, fun x => ?_, none, 0, rfl, Nat.le_refl _, Sr.nil, hbel⟩
        have := HE2.out
        rw [HH.out] at this
        rw [← List.mem_filter (p := fun x => saneR x), ← this]
      · subst hv
        obtain ⟨hra, hb1, hb2⟩ := own_ra hown
        have s1 := Sort_any g 0 cap w.heap.size out wr hb1 hb2 HM.out hra (by omega)
        have S1 := Lib.hid s1
        have hle : out.length ≤ n := by omega
        clear s1 hra hown
        go_wp2_with fail
        refine S1.out.mono ?_
        rintro e w2 ⟨rfl, l', hp, ho, hr2, hbl2⟩
        have hpl := hp.length_eq
        have c1 := Compact_any g 0 cap w.heap.size l'.toArray w2 hb1 hr2 (by simp; omega) (by simp; omega)
        have q := comp_list l' ho
        have hcl := comp_len l'.toArray l'.toArray.size
        obtain ⟨M, hM⟩ : ∃ M, M = Lib.compactUpTo l'.toArray l'.toArray.size := ⟨_, rfl⟩
        rw [← hM] at c1 q hcl
        have hsz' : l'.toArray.size = out.length := by simp [hpl]
        rw [hsz'] at c1 hcl
        have hmem : ∀ x, x ∈ M ↔ x ∈ l ∧ saneR x = true := fun x => by
          rw [q.1 x, hp.mem_iff, HE2.out, List.mem_filter]
        have C1 := Lib.hid c1
        have HQ := Lib.hid q.2
        have HM2 := Lib.hid hmem
        have HL := Lib.hid hcl
        have hz2 : g < w2.heap.size := by
          have := hbl2.size
          omega
        clear c1 q hM hsz' hmem hcl hp ho hr2 hpl
        go_wp2_with fail
        refine C1.out.mono ?_
        rintro e w3 ⟨rfl, hcells, hbl3⟩
        have HC := Lib.hid hcells
        clear hcells
        go_wp2
        go_ret
        refine ⟨M, by have := HL.out; have := HN.out; omega, HQ.out, HM2.out, some ⟨g, 0, none⟩, cap, rfl, by have := HL.out; omega, fun _ => ⟨g, 0, rfl, by have := hbl3.size; omega, HC.out⟩, (hbel.trans hbl2).trans hbl3⟩
end Go.Proofs.Ytnojapffmcnbaaa
