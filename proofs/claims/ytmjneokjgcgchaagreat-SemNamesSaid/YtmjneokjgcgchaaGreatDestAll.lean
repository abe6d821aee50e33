/-
  The program's own addAll.
-/
import Derived.Test.YtmjneokjgcgchaaGreatPart4
import Derived.Handy
namespace Go.Proofs.YtmjneokjgcgchaaGreat
open Go.RowKit
attribute [local go_sem ↓] Go.wp_at_zero Go.wp_at_succ

theorem addM_sb {d : List Me} {x : Me} (hd : ∀ y ∈ d, Sb y.b) (hx : Sb x.b) : ∀ y ∈ addM d x, Sb y.b := by
  rcases List.eq_nil_or_concat d with rfl | ⟨p, e, rfl⟩
  · intro m hm
    rw [addM_nil, List.mem_singleton] at hm
    rw [hm]; exact hx
  · rw [List.concat_eq_append] at *
    rw [addM_snoc]
    split
    · intro m hm
      rcases List.mem_append.1 hm with hm | hm
      · exact hd m (List.mem_append_left _ hm)
      · rw [List.mem_singleton] at hm
        subst hm
        exact joinB_sn (hd e (by simp)) hx (by assumption)
    · intro m hm
      rcases List.mem_append.1 hm with hm | hm
      · exact hd m hm
      · rw [List.mem_singleton] at hm
        rw [hm]; exact hx
theorem own_tq {w : World} {base n g size : Nat} {v : Value} {xs : List Value} (h : w.ownsRow base 73 size v n xs) (hg : v.ownBlock = some g) : Tq w g := by
  rcases h.2 with ⟨rfl, _⟩ | ⟨g', cap, cur, rfl, h1, hg', _⟩
  · cases hg
  · have e2 : g' = g := by simpa [Value.ownBlock] using hg
    subst e2
    exact ⟨cur, hg'⟩
theorem Rd.grown {w w' : World} {B : Nat} {A : Option Addr} {l : List Me} {row : Option Nat} (h : Rd w B A l) (hg : w.grownBy w' row) (hB : B ≤ w.heap.size) (hr : ∀ g, row = some g → B ≤ g) : Rd w' B A l :=
  h.keep fun p hp => hg.cell_far p (by omega) (fun e => by have := hr _ e.symm; omega)
theorem foldM_take {L O : List Me} {k : Nat} {x : Me} (hx : L[k]? = some x) : (L.take (k + 1)).foldl addM O = addM ((L.take k).foldl addM O) x := by
  rw [List.take_add_one, hx, List.foldl_append]
  rfl
theorem foldM_length (L O : List Me) : (L.foldl addM O).length ≤ O.length + L.length := by
  induction L generalizing O with
  | nil => simp
  | cons x L ih =>
    have h1 := ih (addM O x)
    have h2 := addM_length O x
    simp only [List.foldl_cons, List.length_cons] at *
    omega
theorem foldM_pl (L O : List Me) : pl (L.foldl addM O) = (pl L).foldl addE (pl O) := by
  induction L generalizing O with
  | nil => rfl
  | cons x L ih =>
    rw [List.foldl_cons, ih, addM_pl]
    rfl
set_option maxRecDepth 100000 in
set_option maxHeartbeats 4000000 in
theorem dAddAll_any (base : Nat) (v : Value) (A : Option Addr) (c : Nat) (O L : List Me) (w : World) (hown : w.ownsRow base 73 4 v O.length (dvs O)) (hbase : base ≤ w.heap.size) (hA : Rd w base A L) (hl : O.length + L.length ≤ 1073741824) (huo : Utl w O) (hul : Utl w L) (hso : ∀ y ∈ O, Sb y.b) (hsl : ∀ y ∈ L, Sb y.b) :
    Calls Tryz.prog 158 #[v, .slice A L.length c] w fun e w' => AddedB w base v (L.foldl addM O) e w' ∧ Utl w' (L.foldl addM O) ∧ Ik w w' ∧ (∀ y ∈ L.foldl addM O, Sb y.b) := by
  obtain ⟨n, hn⟩ : ∃ n, n = L.length := ⟨_, rfl⟩
  have HN := Lib.hid hn
  rw [← hn] at hl ⊢
  have HLT : Hid (∀ g, v.ownBlock = some g → base ≤ g ∧ g < w.heap.size) := Lib.hid fun g hg => own_ltD hown hg
  have HSL := Lib.hid hsl
  clear hn hsl
  go_enter Tryz.func158, Tryz.ntmps158
  go_wp2
  go_loopw [0, 9] (fun a i wr => ∃ k : Nat, k ≤ n ∧ i = .int .i64 (k : Int) ∧ wr.ownsRow base 73 4 a ((L.take k).foldl addM O).length (dvs ((L.take k).foldl addM O)) ∧ w.grownBy wr v.ownBlock ∧ Hid (∀ g, a.ownBlock = some g → v.ownBlock = some g ∨ w.heap.size ≤ g) ∧ Hid (Utl wr ((L.take k).foldl addM O)) ∧ Hid (Utl wr L) ∧ Hid (Ik w wr) ∧ Hid (∀ y ∈ (L.take k).foldl addM O, Sb y.b)) (fun _ i _ => n - (intOf i).toNat)
  case atStart => exact ⟨0, Nat.zero_le _, rfl, hown, World.grownBy.refl _ _, Lib.hid (fun g hg => .inl hg), Lib.hid huo, Lib.hid hul, Lib.hid (Ik.refl _), Lib.hid hso⟩
  case round =>
    clear huo hul hso
    obtain ⟨k, hk, rfl, hown1, hgr, HF, HUO, HUL, HIK, HSO⟩ := hrel
    have hszr := hgr.size
    by_cases hlt : k < n
    · have t0 : decide (k < n) = true := decide_eq_true hlt
      have hx := List.getElem?_eq_getElem (l := L) (i := k) (by have := HN.out; omega)
      generalize L[k]'(by have := HN.out; omega) = x at *
      have hA1 := hA.grown hgr hbase (fun g hg => (HLT.out g hg).1)
      obtain ⟨b, o, rfl, hb, ⟨y0, y1, y2, y3⟩⟩ := hA1.at hx
      have hlen := foldM_length (L.take k) O
      have hux := HUL.out x (List.mem_of_getElem? hx)
      have hsx := HSL.out x (List.mem_of_getElem? hx)
      have HX := Lib.hid (foldM_take (O := O) hx)
      have hbO : Below wr.heap.size wr (wr.alloc (.cells #[.int .i64 x.b.n, .int .i64 x.b.lo, .int .i64 x.b.hi, .slice x.a x.b.u.length x.c] 73)) := al_below _ _
      have hsA : (wr.alloc (.cells #[.int .i64 x.b.n, .int .i64 x.b.lo, .int .i64 x.b.hi, .slice x.a x.b.u.length x.c] 73)).heap.size = wr.heap.size + 1 := by simp
      have hownA := own_belowD hown1 hbO (Nat.le_refl _)
      have k1 := Ik.of_below hbO
      rw [List.length_take] at hlen
      generalize hdk : (L.take k).foldl addM O = D at *
      have K2 := Lib.hid (dAdd_any base u0 D x _ hownA (by omega) (by omega) (HUO.out.ik k1).ul (hux.ik k1).un HSO.out hsx)
      unfold fv at K2
      have KU := Lib.hid (And.intro (HUO.out.ik k1) (And.intro (HUL.out.ik k1) (hux.ik k1)))
      have KT : Hid (∀ g, u0.ownBlock = some g → Tq (wr.alloc (.cells #[.int .i64 x.b.n, .int .i64 x.b.lo, .int .i64 x.b.hi, .slice x.a x.b.u.length x.c] 73)) g) := Lib.hid fun g hg => own_tq hownA hg
      clear hdk hown1 hA1 hux
      go_wp2_with fail
      refine K2.out.mono ?_
      rintro e W2 ⟨v2, rfl, h1, h2, h3⟩
      have ik2 := Ik.of_grown h2 KT.out
      go_wp2
      refine ⟨⟨k + 1, by omega, by first | rfl | go_num, by rw [HX.out]; exact h1, dgb_trans (dgb_trans hgr (dgb_below hbO _) (fun g e => .inl e)) h2 (fun g e => HF.out g e), Lib.hid (fun g hg => ?_), Lib.hid (by rw [HX.out]; exact addM_ul (KU.out.1.ik ik2) (KU.out.2.2.ik ik2)), Lib.hid (KU.out.2.1.ik ik2), Lib.hid ((HIK.out.trans k1).trans ik2), Lib.hid (by rw [HX.out]; exact addM_sb HSO.out hsx)⟩, by simp [intOf]; omega⟩
      rcases h3 g hg with h | h
      · exact HF.out g h
      · right; omega
    · have t0 : decide (k < n) = false := decide_eq_false hlt
      obtain rfl : k = n := by omega
      have e : L.take k = L := List.take_of_length_le (by rw [← HN.out]; exact Nat.le_refl _)
      have E := Lib.hid e
      clear e
      rw [E.out] at hown1 HUO HSO
      go_wp2
      go_ret
      exact ⟨⟨_, rfl, hown1, hgr, HF.out⟩, HUO.out, HIK.out, HSO.out⟩
end Go.Proofs.YtmjneokjgcgchaaGreat
