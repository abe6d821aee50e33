/-
  The document's own Rows (hornbookref08).
-/
import Derived.Test.YtkkochjdimegpaaRefDest6
import Derived.Test.YtkkochjdimegpaaDestARows
import Derived.Test.YtkkochjdimegpaaDestRows
namespace Go.Proofs.Ytkkochjdimegpaa
open Go.RowKit
attribute [local go_sem ↓] Go.wp_at_zero Go.wp_at_succ

/-- What is left of an entry's rows, from a code on. -/
def restC (b : Bp) (lo : Int) : List Bp := if lo ≤ b.hi then cutB (partB b lo b.hi) else []
theorem restC_end {b : Bp} {lo : Int} (h : ¬ lo ≤ b.hi) : restC b lo = [] := if_neg h
theorem restC_lo {b : Bp} (h : b.lo ≤ b.hi) : restC b b.lo = cutB b := by rw [restC, if_pos h, partB_self]
theorem restC_step {b : Bp} {lo E : Int} (h : lo ≤ b.hi) (hE : E = rowE (partB b lo b.hi)) : restC b lo = ⟨b.n, lo, E, goB b lo⟩ :: restC b (E + 1) := by
  subst hE
  have hs := (rowE_spec (partB b lo b.hi)).1
  have hs : rowE (partB b lo b.hi) ≤ b.hi := hs
  rw [restC, if_pos h]
  by_cases h2 : rowE (partB b lo b.hi) < b.hi
  · rw [cutB_more h2, restC, if_pos (by omega)]
    show (⟨b.n, lo, rowE (partB b lo b.hi), goB (partB b lo b.hi) lo⟩ : Bp) :: cutB ⟨b.n, rowE (partB b lo b.hi) + 1, b.hi, goB (partB b lo b.hi) (rowE (partB b lo b.hi) + 1)⟩ = _
    rw [part_goB, part_goB]
    rfl
  · have e : rowE (partB b lo b.hi) = b.hi := by omega
    rw [cutB_done h2, restC_end (by omega), e]
    rfl
/-- How far a row goes. -/
theorem rowE_at (b : Bp) (lo : Int) : rowE (partB b lo b.hi) = lo + min (255 - lo % 256) (min (255 - lastU (goB b lo) % 256) (b.hi - lo)) := by
  unfold rowE
  show min b.hi (min (lo + (255 - lo % 256)) (lo + (255 - lastU (goB b lo) % 256))) = _
  omega
/-- Units that were there, or lie in blocks of ints. -/
def Uo (w w' : World) (a : Option Addr) (c : Nat) (u : List Int) : Prop := Un w a c u ∨ Ut w' a c u
theorem Uo.ik {w w1 w2 : World} {a : Option Addr} {c : Nat} {u : List Int} (h : Uo w w1 a c u) (k : Ik w1 w2) : Uo w w2 a c u := h.imp id (fun h => h.ik k)
theorem Uo.un {w w' : World} {a : Option Addr} {c : Nat} {u : List Int} (h : Uo w w' a c u) (hb : Below w.heap.size w w') : Un w' a c u := by
  rcases h with h | h
  · exact h.over hb
  · exact h.un
def Uol (w w' : World) (d : List Me) : Prop := ∀ m ∈ d, Uo w w' m.a m.c m.b.u
theorem Uol.ik {w w1 w2 : World} {d : List Me} (h : Uol w w1 d) (k : Ik w1 w2) : Uol w w2 d := fun m hm => (h m hm).ik k
theorem Uol.snoc {w w' : World} {d : List Me} {x : Me} (h : Uol w w' d) (hx : Uo w w' x.a x.c x.b.u) : Uol w w' (d ++ [x]) := fun m hm => by
  rcases List.mem_append.1 hm with hm | hm
  · exact h m hm
  · rw [List.mem_singleton] at hm
    subst hm
    exact hx
theorem rows_at {out : List Me} {G : List Bp} {x : Bp} {lo E : Int} {xa : Option Addr} {xc : Nat} (h : pl out ++ restC x lo = G) (hl : lo ≤ x.hi) (hE : E = rowE (partB x lo x.hi)) : pl (out ++ [⟨⟨x.n, lo, E, goB x lo⟩, xa, xc⟩]) ++ restC x (E + 1) = G := by
  rw [← h, restC_step hl hE]
  simp [pl]
theorem cellI_of {w : World} {p : Addr} {k : IntKind} {i : Int} (h : w.cell? p = some (.int k i)) : cellI w p = i := by simp [cellI, h]
set_option maxRecDepth 100000 in
set_option maxHeartbeats 8000000 in
theorem rDRows_any (A : Option Addr) (c : Nat) (l : List Me) (w : World) (hA : Sd w A l) (hl : l.length ≤ 1000) (hul : ∀ m ∈ l, m.b.u.length ≤ 9223372036854775807) :
    Calls Try.prog 27 #[.slice A l.length c] w fun e w' => ∃ m A' c', e = .returned (.slice A' m.length c') ∧ m.length ≤ c' ∧ Sd w' A' m ∧ pl m = rowsC (pl l) ∧ Below w.heap.size w w' := by
  obtain ⟨i0, hi0, hz0, hz1, hz2⟩ := info_parts infoB
  have K1 := Lib.hid (rDCanon_any A c l w hA (by omega) hul)
  have HA := Lib.hid hA
  obtain ⟨n, hn⟩ : ∃ n, n = l.length := ⟨_, rfl⟩
  have HN := Lib.hid hn
  rw [← hn] at K1 hl ⊢
  clear hn hA hul
  cases hc : decide (Ct (pl l)) with
  | false =>
    rw [hc] at K1
    have HC := Lib.hid (of_decide_eq_false hc)
    clear hc
    go_enter Try.func27, Try.ntmps27
    go_wp2_with ((go_at_call 23; refine K1.out.mono ?_; rintro e w1 ⟨rfl, hb1⟩))
    go_ret
    exact ⟨[], none, 0, rfl, Nat.le_refl _, Sd.nil, by rw [rowsC, if_neg HC.out]; rfl, hb1⟩
  | true =>
    rw [hc] at K1
    have HC := Lib.hid (of_decide_eq_true hc)
    clear hc
    go_enter Try.func27, Try.ntmps27
    go_wp2_with fail
    refine K1.out.mono ?_
    rintro e w1 ⟨rfl, hb1⟩
    have hr : w1.ownsRow w.heap.size 25 4 (.slice none 0 0) ([] : List Me).length (dvs []) := World.ownsRow_nil _ _ _ _
    go_wp2
    go_loopw [3, 4] (fun v i wr => ∃ (k : Nat) (out : List Me), k ≤ n ∧ i = .int .i64 (k : Int) ∧ Hid (pl out = rowsB ((pl l).take k)) ∧ Hid (Uol w wr out) ∧ wr.ownsRow w.heap.size 25 4 v out.length (dvs out) ∧ Below w.heap.size w wr) (fun _ i _ => n - (intOf i).toNat)
    case atStart => exact ⟨0, [], Nat.zero_le _, rfl, Lib.hid (by simp [pl, rowsB]), Lib.hid (fun _ h => by cases h), hr, hb1⟩
    case round =>
      clear hr hb1
      obtain ⟨k, out, hk, rfl, HE, HU, hown, hbel⟩ := hrel
      have hsz := hbel.size
      by_cases hlt : k < n
      · have t0 : decide (k < n) = true := decide_eq_true hlt
        have hx := List.getElem?_eq_getElem (l := l) (i := k) (by have := HN.out; omega)
        generalize l[k]'(by have := HN.out; omega) = x at *
        have hux := HA.out.ul x (List.mem_of_getElem? hx)
        obtain ⟨b, o, rfl, hb, hx4⟩ := HA.out.rd.at hx
        have HXC : Hid (∀ W, Below w.heap.size w W → F4 W b (o + k * 4) x) := Lib.hid fun W hW => hx4.keep fun i => hW.cell (p := ⟨b, i, none⟩) hb
        obtain ⟨y0, y1, y2, y3⟩ := HXC.out _ hbel
        have etk : (pl l).take (k + 1) = (pl l).take k ++ [x.b] := by rw [List.take_add_one, pl_get hx]; rfl
        have HTK := Lib.hid etk
        have hs : Sb x.b := HC.out.1 x.b (List.mem_of_getElem? (pl_get hx))
        have HS := Lib.hid hs
        have HUX := Lib.hid hux
        obtain ⟨q, hq⟩ : ∃ q, x.b.u.length = q + 1 := ⟨x.b.u.length - 1, by have := hs.2.2.2.1.1; omega⟩
        have hq64 : q < 64 := by have := hs.2.2.2.1.2.1; omega
        have HGL : Hid (∀ v, (goB x.b v).length = q + 1) := Lib.hid fun v => by rw [← hq]; exact addU_length _ _
        obtain ⟨G, hG⟩ : ∃ G, G = pl out ++ cutB x.b := ⟨_, rfl⟩
        have hlen : G.length ≤ 600 * (k + 1) := by
          have h1 := rowsB_len (t := (pl l).take k) (fun b hb => HC.out.1 b (List.mem_of_mem_take hb))
          have h2 := (cut_all hs).2.2.1
          rw [hG, List.length_append, HE.out]
          rw [List.length_take, pl_length] at h1
          omega
        have HG2 : Hid (G = rowsB ((pl l).take (k + 1))) := Lib.hid (by rw [hG, HTK.out, rowsB_snoc, HE.out])
        have HG0 : Hid (pl out ++ restC x.b x.b.lo = G) := Lib.hid (by rw [restC_lo hs.2.2.1, hG])
        have HLEN := Lib.hid hlen
        have p1 := saneB_top hs.1
        have p2 := saneB_top hs.2.1
        have hlu := hs.2.2.2.1.last
        have hok := hs.2.2.2.1
        have hsum := hs.2.2.2.2
        have hlh := hs.2.2.1
        have HNUM := Lib.hid (And.intro p1 (And.intro p2 (And.intro hlu (And.intro hsum (And.intro hlh hok)))))
        have HU0 := Lib.hid (HU.out.ik (Ik.of_below (al_below wr (.cells #[.int .i64 x.b.n, .int .i64 x.b.lo, .int .i64 x.b.hi, .slice x.a x.b.u.length x.c] 25))))
        have hown0 := hown.alloc (.cells #[.int .i64 x.b.n, .int .i64 x.b.lo, .int .i64 x.b.hi, .slice x.a x.b.u.length x.c] 25)
        have hbx0 := Bx.new wr x
        have hb0 := al_below wr (.cells #[.int .i64 x.b.n, .int .i64 x.b.lo, .int .i64 x.b.hi, .slice x.a x.b.u.length x.c] 25)
        have hblk0 : Hid (∀ g, (u3).ownBlock = some g → g ≠ wr.heap.size) := Lib.hid fun g hg => by have := (own_ltD hown hg).2; omega
        have HOB := Lib.hid hbel
        have HQ := Lib.hid hq
        clear hx hx4 etk hux hs hG hlen p1 p2 hlu hok hsum hlh hown HU HE hq
        go_wp2
        generalize wr.alloc (.cells #[.int .i64 x.b.n, .int .i64 x.b.lo, .int .i64 x.b.hi, .slice x.a x.b.u.length x.c] 25) = W0 at *
        obtain ⟨B, hB⟩ : ∃ B, wr.heap.size = B := ⟨_, rfl⟩
        rw [hB] at hbx0 hblk0 hb0 hsz ⊢
        have HBB := Lib.hid (And.intro hB hsz)
        clear hB
        go_loopw [3] (fun v wq => ∃ (lo : Int) (o2 : List Me) (xa : Option Addr) (xc : Nat), (x.b.lo ≤ lo ∧ lo ≤ x.b.hi + 1) ∧ Hid (pl o2 ++ restC x.b lo = G ∧ Uol w wq o2 ∧ (∀ g, v.ownBlock = some g → g ≠ B)) ∧ wq.ownsRow w.heap.size 25 4 v o2.length (dvs o2) ∧ Bx wq B ⟨⟨x.b.n, lo, x.b.hi, goB x.b lo⟩, xa, xc⟩ ∧ Hid (Uo w wq xa xc (goB x.b lo)) ∧ Below w.heap.size w wq) (fun _ wq => (x.b.hi + 1 - cellI wq ⟨B, 1, none⟩).toNat)
        case atStart =>
          exact ⟨x.b.lo, out, x.a, x.c, ⟨Int.le_refl _, by have := HNUM.out.2.2.2.2.1; omega⟩, Lib.hid ⟨HG0.out, HU0.out, hblk0.out⟩, hown0, by rw [goB_lo]; exact hbx0, Lib.hid (by rw [goB_lo]; exact .inl HUX.out), HOB.out.trans (hb0.mono hsz)⟩
        case round =>
          clear hown0 hbx0 hb0 y0 y1 y2 y3 hbel hsz
          obtain ⟨lo, o2, xa, xc, ⟨hlo1, hlo2⟩, HP, hown, hbx, HXU, hbel⟩ := hrel
          have hsz := hbel.size
          have hcB : cellI wr ⟨B, 1, none⟩ = lo := by
            have := hbx.fb.c1
            rw [Nat.zero_add] at this
            exact cellI_of this
          have HCB := Lib.hid hcB
          have HWW : Hid (∀ W, Below wr.heap.size wr W → Below w.heap.size w W) := Lib.hid fun W hW => hbel.trans (hW.mono hsz)
          have HTC : Hid (∀ W, Below wr.heap.size wr W → W.cell? ⟨b, o + k * 4 + 2, none⟩ = some (.int .i64 x.b.hi)) := Lib.hid fun W hW => (HXC.out W (HWW.out W hW)).c2
          have HBX : Hid (∀ W, Below wr.heap.size wr W → Bx W B ⟨⟨x.b.n, lo, x.b.hi, goB x.b lo⟩, xa, xc⟩) := Lib.hid fun W hW => hbx.below hW
          have hHC : ∀ W, Below wr.heap.size wr W → W.cell? ⟨B, 0, none⟩ = some (.int .i64 x.b.n) ∧ W.cell? ⟨B, 1, none⟩ = some (.int .i64 lo) ∧ W.cell? ⟨B, 2, none⟩ = some (.int .i64 x.b.hi) ∧ W.cell? ⟨B, 3, none⟩ = some (.slice xa (q + 1) xc) := fun W hW => by
            obtain ⟨c0, c1, c2, c3⟩ := (hbx.below hW).fb
            rw [Nat.zero_add] at c1 c2 c3
            dsimp only at c0 c1 c2 c3
            rw [HGL.out] at c3
            exact ⟨c0, c1, c2, c3⟩
          have HHC := Lib.hid hHC
          have hblt := hbx.lt
          have y2 := HTC.out _ (Below.refl _ _)
          obtain ⟨c0, c1, c2, c3⟩ := hHC _ (Below.refl _ _)
          by_cases hlt2 : lo ≤ x.b.hi
          · have u0 : decide (lo ≤ x.b.hi) = true := decide_eq_true hlt2
            have hun := HXU.out.un hbel
            obtain ⟨bu, ou, ea, hbu, hcu⟩ := hun.si (by rw [HGL.out]; omega)
            subst ea
            have hcq := hcu q (by rw [HGL.out]; omega)
            rw [lastU_at (HGL.out lo)] at hcq
            have hL := lastU_goB HNUM.out.2.2.2.2.2 lo
            have hE0 := rowE_at x.b lo
            obtain ⟨L, hLL⟩ : ∃ L, lastU (goB x.b lo) = L := ⟨_, rfl⟩
            rw [hLL] at hcq hL hE0
            obtain ⟨p1, p2, hlu, hsum, hlh, _⟩ := HNUM.out
            obtain ⟨M1, hM1⟩ : ∃ M1, lo % 256 = M1 := ⟨_, rfl⟩
            obtain ⟨M2, hM2⟩ : ∃ M2, L % 256 = M2 := ⟨_, rfl⟩
            have hM1t : lo.tmod 256 = M1 := by rw [Int.tmod_eq_emod_of_nonneg (by omega)]; exact hM1
            have hM2t : L.tmod 256 = M2 := by rw [Int.tmod_eq_emod_of_nonneg (by omega)]; exact hM2
            rw [hM1, hM2] at hE0
            obtain ⟨E, hE⟩ : ∃ E, E = rowE (partB x.b lo x.b.hi) := ⟨_, rfl⟩
            rw [← hE] at hE0
            obtain ⟨D, hD⟩ : ∃ D, D = E - lo := ⟨_, rfl⟩
            have HE := Lib.hid hE
            have hED : lo ≤ E ∧ E ≤ x.b.hi ∧ 0 ≤ D ∧ D ≤ 255 := by omega
            have hw1 : IntKind.i64.wrap (255 - M1) = 255 - M1 := IntWalk.i64_in _ (by omega)
            have hw2 : IntKind.i64.wrap (255 - M2) = 255 - M2 := IntWalk.i64_in _ (by omega)
            have hw3 : IntKind.i64.wrap (x.b.hi - lo) = x.b.hi - lo := IntWalk.i64_in _ (by omega)
            have hw4 : IntKind.i64.wrap (lo + D) = E := by rw [IntWalk.i64_in _ (by omega)]; omega
            have hw5 : IntKind.i64.wrap (E + 1) = E + 1 := IntWalk.i64_in _ (by omega)
            have hw6 : IntKind.i64.wrap (D + 1) = D + 1 := IntWalk.i64_in _ (by omega)
            have hw7 : IntKind.i64.wrap M1 = M1 := IntWalk.i64_in _ (by omega)
            have hw8 : IntKind.i64.wrap M2 = M2 := IntWalk.i64_in _ (by omega)
            have hmn : ∀ ts t wx, (Builtin.min_ ts t #[.int .i64 (255 - M1), .int .i64 (255 - M2), .int .i64 (x.b.hi - lo)]).run Try.prog wx = .ok (.int .i64 D) wx := fun ts t wx => by
              rw [run_min_int3]
              congr 2
              split <;> split <;> omega
            have HUC : Hid (∀ W, Below wr.heap.size wr W → W.cell? ⟨bu, ou + q, none⟩ = some (.int .i64 L)) := Lib.hid fun W hW => (hW.cell (p := ⟨bu, ou + q, none⟩) hbu).trans hcq
            have hgE : goB x.b (E + 1) = addU (goB x.b lo) (D + 1) := by
              rw [← goB_add]
              congr 1
              omega
            have KF0 : Hid (∀ W, Un W (some ⟨bu, ou, none⟩) xc (goB x.b lo) → Calls Try.prog 30 #[.slice (some ⟨bu, ou, none⟩) (q + 1) xc, .int .i64 (D + 1)] W fun e w' => ∃ A C, e = .returned (.slice A (goB x.b (E + 1)).length C) ∧ Ut w' A C (goB x.b (E + 1)) ∧ Below W.heap.size W w') := Lib.hid fun W hW => by
              have h := further_any (some ⟨bu, ou, none⟩) xc (goB x.b lo) (D + 1) W hW (by rw [HGL.out]; omega) (by rw [HGL.out]; omega) (by omega) (by omega)
              rw [HGL.out, ← hgE] at h
              refine h.mono ?_
              rintro e w' ⟨v, rfl, ho, hb⟩
              obtain ⟨A2, C2, rfl, hut, _⟩ := Ut.of_own ho
              exact ⟨A2, C2, rfl, hut, hb⟩
            have HED := Lib.hid (And.intro hED hlt2)
            have HX2 := Lib.hid hlo1
            have hf1 : (0 : Int) ≤ (q : Int) := by omega
            have hfq : fq ⟨⟨x.b.n, lo, E, goB x.b lo⟩, some ⟨bu, ou, none⟩, xc⟩ = [.int .i64 x.b.n, .int .i64 lo, .int .i64 E, .slice (some ⟨bu, ou, none⟩) (q + 1) xc] := by simp [fq, HGL.out]
            have HFQ := Lib.hid hfq
            have hlo : o2.length ≤ 1000000 := by
              have h1 := HP.out.1
              have h2 := HLEN.out
              rw [← h1, List.length_append, pl_length] at h2
              omega
            have HOWN := Lib.hid hown
            clear hE0 hE hD hED hLL hL hM1 hM2 hun hbu hcu p1 p2 hlu hsum hlh hgE hlt2 hlo1 hlo2 hHC hcB hfq hown
            go_wp2_with fail
            go_quiet (fail)
            obtain ⟨W1, hW1⟩ : ∃ W1, wr.drewN nq = W1 := ⟨_, rfl⟩
            have b1 : Below wr.heap.size wr W1 := by rw [← hW1]; exact below_drewN (Below.refl _ _) _
            rw [hW1]
            clear hW1 c0 c1 c2 c3 y2
            obtain ⟨c0, c1, c2, c3⟩ := HHC.out _ b1
            have y2 := HTC.out _ b1
            have y3 := HUC.out _ b1
            go_wp2_with fail
            go_quiet (fail)
            obtain ⟨W2, hW2⟩ : ∃ W2, W1.drewN nq = W2 := ⟨_, rfl⟩
            have b2 : Below wr.heap.size wr W2 := by rw [← hW2]; exact below_drewN b1 _
            rw [hW2]
            clear hW2 c0 c1 c2 c3 y2 y3 b1
            obtain ⟨c0, c1, c2, c3⟩ := HHC.out _ b2
            have own2 := own_belowD HOWN.out b2 (Nat.le_refl _)
            have hsz2 := b2.size
            go_wp2_with (at_builtin; refine wpList_append_lies _ rfl _ _ _ rfl w.heap.size 25 i0 (.agg #[.int .i64 0, .int .i64 0, .int .i64 0, .slice none 0 0]) 4 48 Try.underlying22 hi0 hz0 hz1 hz2 rfl (by omega) _ _ _ rfl (own2.alloc _) ⟨W2.heap.size, 0, none⟩ 1 1 [.int .i64 x.b.n, .int .i64 lo, .int .i64 E, .slice (some ⟨bu, ou, none⟩) (q + 1) xc] rfl rfl (World.news_of_block (heap_alloc_new W2 _)) (by intro u hu; rw [← HFQ.out] at hu; exact dvs_one [(⟨⟨x.b.n, lo, E, goB x.b lo⟩, some ⟨bu, ou, none⟩, xc⟩ : Me)] u (by simpa [dvs] using hu)) (by omega) (by unfold maxLen; omega) (by omega) (by simp; omega) _ rfl ?_; intro g4 cap4 W3 hown4 hgrow hat hgl; rw [← HFQ.out] at hown4; have hbx3 := (HBX.out _ b2).gr hgrow (fun e => HP.out.2.2 _ e.symm rfl); obtain ⟨c0, c1, c2, c3⟩ := hbx3.fb; rw [Nat.zero_add] at c1 c2 c3; dsimp only at c0 c1 c2 c3; rw [HGL.out] at c3)
            have hik3 : Ik wr W3 := (Ik.of_below (b2.trans ((al_below W2 _).mono b2.size))).trans (Ik.of_grown hgrow (fun g hg => own_tq (own2.alloc _) hg))
            have bk3 : Below w.heap.size w W3 := ((HWW.out _ b2).alloc (by omega) _).grown hgrow (by simp; omega) (fun g e => (own_ltD HOWN.out e).1)
            have hne4 : g4 ≠ B := by
              rcases hat with h | h
              · exact HP.out.2.2 g4 h
              · rw [h]; simp; omega
            have own4 := own_fd (x := ⟨⟨x.b.n, lo, E, goB x.b lo⟩, some ⟨bu, ou, none⟩, xc⟩) hown4 rfl
            have HEND : Hid (∀ W5 X fA fC, Below W3.heap.size W3 W5 → Ut W5 fA fC (goB x.b (E + 1)) → Bx X B ⟨⟨x.b.n, E + 1, x.b.hi, goB x.b (E + 1)⟩, fA, fC⟩ → W5.grownBy X (some B) → Ik W5 X → (x.b.lo ≤ E + 1 ∧ E + 1 ≤ x.b.hi + 1) ∧ Hid (pl (o2 ++ [(⟨⟨x.b.n, lo, E, goB x.b lo⟩, some ⟨bu, ou, none⟩, xc⟩ : Me)]) ++ restC x.b (E + 1) = G ∧ Uol w X (o2 ++ [(⟨⟨x.b.n, lo, E, goB x.b lo⟩, some ⟨bu, ou, none⟩, xc⟩ : Me)]) ∧ (∀ g, (Value.slice (some ⟨g4, 0, none⟩) (o2.length + 1) cap4).ownBlock = some g → g ≠ B)) ∧ X.ownsRow w.heap.size 25 4 (.slice (some ⟨g4, 0, none⟩) (o2.length + 1) cap4) (o2 ++ [(⟨⟨x.b.n, lo, E, goB x.b lo⟩, some ⟨bu, ou, none⟩, xc⟩ : Me)]).length (dvs (o2 ++ [(⟨⟨x.b.n, lo, E, goB x.b lo⟩, some ⟨bu, ou, none⟩, xc⟩ : Me)])) ∧ (x.b.hi + 1 - cellI X ⟨B, 1, none⟩).toNat < (x.b.hi + 1 - cellI wr ⟨B, 1, none⟩).toNat ∧ Hid (Uo w X fA fC (goB x.b (E + 1))) ∧ Below w.heap.size w X) := Lib.hid fun W5 X fA fC h5 hu hbX hg hik => by
              have bk5 : Below w.heap.size w W5 := bk3.trans (h5.mono bk3.size)
              have hBw := HBB.out.2
              obtain ⟨⟨n1, n2, n3, n4⟩, n5⟩ := HED.out
              have n6 := HX2.out
              have hown : ∀ g, (Value.slice (some ⟨g4, 0, none⟩) (o2.length + 1) cap4).ownBlock = some g → g ≠ B := fun g hg => by
                have e2 : g4 = g := by simpa [Value.ownBlock] using hg
                rw [← e2]
                exact hne4
              refine ⟨⟨by omega, by omega⟩, Lib.hid ⟨rows_at HP.out.1 n5 HE.out, ?_, hown⟩, own_grownD (own_belowD own4 h5 (Nat.le_refl _)) hg hown, ?_, Lib.hid (.inr (hu.ik hik)), bk5.grown hg bk5.size (fun g e => by injection e with e; omega)⟩
              · exact (HP.out.2.1.snoc (x := ⟨⟨x.b.n, lo, E, goB x.b lo⟩, some ⟨bu, ou, none⟩, xc⟩) HXU.out).ik ((hik3.trans (Ik.of_below h5)).trans hik)
              · have q1 := hbX.fb.c1
                rw [Nat.zero_add] at q1
                rw [cellI_of q1, HCB.out]
                dsimp only
                omega
            have hun3 := (Uo.ik HXU.out hik3).un bk3
            have KF : Hid (∀ W, Below W3.heap.size W3 W → Calls Try.prog 30 #[.slice (some ⟨bu, ou, none⟩) (q + 1) xc, .int .i64 (D + 1)] W fun e w' => ∃ A C, e = .returned (.slice A (goB x.b (E + 1)).length C) ∧ Ut w' A C (goB x.b (E + 1)) ∧ Below W.heap.size W w') := Lib.hid fun W hW => KF0.out W (hun3.over hW)
            have HBX : Hid (∀ W, Below W3.heap.size W3 W → Bx W B ⟨⟨x.b.n, lo, x.b.hi, goB x.b lo⟩, some ⟨bu, ou, none⟩, xc⟩) := Lib.hid fun W hW => hbx3.below hW
            have HCC : Hid (∀ W, Below W3.heap.size W3 W → W.cell? ⟨B, 0, none⟩ = some (.int .i64 x.b.n) ∧ W.cell? ⟨B, 1, none⟩ = some (.int .i64 lo) ∧ W.cell? ⟨B, 2, none⟩ = some (.int .i64 x.b.hi) ∧ W.cell? ⟨B, 3, none⟩ = some (.slice (some ⟨bu, ou, none⟩) (q + 1) xc)) := Lib.hid fun W hW => by
              obtain ⟨c0, c1, c2, c3⟩ := (hbx3.below hW).fb
              rw [Nat.zero_add] at c1 c2 c3
              dsimp only at c0 c1 c2 c3
              rw [HGL.out] at c3
              exact ⟨c0, c1, c2, c3⟩
            have HSS : Hid (∀ W, Below W3.heap.size W3 W → W.cell? ⟨B, 0, none⟩ = some (.int .i64 x.b.n) ∧ W.cell? ⟨B, 2, none⟩ = some (.int .i64 x.b.hi)) := Lib.hid fun W hW => ⟨(HCC.out W hW).1, (HCC.out W hW).2.2.1⟩
            have HSX : Hid (∀ X lo' u a c, Bx X B ⟨⟨x.b.n, lo', x.b.hi, u⟩, a, c⟩ → X.cell? ⟨B, 0, none⟩ = some (.int .i64 x.b.n) ∧ X.cell? ⟨B, 2, none⟩ = some (.int .i64 x.b.hi)) := Lib.hid fun X lo' u a c h => by
              obtain ⟨c0, c1, c2, c3⟩ := h.fb
              rw [Nat.zero_add] at c1 c2 c3
              exact ⟨c0, c2⟩
            have z0 : Below W3.heap.size W3 W3.drew := (Below.refl _ _).drew
            clear c0 c1 c2 c3 hown4 hgrow hat hgl hbx3 hik3 bk3 hne4 own4 hun3 own2 hsz2 b2 hsz hbel hbx hblt
            obtain ⟨k0, k1, k2, k3⟩ := HCC.out _ z0
            refine wp_region_held_drew (S := fun w' => w'.cell? ⟨B, 0, none⟩ = some (.int .i64 x.b.n) ∧ w'.cell? ⟨B, 2, none⟩ = some (.int .i64 x.b.hi)) (by kernel_rfl) (HSS.out _ z0) (fun hS0 => ?_)
            try dsimp only at hS0
            refine wpAnyH_take (i := 0) (oi := { dst := some 67, op := Op.fieldAddr 25 (Operand.tmp 5) 0, type := 0, pos := "ref.go:144", after := #[], guard := none }) (v := ?_) rfl (by kernel_rfl) (by kernel_rfl) (by kernel_rfl) (fun _ _ _ h => h) (Or.inl ⟨by rfl, ?_⟩) (by assumption) ?_
            rotate_left
            · intro w' hSw; obtain ⟨d0, d2⟩ := hSw; go_simp; try with_reducible rfl
            simp only [Act.put, List.setIfInBounds_toArray, List.set_cons_zero, List.set_cons_succ]
            refine wpAnyH_take (i := 1) (oi := { dst := some 68, op := Op.load 3 (Operand.tmp 67), type := 3, pos := "ref.go:144", after := #[{ on := 0, ground := Ground.data }], guard := none }) (v := ?_) rfl (by kernel_rfl) (by kernel_rfl) (by kernel_rfl) (fun _ _ _ h => h) (Or.inl ⟨by rfl, ?_⟩) (by assumption) ?_
            rotate_left
            · intro w' hSw; obtain ⟨d0, d2⟩ := hSw; go_simp; try with_reducible rfl
            simp only [Act.put, List.setIfInBounds_toArray, List.set_cons_zero, List.set_cons_succ]
            refine wpAnyH_take (i := 2) (oi := { dst := some 69, op := Op.fieldAddr 25 (Operand.tmp 5) 1, type := 0, pos := "ref.go:144", after := #[], guard := none }) (v := ?_) rfl (by kernel_rfl) (by kernel_rfl) (by kernel_rfl) (fun _ _ _ h => h) (Or.inl ⟨by rfl, ?_⟩) (by assumption) ?_
            rotate_left
            · intro w' hSw; obtain ⟨d0, d2⟩ := hSw; go_simp; try with_reducible rfl
            simp only [Act.put, List.setIfInBounds_toArray, List.set_cons_zero, List.set_cons_succ]
            refine wpAnyH_take (i := 4) (oi := { dst := some 71, op := Op.move (Operand.tmp 7), type := 3, pos := "ref.go:144", after := #[], guard := none }) (v := ?_) rfl (by kernel_rfl) (by kernel_rfl) (by kernel_rfl) (fun _ _ _ h => h) (Or.inl ⟨by rfl, ?_⟩) (by assumption) ?_
            rotate_left
            · intro w' hSw; obtain ⟨d0, d2⟩ := hSw; go_simp; try with_reducible rfl
            simp only [Act.put, List.setIfInBounds_toArray, List.set_cons_zero, List.set_cons_succ]
            refine wpAnyH_take (i := 7) (oi := { dst := some 74, op := Op.fieldAddr 25 (Operand.tmp 5) 2, type := 0, pos := "ref.go:144", after := #[], guard := none }) (v := ?_) rfl (by kernel_rfl) (by kernel_rfl) (by kernel_rfl) (fun _ _ _ h => h) (Or.inl ⟨by rfl, ?_⟩) (by assumption) ?_
            rotate_left
            · intro w' hSw; obtain ⟨d0, d2⟩ := hSw; go_simp; try with_reducible rfl
            simp only [Act.put, List.setIfInBounds_toArray, List.set_cons_zero, List.set_cons_succ]
            refine wpAnyH_take (i := 8) (oi := { dst := some 75, op := Op.load 3 (Operand.tmp 74), type := 3, pos := "ref.go:144", after := #[{ on := 7, ground := Ground.data }], guard := none }) (v := ?_) rfl (by kernel_rfl) (by kernel_rfl) (by kernel_rfl) (fun _ _ _ h => h) (Or.inl ⟨by rfl, ?_⟩) (by assumption) ?_
            rotate_left
            · intro w' hSw; obtain ⟨d0, d2⟩ := hSw; go_simp; try with_reducible rfl
            simp only [Act.put, List.setIfInBounds_toArray, List.set_cons_zero, List.set_cons_succ]
            refine wpAnyH_take (i := 9) (oi := { dst := some 76, op := Op.fieldAddr 25 (Operand.tmp 5) 3, type := 0, pos := "ref.go:144", after := #[], guard := none }) (v := ?_) rfl (by kernel_rfl) (by kernel_rfl) (by kernel_rfl) (fun _ _ _ h => h) (Or.inl ⟨by rfl, ?_⟩) (by assumption) ?_
            rotate_left
            · intro w' hSw; obtain ⟨d0, d2⟩ := hSw; go_simp; try with_reducible rfl
            simp only [Act.put, List.setIfInBounds_toArray, List.set_cons_zero, List.set_cons_succ]
            refine wpAnyH_take (i := 11) (oi := { dst := some 78, op := Op.move (Operand.tmp 7), type := 3, pos := "ref.go:144", after := #[], guard := none }) (v := ?_) rfl (by kernel_rfl) (by kernel_rfl) (by kernel_rfl) (fun _ _ _ h => h) (Or.inl ⟨by rfl, ?_⟩) (by assumption) ?_
            rotate_left
            · intro w' hSw; obtain ⟨d0, d2⟩ := hSw; go_simp; try with_reducible rfl
            simp only [Act.put, List.setIfInBounds_toArray, List.set_cons_zero, List.set_cons_succ]
            refine wpAnyH_take (i := 12) (oi := { dst := some 79, op := Op.binOp BinOp.add 3 (Operand.tmp 78) (Operand.const (Value.int IntKind.i64 1)) 3, type := 3, pos := "ref.go:144", after := #[{ on := 11, ground := Ground.data }], guard := none }) (v := ?_) rfl (by kernel_rfl) (by kernel_rfl) (by kernel_rfl) (fun _ _ _ h => h) (Or.inl ⟨by rfl, ?_⟩) (by assumption) ?_
            rotate_left
            · intro w' hSw; obtain ⟨d0, d2⟩ := hSw; go_simp; try with_reducible rfl
            simp only [Act.put, List.setIfInBounds_toArray, List.set_cons_zero, List.set_cons_succ]
            refine wpAnyH_ready (rs := [3, 10]) (by kernel_rfl) (by simp) (AllReadyH.cons rfl (fun K hK => ?_) (AllReadyH.cons rfl (fun K hK => ?_) AllReadyH.nil))
            · go_simp
              go_wp2_with (fail)
              refine hK.out _ _ (HSS.out _ z0) (fun hS3 => ?_)
              clear hK K
              refine wpAnyH_take (i := 5) (oi := { dst := some 72, op := Op.binOp BinOp.add 3 (Operand.tmp 70) (Operand.tmp 71) 3, type := 3, pos := "ref.go:144", after := #[{ on := 3, ground := Ground.data }, { on := 4, ground := Ground.data }], guard := none }) (v := ?_) rfl (by kernel_rfl) (by kernel_rfl) (by kernel_rfl) (fun _ _ _ h => h) (Or.inl ⟨by rfl, ?_⟩) (by assumption) ?_
              rotate_left
              · intro w' hSw; obtain ⟨d0, d2⟩ := hSw; go_simp; try with_reducible rfl
              simp only [Act.put, List.setIfInBounds_toArray, List.set_cons_zero, List.set_cons_succ]
              refine wpAnyH_take (i := 6) (oi := { dst := some 73, op := Op.binOp BinOp.add 3 (Operand.tmp 72) (Operand.const (Value.int IntKind.i64 1)) 3, type := 3, pos := "ref.go:144", after := #[{ on := 5, ground := Ground.data }], guard := none }) (v := ?_) rfl (by kernel_rfl) (by kernel_rfl) (by kernel_rfl) (fun _ _ _ h => h) (Or.inl ⟨by rfl, ?_⟩) (by assumption) ?_
              rotate_left
              · intro w' hSw; obtain ⟨d0, d2⟩ := hSw; go_simp; try with_reducible rfl
              simp only [Act.put, List.setIfInBounds_toArray, List.set_cons_zero, List.set_cons_succ]
              refine wpAnyH_ready (rs := [10]) (by kernel_rfl) (by simp) (AllReadyH.cons rfl (fun K hK => ?_) AllReadyH.nil)
              go_simp
              go_wp2_with (fail)
              refine hK.out _ _ (HSS.out _ z0) (fun hS10 => ?_)
              clear hK K
              refine wpAnyH_ready (rs := [13]) (by kernel_rfl) (by simp) (AllReadyH.cons rfl (fun K hK => ?_) AllReadyH.nil)
              go_simp
              go_wp2_with ((go_at_call 30; (with_reducible refine (KF.out _ z0).mono ?_); rintro e w5 ⟨fA, fC, rfl, hut5, hb5⟩; have z5 := z0.trans (hb5.mono z0.size); obtain ⟨k0, k1, k2, k3⟩ := HCC.out _ z5))
              refine hK.out _ _ (HSS.out _ z5) (fun hS13 => ?_)
              clear hK K
              refine wpAnyH_take (i := 14) (oi := { dst := some 81, op := Op.build 25 #[(0, Operand.tmp 68), (1, Operand.tmp 73), (2, Operand.tmp 75), (3, Operand.tmp 80)], type := 25, pos := "ref.go:144", after := #[{ on := 1, ground := Ground.data }, { on := 6, ground := Ground.data }, { on := 8, ground := Ground.data }, { on := 13, ground := Ground.data }], guard := none }) (v := ?_) rfl (by kernel_rfl) (by kernel_rfl) (by kernel_rfl) (fun _ _ _ h => h) (Or.inl ⟨by rfl, ?_⟩) (by assumption) ?_
              rotate_left
              · intro w' hSw; obtain ⟨d0, d2⟩ := hSw; go_simp; try with_reducible rfl
              simp only [Act.put, List.setIfInBounds_toArray, List.set_cons_zero, List.set_cons_succ]
              have hx5 := HBX.out _ z5
              have f0 := hx5.frozen 0
              have f1 := hx5.frozen 1
              have f2 := hx5.frozen 2
              have f3 := hx5.frozen 3
              have KS := Lib.hid (hx5.set ⟨⟨x.b.n, E + 1, x.b.hi, goB x.b (E + 1)⟩, fA, fC⟩)
              have HUT5 := Lib.hid hut5
              have Z5 := Lib.hid z5
              clear hx5 hut5 z5 hb5 z0
              refine wpAnyH_ready (rs := [15]) (by kernel_rfl) (by simp) (AllReadyH.cons rfl (fun K hK => ?_) AllReadyH.nil)
              go_simp
              go_wp2_with fail
              obtain ⟨q1, q2, q3⟩ := KS.out _ rfl
              try dsimp only at q1 q2 q3
              generalize (((w5.setCell ⟨B, 0, none⟩ (.int .i64 x.b.n)).setCell ⟨B, 1, none⟩ (.int .i64 (E + 1))).setCell ⟨B, 2, none⟩ (.int .i64 x.b.hi)).setCell ⟨B, 3, none⟩ (.slice fA (goB x.b (E + 1)).length fC) = X at *
              refine hK.out _ _ (HSX.out _ _ _ _ _ q1) (fun hS15 => ?_)
              clear hK K hS15 f0 f1 f2 f3 k0 k1 k2 k3
              refine wpAnyH_done (by kernel_rfl) ?_ _
              obtain ⟨r1, r2, r3, r4, r5, r6⟩ := HEND.out _ _ _ _ Z5.out HUT5.out q1 q2 q3
              go_wp2
              exact ⟨⟨E + 1, _, fA, fC, r1, r2, r3, q1, r5, r6⟩, r4⟩
            · go_simp
              go_wp2_with (fail)
              refine hK.out _ _ (HSS.out _ z0) (fun hS10 => ?_)
              clear hK K
              refine wpAnyH_ready (rs := [3, 13]) (by kernel_rfl) (by simp) (AllReadyH.cons rfl (fun K hK => ?_) (AllReadyH.cons rfl (fun K hK => ?_) AllReadyH.nil))
              · go_simp
                go_wp2_with (fail)
                refine hK.out _ _ (HSS.out _ z0) (fun hS3 => ?_)
                clear hK K
                refine wpAnyH_take (i := 5) (oi := { dst := some 72, op := Op.binOp BinOp.add 3 (Operand.tmp 70) (Operand.tmp 71) 3, type := 3, pos := "ref.go:144", after := #[{ on := 3, ground := Ground.data }, { on := 4, ground := Ground.data }], guard := none }) (v := ?_) rfl (by kernel_rfl) (by kernel_rfl) (by kernel_rfl) (fun _ _ _ h => h) (Or.inl ⟨by rfl, ?_⟩) (by assumption) ?_
                rotate_left
                · intro w' hSw; obtain ⟨d0, d2⟩ := hSw; go_simp; try with_reducible rfl
                simp only [Act.put, List.setIfInBounds_toArray, List.set_cons_zero, List.set_cons_succ]
                refine wpAnyH_take (i := 6) (oi := { dst := some 73, op := Op.binOp BinOp.add 3 (Operand.tmp 72) (Operand.const (Value.int IntKind.i64 1)) 3, type := 3, pos := "ref.go:144", after := #[{ on := 5, ground := Ground.data }], guard := none }) (v := ?_) rfl (by kernel_rfl) (by kernel_rfl) (by kernel_rfl) (fun _ _ _ h => h) (Or.inl ⟨by rfl, ?_⟩) (by assumption) ?_
                rotate_left
                · intro w' hSw; obtain ⟨d0, d2⟩ := hSw; go_simp; try with_reducible rfl
                simp only [Act.put, List.setIfInBounds_toArray, List.set_cons_zero, List.set_cons_succ]
                refine wpAnyH_ready (rs := [13]) (by kernel_rfl) (by simp) (AllReadyH.cons rfl (fun K hK => ?_) AllReadyH.nil)
                go_simp
                go_wp2_with ((go_at_call 30; (with_reducible refine (KF.out _ z0).mono ?_); rintro e w5 ⟨fA, fC, rfl, hut5, hb5⟩; have z5 := z0.trans (hb5.mono z0.size); obtain ⟨k0, k1, k2, k3⟩ := HCC.out _ z5))
                refine hK.out _ _ (HSS.out _ z5) (fun hS13 => ?_)
                clear hK K
                refine wpAnyH_take (i := 14) (oi := { dst := some 81, op := Op.build 25 #[(0, Operand.tmp 68), (1, Operand.tmp 73), (2, Operand.tmp 75), (3, Operand.tmp 80)], type := 25, pos := "ref.go:144", after := #[{ on := 1, ground := Ground.data }, { on := 6, ground := Ground.data }, { on := 8, ground := Ground.data }, { on := 13, ground := Ground.data }], guard := none }) (v := ?_) rfl (by kernel_rfl) (by kernel_rfl) (by kernel_rfl) (fun _ _ _ h => h) (Or.inl ⟨by rfl, ?_⟩) (by assumption) ?_
                rotate_left
                · intro w' hSw; obtain ⟨d0, d2⟩ := hSw; go_simp; try with_reducible rfl
                simp only [Act.put, List.setIfInBounds_toArray, List.set_cons_zero, List.set_cons_succ]
                have hx5 := HBX.out _ z5
                have f0 := hx5.frozen 0
                have f1 := hx5.frozen 1
                have f2 := hx5.frozen 2
                have f3 := hx5.frozen 3
                have KS := Lib.hid (hx5.set ⟨⟨x.b.n, E + 1, x.b.hi, goB x.b (E + 1)⟩, fA, fC⟩)
                have HUT5 := Lib.hid hut5
                have Z5 := Lib.hid z5
                clear hx5 hut5 z5 hb5 z0
                refine wpAnyH_ready (rs := [15]) (by kernel_rfl) (by simp) (AllReadyH.cons rfl (fun K hK => ?_) AllReadyH.nil)
                go_simp
                go_wp2_with fail
                obtain ⟨q1, q2, q3⟩ := KS.out _ rfl
                try dsimp only at q1 q2 q3
                generalize (((w5.setCell ⟨B, 0, none⟩ (.int .i64 x.b.n)).setCell ⟨B, 1, none⟩ (.int .i64 (E + 1))).setCell ⟨B, 2, none⟩ (.int .i64 x.b.hi)).setCell ⟨B, 3, none⟩ (.slice fA (goB x.b (E + 1)).length fC) = X at *
                refine hK.out _ _ (HSX.out _ _ _ _ _ q1) (fun hS15 => ?_)
                clear hK K hS15 f0 f1 f2 f3 k0 k1 k2 k3
                refine wpAnyH_done (by kernel_rfl) ?_ _
                obtain ⟨r1, r2, r3, r4, r5, r6⟩ := HEND.out _ _ _ _ Z5.out HUT5.out q1 q2 q3
                go_wp2
                exact ⟨⟨E + 1, _, fA, fC, r1, r2, r3, q1, r5, r6⟩, r4⟩
              · go_simp
                go_wp2_with ((go_at_call 30; (with_reducible refine (KF.out _ z0).mono ?_); rintro e w5 ⟨fA, fC, rfl, hut5, hb5⟩; have z5 := z0.trans (hb5.mono z0.size); obtain ⟨k0, k1, k2, k3⟩ := HCC.out _ z5))
                refine hK.out _ _ (HSS.out _ z5) (fun hS13 => ?_)
                clear hK K
                refine wpAnyH_ready (rs := [3]) (by kernel_rfl) (by simp) (AllReadyH.cons rfl (fun K hK => ?_) AllReadyH.nil)
                go_simp
                go_wp2_with (fail)
                refine hK.out _ _ (HSS.out _ z5) (fun hS3 => ?_)
                clear hK K
                refine wpAnyH_take (i := 5) (oi := { dst := some 72, op := Op.binOp BinOp.add 3 (Operand.tmp 70) (Operand.tmp 71) 3, type := 3, pos := "ref.go:144", after := #[{ on := 3, ground := Ground.data }, { on := 4, ground := Ground.data }], guard := none }) (v := ?_) rfl (by kernel_rfl) (by kernel_rfl) (by kernel_rfl) (fun _ _ _ h => h) (Or.inl ⟨by rfl, ?_⟩) (by assumption) ?_
                rotate_left
                · intro w' hSw; obtain ⟨d0, d2⟩ := hSw; go_simp; try with_reducible rfl
                simp only [Act.put, List.setIfInBounds_toArray, List.set_cons_zero, List.set_cons_succ]
                refine wpAnyH_take (i := 6) (oi := { dst := some 73, op := Op.binOp BinOp.add 3 (Operand.tmp 72) (Operand.const (Value.int IntKind.i64 1)) 3, type := 3, pos := "ref.go:144", after := #[{ on := 5, ground := Ground.data }], guard := none }) (v := ?_) rfl (by kernel_rfl) (by kernel_rfl) (by kernel_rfl) (fun _ _ _ h => h) (Or.inl ⟨by rfl, ?_⟩) (by assumption) ?_
                rotate_left
                · intro w' hSw; obtain ⟨d0, d2⟩ := hSw; go_simp; try with_reducible rfl
                simp only [Act.put, List.setIfInBounds_toArray, List.set_cons_zero, List.set_cons_succ]
                refine wpAnyH_take (i := 14) (oi := { dst := some 81, op := Op.build 25 #[(0, Operand.tmp 68), (1, Operand.tmp 73), (2, Operand.tmp 75), (3, Operand.tmp 80)], type := 25, pos := "ref.go:144", after := #[{ on := 1, ground := Ground.data }, { on := 6, ground := Ground.data }, { on := 8, ground := Ground.data }, { on := 13, ground := Ground.data }], guard := none }) (v := ?_) rfl (by kernel_rfl) (by kernel_rfl) (by kernel_rfl) (fun _ _ _ h => h) (Or.inl ⟨by rfl, ?_⟩) (by assumption) ?_
                rotate_left
                · intro w' hSw; obtain ⟨d0, d2⟩ := hSw; go_simp; try with_reducible rfl
                simp only [Act.put, List.setIfInBounds_toArray, List.set_cons_zero, List.set_cons_succ]
                have hx5 := HBX.out _ z5
                have f0 := hx5.frozen 0
                have f1 := hx5.frozen 1
                have f2 := hx5.frozen 2
                have f3 := hx5.frozen 3
                have KS := Lib.hid (hx5.set ⟨⟨x.b.n, E + 1, x.b.hi, goB x.b (E + 1)⟩, fA, fC⟩)
                have HUT5 := Lib.hid hut5
                have Z5 := Lib.hid z5
                clear hx5 hut5 z5 hb5 z0
                refine wpAnyH_ready (rs := [15]) (by kernel_rfl) (by simp) (AllReadyH.cons rfl (fun K hK => ?_) AllReadyH.nil)
                go_simp
                go_wp2_with fail
                obtain ⟨q1, q2, q3⟩ := KS.out _ rfl
                try dsimp only at q1 q2 q3
                generalize (((w5.setCell ⟨B, 0, none⟩ (.int .i64 x.b.n)).setCell ⟨B, 1, none⟩ (.int .i64 (E + 1))).setCell ⟨B, 2, none⟩ (.int .i64 x.b.hi)).setCell ⟨B, 3, none⟩ (.slice fA (goB x.b (E + 1)).length fC) = X at *
                refine hK.out _ _ (HSX.out _ _ _ _ _ q1) (fun hS15 => ?_)
                clear hK K hS15 f0 f1 f2 f3 k0 k1 k2 k3
                refine wpAnyH_done (by kernel_rfl) ?_ _
                obtain ⟨r1, r2, r3, r4, r5, r6⟩ := HEND.out _ _ _ _ Z5.out HUT5.out q1 q2 q3
                go_wp2
                exact ⟨⟨E + 1, _, fA, fC, r1, r2, r3, q1, r5, r6⟩, r4⟩
          · have u0 : decide (lo ≤ x.b.hi) = false := decide_eq_false hlt2
            have HF : Hid (pl o2 = rowsB ((pl l).take (k + 1))) := Lib.hid (by rw [← HG2.out, ← HP.out.1, restC_end hlt2, List.append_nil])
            clear hlt2
            go_wp2_with fail
            go_quiet (fail)
            go_wp2
            refine ⟨⟨k + 1, o2, by omega, by first | rfl | go_num, HF, Lib.hid (HP.out.2.1.ik (Ik.of_below (below_drewN (Below.refl _ _) _))), own_belowD hown (below_drewN (Below.refl _ _) _) (Nat.le_refl _), below_drewN hbel _⟩, by simp [intOf]; omega⟩
      · have t0 : decide (k < n) = false := decide_eq_false hlt
        obtain rfl : k = n := by omega
        obtain ⟨cc, _, hcc, AA, ev, hnn, hrd⟩ := Rd.of_own hown
        subst ev
        go_wp2
        go_ret
        refine ⟨out, AA, cc, rfl, hcc, ⟨hrd, fun m hm => (HU.out m hm).un hbel⟩, ?_, hbel⟩
        rw [HE.out, rowsC, if_pos HC.out, List.take_of_length_le (by rw [pl_length, ← HN.out]; exact Nat.le_refl _)]
end Go.Proofs.Ytkkochjdimegpaa
