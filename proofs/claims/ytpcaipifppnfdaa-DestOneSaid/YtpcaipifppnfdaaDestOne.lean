/-
  The walk of the statement DestOne.
-/
import Derived.Test.YtpcaipifppnfdaaDestFinds
import Derived.Test.YtpcaipifppnfdaaDestApp
import Derived.Deep.RegionHeld3
namespace Go.Proofs.Ytpcaipifppnfdaa
open Go.RowKit
attribute [local go_sem ↓] Go.wp_at_zero Go.wp_at_succ

theorem i64_mask5s (n : Int) : bits .and .i64 n 31 = n % 32 := by
  have h127 : (BitVec.ofInt 64 31).toNat = 2 ^ 5 - 1 := by decide
  have key : (BitVec.ofInt 64 n &&& BitVec.ofInt 64 31).toNat = (n % ((2 ^ 64 : Nat) : Int)).toNat % 2 ^ 5 := by
    rw [BitVec.toNat_and, BitVec.toNat_ofInt, h127, Nat.and_two_pow_sub_one_eq_mod]
  show IntKind.i64.wrap ((BitVec.ofInt 64 n &&& BitVec.ofInt 64 31).toNat : Nat) = n % 32
  rw [key, IntKind.wrap_i64]
  omega
/-- Code by code, from the last one. -/
def onesB (x : Bp) (k : Nat) : List Bp := (List.range k).map fun (i : Nat) => partB x (x.hi - i) (x.hi - i)
theorem onesB_succ (x : Bp) (k : Nat) : onesB x (k + 1) = onesB x k ++ [partB x (x.hi - k) (x.hi - k)] := by simp [onesB, List.range_succ]
theorem onesB_length (x : Bp) (k : Nat) : (onesB x k).length = k := by simp [onesB]
theorem onesB_last {x : Bp} (hx : Sb x) (n v : Int) : ∀ k : Nat, (k : Int) ≤ x.hi - x.lo + 1 → lastB (onesB x k) n v = if n = x.n ∧ x.hi - k < v ∧ v ≤ x.hi then some (goB x v) else none
  | 0, _ => by
    rw [if_neg (by omega)]
    rfl
  | k + 1, hk => by
    have ih := onesB_last hx n v k (by omega)
    have hp := partB_sn hx (lo := x.hi - k) (hi := x.hi - k) (by omega) (Int.le_refl _) (by omega)
    rw [onesB_succ, lastB_append, ih]
    simp only [lastB, Option.none_or]
    by_cases h1 : n = x.n ∧ v = x.hi - k
    · rw [toB_some.2 ⟨hp, h1.1, (show x.hi - k ≤ v by omega), (show v ≤ x.hi - k by omega), rfl⟩, if_neg (show ¬ (n = x.n ∧ x.hi - (k : Int) < v ∧ v ≤ x.hi) by omega), if_pos (show n = x.n ∧ x.hi - ((k + 1 : Nat) : Int) < v ∧ v ≤ x.hi from ⟨h1.1, by omega, by omega⟩), part_goB]
      rfl
    · rw [toB_none (s := partB x (x.hi - k) (x.hi - k)) (fun q => h1 ⟨q.1, by have h2 : x.hi - k ≤ v := q.2.1; have h3 : v ≤ x.hi - k := q.2.2; omega⟩), Option.none_or]
      by_cases h2 : n = x.n ∧ x.hi - k < v ∧ v ≤ x.hi
      · rw [if_pos h2, if_pos ⟨h2.1, by omega, h2.2.2⟩]
      · rw [if_neg h2, if_neg (by omega)]
theorem ct_one {x : Bp} (hx : Sb x) : Ct [x] := ⟨fun s hs => by rw [List.mem_singleton] at hs; rw [hs]; exact hx, List.pairwise_singleton _ _⟩
theorem onesB_all {x : Bp} (hx : Sb x) (k : Nat) (hk : (k : Int) = x.hi - x.lo + 1) (n v : Int) : lastB (onesB x k) n v = lastB [x] n v := by
  rw [onesB_last hx n v k (by omega)]
  simp only [lastB, Option.none_or]
  by_cases h : n = x.n ∧ x.hi - k < v ∧ v ≤ x.hi
  · rw [if_pos h, toB_some.2 ⟨hx, h.1, by omega, h.2.2, rfl⟩]
  · rw [if_neg h, toB_none (s := x) (by omega)]
theorem one_of {m : List Me} {x : Bp} (h : pl m = [x]) : ∃ a, m = [a] ∧ a.b = x := by
  match m, h with
  | [a], h =>
    injection h with h1 _
    exact ⟨a, rfl, h1⟩
/-- One entry in a new block. -/
theorem sd_one (W : World) (x : Me) (t : TypeId) (hx : Un W x.a x.c x.b.u) : Sd (W.alloc (.cells #[.int .i64 x.b.n, .int .i64 x.b.lo, .int .i64 x.b.hi, .slice x.a x.b.u.length x.c] t)) (some ⟨W.heap.size, 0, none⟩) [x] := by
  refine ⟨fun _ => ⟨W.heap.size, 0, rfl, by simp, fun j z hz => ?_⟩, fun m hm => ?_⟩
  · cases j with
    | zero => cases hz; rw [Nat.zero_mul]; exact Fb.new W x t
    | succ j => simp at hz
  · rw [List.mem_singleton] at hm
    subst hm
    exact hx.over (al_below _ _)
/-- One entry's cells, a row of one's own. -/
theorem own_oneF (w : World) (x : Me) (B : Nat) (e : TypeId) (hB : B ≤ w.heap.size) : (w.alloc (.cells #[.int .i64 x.b.n, .int .i64 x.b.lo, .int .i64 x.b.hi, .slice x.a x.b.u.length x.c] e)).ownsRow B e 4 (.slice (some ⟨w.heap.size, 0, none⟩) 1 1) 1 (fq x) :=
  ⟨rfl, .inr ⟨w.heap.size, 1, #[.int .i64 x.b.n, .int .i64 x.b.lo, .int .i64 x.b.hi, .slice x.a x.b.u.length x.c], rfl, hB, heap_alloc_new w _, Nat.le_refl _, by unfold maxLen; omega, rfl, rfl⟩⟩
/-- One unit in a new block. -/
theorem ut_one (w : World) (u : Int) : Ut (w.alloc (.cells #[.int .i64 u] 3)) (some ⟨w.heap.size, 0, none⟩) 1 [u] := by
  refine ⟨⟨Nat.le_refl _, (fun e => by cases e), fun _ => ⟨w.heap.size, 0, rfl, by simp, fun j hj => ?_⟩⟩, fun _ => ⟨w.heap.size, 0, _, _, rfl, heap_alloc_new w _⟩⟩
  have : j = 0 := by simp at hj; exact hj
  subst this
  simp
macro "bel" : tactic => `(tactic| (repeat (first | assumption | exact Below.refl _ _ | refine Below.drew ?_ | refine Below.alloc ?_ ?_ _ | exact Nat.le_refl _ | exact Below.size (by assumption) | (simp; done) | (simp; omega))))
set_option maxRecDepth 100000 in
set_option maxHeartbeats 16000000 in
theorem done_walk (s : Me) (n nc vc : Int) (w : World) (hsu : Un w s.a s.c s.b.u) (hma : s.b.u.length ≤ maxLen) :
    Calls Try.prog 6 #[fv s, .int .i64 n, .agg #[.int .i64 nc, .int .i64 vc]] w fun e w' => e = .returned (.bool true) ∧ Below w.heap.size w w' := by
  obtain ⟨i0, hi, hz0, hz1, hz2⟩ := info_parts infoB
  unfold maxLen at hma
  have HSU := Lib.hid hsu
  have hs0 : Fb ((w.alloc (.cells #[.int .i64 s.b.n, .int .i64 s.b.lo, .int .i64 s.b.hi, .slice s.a s.b.u.length s.c] 25)).alloc (.cells #[.int .i64 nc, .int .i64 vc] 27)) w.heap.size s := ⟨by simp, by simp, by simp, by simp⟩
  have hd0 : Cd ((w.alloc (.cells #[.int .i64 s.b.n, .int .i64 s.b.lo, .int .i64 s.b.hi, .slice s.a s.b.u.length s.c] 25)).alloc (.cells #[.int .i64 nc, .int .i64 vc] 27)) (w.heap.size + 1) nc vc := ⟨by simp, by simp⟩
  have hb0 : Below w.heap.size w ((w.alloc (.cells #[.int .i64 s.b.n, .int .i64 s.b.lo, .int .i64 s.b.hi, .slice s.a s.b.u.length s.c] 25)).alloc (.cells #[.int .i64 nc, .int .i64 vc] 27)) := ((Below.refl _ _).alloc (Nat.le_refl _) _).alloc (by simp) _
  have hzz : w.heap.size + 1 < ((w.alloc (.cells #[.int .i64 s.b.n, .int .i64 s.b.lo, .int .i64 s.b.hi, .slice s.a s.b.u.length s.c] 25)).alloc (.cells #[.int .i64 nc, .int .i64 vc] 27)).heap.size := by simp
  have K1 := Lib.hid (fun W (hW : Below w.heap.size w W) => DSane_any s W (hsu.over hW))
  unfold fv at K1 ⊢
  clear hsu
  go_enter Try.func6, Try.ntmps6
  go_wp2_with fail
  generalize (w.alloc (.cells #[.int .i64 s.b.n, .int .i64 s.b.lo, .int .i64 s.b.hi, .slice s.a s.b.u.length s.c] 25)).alloc (.cells #[.int .i64 nc, .int .i64 vc] 27) = WB at *
  have HBX : Hid (∀ W, Below WB.heap.size WB W → (W.cell? ⟨w.heap.size, 0, none⟩ = some (.int .i64 s.b.n) ∧ W.cell? ⟨w.heap.size, 1, none⟩ = some (.int .i64 s.b.lo) ∧ W.cell? ⟨w.heap.size, 2, none⟩ = some (.int .i64 s.b.hi) ∧ W.cell? ⟨w.heap.size, 3, none⟩ = some (.slice s.a s.b.u.length s.c)) ∧ (W.cell? ⟨w.heap.size + 1, 0, none⟩ = some (.int .i64 nc) ∧ W.cell? ⟨w.heap.size + 1, 1, none⟩ = some (.int .i64 vc)) ∧ Below w.heap.size w W ∧ w.heap.size + 1 < W.heap.size) := Lib.hid fun W hW => by
    obtain ⟨p0, p1, p2, p3⟩ := hs0.below hW (by omega)
    obtain ⟨q0, q1⟩ := hd0.below hW hzz
    simp only [Nat.zero_add] at p1 p2 p3
    exact ⟨⟨p0, p1, p2, p3⟩, ⟨q0, q1⟩, hb0.trans (hW.mono (by omega)), Nat.lt_of_lt_of_le hzz hW.size⟩
  clear hs0 hd0 hb0 hzz
  refine (awake_any _).mono ?_
  rintro e w1 ⟨rfl, h1⟩
  obtain ⟨⟨y0, y1, y2, y3⟩, _, bk1, _⟩ := HBX.out _ h1
  by_cases h70 : 70 < s.b.u.length
  · have t7 : decide ((70 : Int) < (s.b.u.length : Int)) = true := decide_eq_true (by omega)
    clear h70
    go_wp2
    go_ret
    exact ⟨rfl, bk1⟩
  · have t7 : decide ((70 : Int) < (s.b.u.length : Int)) = false := decide_eq_false (by omega)
    by_cases hsn : Sb s.b
    · rw [decide_eq_true hsn] at K1
      have HSN := Lib.hid hsn
      go_wp2_with fail
      refine (K1.out _ bk1).mono ?_
      rintro e w2 ⟨rfl, hb2⟩
      have h2 := h1.trans (hb2.mono h1.size)
      clear y0 y1 y2 y3 hb2 h1 bk1
      obtain ⟨⟨y0, y1, y2, y3⟩, _, bk2, _⟩ := HBX.out _ h2
      have hlo := hsn.2.2.1
      obtain ⟨n0, n1, _⟩ := saneB_top hsn.1
      obtain ⟨n2, n3, _⟩ := saneB_top hsn.2.1
      have tm : bits .and .i64 n 31 = n % 32 := i64_mask5s n
      generalize hm : n % 32 = kk at *
      have hk0 : 0 ≤ kk ∧ kk < 32 := by omega
      obtain ⟨hk0, hk1⟩ := hk0
      obtain ⟨H, hH⟩ : ∃ H : Int, H = if s.b.lo + kk < s.b.hi then s.b.lo + kk else s.b.hi := ⟨_, rfl⟩
      have hH1 : s.b.lo ≤ H ∧ H ≤ s.b.hi ∧ H ≤ s.b.lo + 31 := by rw [hH]; split <;> omega
      obtain ⟨hH1, hH2, hH3⟩ := hH1
      have hmn : ∀ ts t wx, (Builtin.min_ ts t #[.int .i64 s.b.hi, .int .i64 (s.b.lo + kk)]).run Try.prog wx = .ok (.int .i64 H) wx := fun ts t wx => by rw [run_min_int2, ← hH]
      clear hH hm
      obtain ⟨x, hxe⟩ : ∃ x : Me, x = ⟨⟨s.b.n, s.b.lo, H, s.b.u⟩, s.a, s.c⟩ := ⟨_, rfl⟩
      have hxs : Sb x.b := by
        rw [hxe]
        show Sb { s.b with hi := H }
        rw [partB_up]
        exact partB_sn hsn (Int.le_refl _) hH1 hH2
      have hx0 : Fb (w2.alloc (.cells #[.int .i64 s.b.n, .int .i64 s.b.lo, .int .i64 H, .slice s.a s.b.u.length s.c] 25)) w2.heap.size x := by rw [hxe]; exact Fb.new w2 ⟨⟨s.b.n, s.b.lo, H, s.b.u⟩, s.a, s.c⟩ 25
      have hux : Hid (∀ W, Below w.heap.size w W → Un W x.a x.c x.b.u) := Lib.hid fun W hW => by rw [hxe]; exact HSU.out.over hW
      have hbX := al_below w2 (.cells #[.int .i64 s.b.n, .int .i64 s.b.lo, .int .i64 H, .slice s.a s.b.u.length s.c] 25)
      have hzX : (w2.alloc (.cells #[.int .i64 s.b.n, .int .i64 s.b.lo, .int .i64 H, .slice s.a s.b.u.length s.c] 25)).heap.size = w2.heap.size + 1 := by simp
      go_wp2_with fail
      generalize (w2.alloc (.cells #[.int .i64 s.b.n, .int .i64 s.b.lo, .int .i64 H, .slice s.a s.b.u.length s.c] 25)) = WX at *
      have en : s.b.n = x.b.n := by rw [hxe]
      have el : s.b.lo = x.b.lo := by rw [hxe]
      have eh : H = x.b.hi := by rw [hxe]
      rw [el] at hH1 hH3 n0 n1
      rw [eh] at hH1 hH3
      have HXS := Lib.hid hxs
      have hx1 : x.b.hi < 4294967296 := (saneB_top hxs.2.1).2.1
      have hWX := h2.trans (hbX.mono h2.size)
      have HEN := Lib.hid en
      have HXX : Hid (∀ W, Below WX.heap.size WX W → W.cell? ⟨w2.heap.size, 0, none⟩ = some (.int .i64 x.b.n) ∧ W.cell? ⟨w2.heap.size, 1, none⟩ = some (.int .i64 x.b.lo) ∧ W.cell? ⟨w2.heap.size, 2, none⟩ = some (.int .i64 x.b.hi) ∧ W.cell? ⟨w2.heap.size, 3, none⟩ = some (.slice x.a x.b.u.length x.c)) := Lib.hid fun W hW => by
        obtain ⟨p0, p1, p2, p3⟩ := hx0.below hW (by omega)
        simp only [Nat.zero_add] at p1 p2 p3
        exact ⟨p0, p1, p2, p3⟩
      clear y0 y1 y2 y3 hsn hxe hbX hxs hmn tm hk0 hk1 el hx0 en
      subst eh
      go_loopw [9, 10] (fun u i wr => ∃ (k : Nat) (out : List Me), (k : Int) ≤ x.b.hi - x.b.lo + 1 ∧ i = .int .i64 (x.b.hi - k) ∧ Hid (pl out = onesB x.b k) ∧ Hid (Utl wr out) ∧ wr.ownsRow WX.heap.size 25 4 u out.length (dvs out) ∧ Below WX.heap.size WX wr) (fun _ i _ => (intOf i - x.b.lo + 1).toNat)
      case atStart => exact ⟨0, [], by omega, by first | rfl | simp, Lib.hid rfl, Lib.hid (fun _ h => by cases h), World.ownsRow_nil _ _ _ _, Below.refl _ _⟩
      case round =>
        obtain ⟨k, out, hk, rfl, HE, HU, hown, hbel⟩ := hrel
        have hsz := hbel.size
        obtain ⟨v, hv⟩ : ∃ v, v = x.b.hi - (k : Int) := ⟨_, rfl⟩
        have HV := Lib.hid hv
        rw [← hv]
        have hkl : out.length = k := by rw [← pl_length, HE.out, onesB_length]
        obtain ⟨y0, y1, y2, y3⟩ := HXX.out _ hbel
        have bkr : Below w.heap.size w wr := (HBX.out _ (hWX.trans (hbel.mono hWX.size))).2.2.1
        by_cases hlt : x.b.lo ≤ v
        · have t0 : decide (x.b.lo ≤ v) = true := decide_eq_true hlt
          have hto : toB x.b x.b.n v = some (goB x.b v) := toB_some.2 ⟨HXS.out, rfl, hlt, by omega, rfl⟩
          have K2 := Lib.hid (DTo_any x x.b.n v wr (hux.out _ bkr))
          rw [hto] at K2
          unfold RetO fv at K2
          dsimp only at K2
          have es : onesB x.b (k + 1) = onesB x.b k ++ [partB x.b v v] := by rw [onesB_succ, ← HV.out]
          have HES := Lib.hid es
          have hv1 : v ≤ x.b.hi := by omega
          have HKL := Lib.hid hkl
          clear hto es hv hkl
          go_wp2_with fail
          refine K2.out.mono ?_
          rintro e w3 ⟨⟨ga, gc, rfl, hut⟩, hb3⟩
          have hown3 := own_belowD hown hb3 (Nat.le_refl _)
          have bk3 := hbel.trans (hb3.mono hsz)
          have hs3 := bk3.size
          clear y0 y1 y2 y3 hown
          obtain ⟨y0, y1, y2, y3⟩ := HXX.out _ bk3
          have HUT := Lib.hid hut
          have HU3 := Lib.hid (HU.out.ik (Ik.of_below hb3))
          have hol : out.length ≤ 64 := by have := HKL.out; omega
          clear hut hb3
          go_wp2_with (at_builtin; refine wpList_append_lies _ rfl _ _ _ rfl WX.heap.size 25 i0 (.agg #[.int .i64 0, .int .i64 0, .int .i64 0, .slice none 0 0]) 4 48 Try.underlying22 hi hz0 hz1 hz2 rfl (by omega) _ _ _ rfl (hown3.alloc _) ⟨w3.heap.size, 0, none⟩ 1 1 (fq ⟨partB x.b v v, ga, gc⟩) rfl rfl (World.news_of_block (heap_alloc_new w3 _)) (by intro u hu; exact dvs_one [⟨partB x.b v v, ga, gc⟩] u (by simpa [dvs] using hu)) (by omega) (by unfold maxLen; omega) (by omega) (by simp; omega) _ rfl ?_; intro g4 cap4 w4 hown4 hgrow hat hgl)
          have hgb : ∀ j, (u9).ownBlock = some j → WX.heap.size ≤ j := fun j e => (own_ltD hown3 e).1
          have hik : Ik w3 w4 := (Ik.of_below (al_below w3 _)).trans (Ik.of_grown hgrow (fun g hg => own_tq (hown3.alloc _) hg))
          have hnext : ∃ (k2 : Nat) (out2 : List Me), (k2 : Int) ≤ x.b.hi - x.b.lo + 1 ∧ x.b.hi - (k2 : Int) = v - 1 ∧ Hid (pl out2 = onesB x.b k2) ∧ Hid (Utl w4 out2) ∧ w4.ownsRow WX.heap.size 25 4 (.slice (some ⟨g4, 0, none⟩) (out.length + 1) cap4) out2.length (dvs out2) ∧ Below WX.heap.size WX w4 := by
            refine ⟨k + 1, out ++ [⟨partB x.b v v, ga, gc⟩], by have := HV.out; omega, by have := HV.out; omega, Lib.hid ?_, Lib.hid ?_, own_fd hown4 (by simp), (bk3.alloc hs3 _).grown hgrow (by simp; omega) hgb⟩
            · rw [pl_append, HE.out, HES.out]
              rfl
            · intro m hm
              rcases List.mem_append.1 hm with hm | hm
              · exact (HU3.out m hm).ik hik
              · rw [List.mem_singleton] at hm
                subst hm
                exact HUT.out.ik hik
          obtain ⟨k2, out2, e1, e2, e3, e4, e5, e6⟩ := hnext
          go_roundw
          case rel => exact ⟨k2, out2, e1, by rw [e2], e3, e4, e5, e6⟩
          case measure => simp [intOf]; omega
        · have t0 : decide (x.b.lo ≤ v) = false := decide_eq_false hlt
          have hkk : (k : Int) = x.b.hi - x.b.lo + 1 := by omega
          have HLA := Lib.hid (onesB_all HXS.out k hkk)
          obtain ⟨Az, cz, ev, _, sdz⟩ := sd_own hown HU.out.ul
          subst ev
          have HSZ := Lib.hid sdz
          have KB : Hid (∀ W, Below wr.heap.size wr W → Calls Try.prog 21 #[.slice Az out.length cz] W fun e w' => ∃ m0 A c, e = .returned (.slice A 1 c) ∧ m0.b = x.b ∧ Sd w' A [m0] ∧ Below W.heap.size W w') := Lib.hid fun W hW => by
            refine (DBuild_any out (by omega) Az cz W (HSZ.out.over hW)).mono ?_
            rintro e w' ⟨m, A, c, rfl, q2, q3, q4, q5, q6, q7, q8⟩
            have em : pl m = [x.b] := q6.one (ct_one HXS.out) fun a b => by rw [q7, HE.out, HLA.out]
            obtain ⟨m0, rfl, em2⟩ := one_of em
            exact ⟨m0, A, c, rfl, em2, q4, q8⟩
          have hlt2 : w2.heap.size < wr.heap.size := by omega
          obtain ⟨⟨z0, z1, z2, z3⟩, ⟨zc0, zc1⟩, _, hlt3⟩ := HBX.out _ (hWX.trans (hbel.mono hWX.size))
          have hlt4 : w.heap.size < wr.heap.size := by omega
          generalize out.length = LO at *
          obtain ⟨y7, hy7⟩ : ∃ y7 : Me, y7 = ⟨⟨s.b.n, 0, 255, [7]⟩, some ⟨wr.heap.size, 0, none⟩, 1⟩ := ⟨_, rfl⟩
          have hy0 := ut_one wr 7
          have hown7 := own_oneF (wr.alloc (.cells #[.int .i64 7] 3)) ⟨⟨s.b.n, 0, 255, [7]⟩, some ⟨wr.heap.size, 0, none⟩, 1⟩ wr.heap.size 25 (by simp)
          rw [show (wr.alloc (.cells #[.int .i64 7] 3)).heap.size = wr.heap.size + 1 by simp] at hown7
          dsimp only [List.length_cons, List.length_nil, Nat.zero_add] at hown7
          have HNW : ∀ ob, (((wr.alloc (.cells #[.int .i64 7] 3)).alloc (.cells #[.int .i64 s.b.n, .int .i64 0, .int .i64 255, .slice (some ⟨wr.heap.size, 0, none⟩) 1 1] 25)).alloc ob).heap[wr.heap.size + 1 + 1]? = some ob := fun ob => by
            have e := heap_alloc_new ((wr.alloc (.cells #[.int .i64 7] 3)).alloc (.cells #[.int .i64 s.b.n, .int .i64 0, .int .i64 255, .slice (some ⟨wr.heap.size, 0, none⟩) 1 1] 25)) ob
            rwa [show ((wr.alloc (.cells #[.int .i64 7] 3)).alloc (.cells #[.int .i64 s.b.n, .int .i64 0, .int .i64 255, .slice (some ⟨wr.heap.size, 0, none⟩) 1 1] 25)).heap.size = wr.heap.size + 1 + 1 by simp] at e
          have hsw : ((wr.alloc (.cells #[.int .i64 7] 3)).alloc (.cells #[.int .i64 s.b.n, .int .i64 0, .int .i64 255, .slice (some ⟨wr.heap.size, 0, none⟩) 1 1] 25)).heap.size = wr.heap.size + 1 + 1 := by simp
          have bk7 : Below wr.heap.size wr ((wr.alloc (.cells #[.int .i64 7] 3)).alloc (.cells #[.int .i64 s.b.n, .int .i64 0, .int .i64 255, .slice (some ⟨wr.heap.size, 0, none⟩) 1 1] 25)) := ((Below.refl _ _).alloc (Nat.le_refl _) _).alloc (by simp) _
          have HT7 : Hid (Tq ((wr.alloc (.cells #[.int .i64 7] 3)).alloc (.cells #[.int .i64 s.b.n, .int .i64 0, .int .i64 255, .slice (some ⟨wr.heap.size, 0, none⟩) 1 1] 25)) (wr.alloc (.cells #[.int .i64 7] 3)).heap.size) := Lib.hid ⟨_, heap_alloc_new _ _⟩
          have HY0 := Lib.hid (hy0.ik (Ik.of_below (al_below (wr.alloc (.cells #[.int .i64 7] 3)) (.cells #[.int .i64 s.b.n, .int .i64 0, .int .i64 255, .slice (some ⟨wr.heap.size, 0, none⟩) 1 1] 25))))
          have HOWN7 := Lib.hid hown7
          have HBK7 := Lib.hid bk7
          have HBEL := Lib.hid (hWX.trans (hbel.mono hWX.size))
          clear hown sdz hkl hv hy0 hown7 bk7
          go_wp2_with (at_builtin; (refine wpList_append_lies _ rfl _ _ _ rfl wr.heap.size 25 i0 (.agg #[.int .i64 0, .int .i64 0, .int .i64 0, .slice none 0 0]) 4 48 Try.underlying22 hi hz0 hz1 hz2 rfl (by omega) _ _ _ rfl (HOWN7.out.alloc _) ⟨wr.heap.size + 1 + 1, 0, none⟩ 1 1 (fq x) rfl rfl (World.news_of_block (HNW _)) (by intro u hu; exact dvs_one [x] u (by simpa [dvs] using hu)) (by omega) (by unfold maxLen; omega) (by omega) (by simp; omega) _ rfl ?_; intro g5 cap5 w5 hown5 hgrow5 hat5 hgl5))
          have k5 : Below wr.heap.size wr w5 := (HBK7.out.alloc HBK7.out.size _).grown hgrow5 (by have := HBK7.out.size; simp; omega) (fun j hj => by
            have hj2 : (Value.slice (some ⟨wr.heap.size + 1, 0, none⟩) 1 1).ownBlock = some j := hj
            have e : wr.heap.size + 1 = j := by simpa [Value.ownBlock] using hj2
            omega)
          have hik5 : Ik ((wr.alloc (.cells #[.int .i64 7] 3)).alloc (.cells #[.int .i64 s.b.n, .int .i64 0, .int .i64 255, .slice (some ⟨wr.heap.size, 0, none⟩) 1 1] 25)) w5 := (Ik.of_below (al_below ((wr.alloc (.cells #[.int .i64 7] 3)).alloc (.cells #[.int .i64 s.b.n, .int .i64 0, .int .i64 255, .slice (some ⟨wr.heap.size, 0, none⟩) 1 1] 25)) _)).trans (Ik.of_grown hgrow5 (fun g hg => own_tq (HOWN7.out.alloc _) hg))
          have bw5 : Below w.heap.size w w5 := (HBX.out _ (HBEL.out.trans (k5.mono HBEL.out.size))).2.2.1
          have ul5 : Ul w5 [⟨⟨s.b.n, 0, 255, [7]⟩, some ⟨wr.heap.size, 0, none⟩, 1⟩, x] := fun m hm => by
            simp only [List.mem_cons, List.not_mem_nil, or_false] at hm
            rcases hm with rfl | rfl
            · exact (HY0.out.ik hik5).un
            · exact hux.out _ bw5
          obtain ⟨A5, c5, e5, _, sd5⟩ := sd_own (d := [⟨⟨s.b.n, 0, 255, [7]⟩, some ⟨wr.heap.size, 0, none⟩, 1⟩, x]) (by simpa [dvs] using hown5) ul5
          injection e5 with e51 _ e53
          subst e51 e53
          have HSD5 := Lib.hid sd5
          have k5x := Lib.hid k5
          have HL2 := Lib.hid hbel
          have H5 := Lib.hid (HBEL.out.trans (k5.mono HBEL.out.size))
          have K5 := Lib.hid k5
          have KB5 : Hid (∀ W, Below w5.heap.size w5 W → Calls Try.prog 21 #[.slice (some ⟨g5, 0, none⟩) 2 cap5] W (BuiltB W [⟨s.b.n, 0, 255, [7]⟩, x.b])) := Lib.hid fun W hW => DBuild_any [⟨⟨s.b.n, 0, 255, [7]⟩, some ⟨wr.heap.size, 0, none⟩, 1⟩, x] (by simp) (some ⟨g5, 0, none⟩) cap5 W (HSD5.out.over hW)
          have KF : Hid (∀ (m : List Me) (A : Option Addr) (c : Nat) (W : World), Sd W A m → Ct (pl m) → (∀ n v, lastB (pl m) n v = lastB [⟨s.b.n, 0, 255, [7]⟩, x.b] n v) → Calls Try.prog 16 #[.slice A m.length c, .agg #[.int .i64 nc, .int .i64 vc]] W fun e w' => ∃ a c u b, e = .returned (.tuple #[.slice a u.length c, .bool b]) ∧ Un w' a c u ∧ (∀ r, toB x.b nc vc = some r → u = r ∧ b = true) ∧ Below W.heap.size W w') := Lib.hid fun m A c W h1 h2 h3 => by
            have hf := h2.few h3
            rw [pl_length] at hf
            simp only [List.length_cons, List.length_nil] at hf
            refine (dFind_any A c m nc vc W h1 (by omega)).mono ?_
            intro e w' hr
            obtain ⟨a, c, u, b, rfl, hu, hb, hun, k⟩ := retO_same hr
            refine ⟨a, c, u, b, rfl, hun, fun r hr => ?_, k⟩
            rw [findB, if_pos h2, h3] at hu hb
            simp only [lastB, Option.none_or, hr, Option.some_or, Option.getD_some, Option.isSome_some] at hu hb
            exact ⟨by simpa using hu, by simpa using hb⟩
          have HHC : Hid (∀ W, Below w5.heap.size w5 W → W.cell? ⟨w.heap.size + 1, 0, none⟩ = some (.int .i64 nc) ∧ W.cell? ⟨w.heap.size + 1, 1, none⟩ = some (.int .i64 vc)) := Lib.hid fun W hW => (HBX.out _ (H5.out.trans (hW.mono H5.out.size))).2.1
          have z0 : Below w5.heap.size w5 w5.drew := (Below.refl _ _).drew
          obtain ⟨zc0, zc1⟩ := HHC.out _ (Below.refl _ _)
          clear y0 y1 y2 y3 hown5 hgrow5 hat5 hgl5 hik5 ul5 sd5 HOWN7 HNW hsw HBK7
          go_region_held3 (fun w' => w'.cell? ⟨w.heap.size + 1, 0, none⟩ = some (.int .i64 nc) ∧ w'.cell? ⟨w.heap.size + 1, 1, none⟩ = some (.int .i64 vc))
            (first | with_reducible exact HHC.out _ z9 | with_reducible exact HHC.out _ z8 | with_reducible exact HHC.out _ z0)
            (first
              | (go_at_call 21; (with_reducible refine (KB5.out _ z0).mono ?_); rintro e x1 ⟨m, A6, c6, rfl, q2, q3, q4, q5, q6, q7, q8⟩; have z8 := z0.trans (q8.mono z0.size))
              | (go_at_call 16; (refine (KF.out m A6 c6 x1 q4 q6 q7).mono ?_); rintro e x2 ⟨a6, c7, v6, b6, rfl, hun6, hr6, k6⟩; have z9 := z8.trans (k6.mono z8.size)))
          all_goals
            have hx2 := HXX.out x2 (HL2.out.trans ((k5x.out.trans (z9.mono k5x.out.size)).mono HL2.out.size))
            have hc2 := HHC.out _ z9
            obtain ⟨y0, y1, y2, y3⟩ := hx2
            obtain ⟨zc0, zc1⟩ := hc2
            have HZ9 := Lib.hid (k5x.out.trans (z9.mono k5x.out.size))
            have HW9 : Hid (Below w.heap.size w x2) := Lib.hid (HBX.out _ (H5.out.trans (z9.mono H5.out.size))).2.2.1
            have K7 := Lib.hid (DTo_any x nc vc x2 (hux.out _ HW9.out))
            have HUN6 := Lib.hid hun6
            have HR6 := Lib.hid hr6
            unfold fv at K7
            clear q2 q3 q4 q5 q6 q7 q8 z0 z8 z9 k6 hun6 hr6 KF KB5
            generalize hto : toB x.b nc vc = TO at *
            go_wp2_with fail
            refine K7.out.mono ?_
            rintro e w7 ⟨h7, k7⟩
            have b7 : Below wr.heap.size wr w7 := HZ9.out.trans (k7.mono HZ9.out.size)
            have HB7 := Lib.hid b7
            have KB7 : Hid (∀ W, Below w7.heap.size w7 W → Calls Try.prog 21 #[.slice Az LO cz] W fun e w' => ∃ m0 A c, e = .returned (.slice A 1 c) ∧ m0.b = x.b ∧ Sd w' A [m0] ∧ Below W.heap.size W w') := Lib.hid fun W hW => KB.out W (HB7.out.trans (hW.mono HB7.out.size))
            have HX7 : Hid (∀ w', Below w7.heap.size w7 w' → w'.cell? ⟨w2.heap.size, 0, none⟩ = some (.int .i64 x.b.n) ∧ w'.cell? ⟨w2.heap.size, 1, none⟩ = some (.int .i64 x.b.lo) ∧ w'.cell? ⟨w2.heap.size, 2, none⟩ = some (.int .i64 x.b.hi) ∧ w'.cell? ⟨w2.heap.size, 3, none⟩ = some (.slice x.a x.b.u.length x.c)) := Lib.hid fun W hW => HXX.out W (HL2.out.trans ((HB7.out.trans (hW.mono HB7.out.size)).mono HL2.out.size))
            have HW7 : Hid (∀ W, Below w7.heap.size w7 W → Below w.heap.size w W) := Lib.hid fun W hW => HW9.out.trans ((k7.trans (hW.mono k7.size)).mono HW9.out.size)
            have HU7 : Hid (∀ W, Below w7.heap.size w7 W → Un W x.a x.c x.b.u) := Lib.hid fun W hW => hux.out _ (HW7.out _ hW)
            have hxl : x.b.u.length ≤ 1000 := by have := HXS.out.2.2.2.1.2.1; omega
            have KS : Hid (∀ (m0 : Me) (A : Option Addr) (ca : Nat) (W : World), m0.b = x.b → Sd W A [m0] → ∀ (B : Option Addr) (cb : Nat), Sd W B [x] → Calls Try.prog 24 #[.slice A 1 ca, .slice B 1 cb] W fun r w' => r = .returned (.bool true) ∧ Below W.heap.size W w') := Lib.hid fun m0 A ca W e h1 B cb h2 => dSame_yes (d1 := [m0]) (d2 := [x]) h1 h2 (by simp [pl, e]) (by simp) (fun m hm => by rw [List.mem_singleton] at hm; rw [hm, e]; exact hxl)
            have z0 : Below w7.heap.size w7 w7.drew := (Below.refl _ _).drew
            have z1 : Below w7.heap.size w7 (w7.alloc (.cells #[.int .i64 x.b.n, .int .i64 x.b.lo, .int .i64 x.b.hi, .slice x.a x.b.u.length x.c] 25)) := al_below w7 _
            have z2 : Below w7.heap.size w7 (w7.alloc (.cells #[.int .i64 x.b.n, .int .i64 x.b.lo, .int .i64 x.b.hi, .slice x.a x.b.u.length x.c] 25)).drew := z1.drew
            have z3 : Below w7.heap.size w7 (w7.drew.alloc (.cells #[.int .i64 x.b.n, .int .i64 x.b.lo, .int .i64 x.b.hi, .slice x.a x.b.u.length x.c] 25)) := z0.alloc z0.size _
            have HK7 := Lib.hid k7
            clear y0 y1 y2 y3 zc0 zc1 b7 k7
            obtain ⟨y0, y1, y2, y3⟩ := HX7.out _ (Below.refl _ _)
            cases TO with
            | none =>
              obtain rfl := h7
              go_wp2_with fail
              refine wp_region_held_drew (S := (fun w' => w'.cell? ⟨w2.heap.size, 0, none⟩ = some (.int .i64 x.b.n) ∧ w'.cell? ⟨w2.heap.size, 1, none⟩ = some (.int .i64 x.b.lo) ∧ w'.cell? ⟨w2.heap.size, 2, none⟩ = some (.int .i64 x.b.hi) ∧ w'.cell? ⟨w2.heap.size, 3, none⟩ = some (.slice x.a x.b.u.length x.c))) (by kernel_rfl) (HX7.out _ (by first | exact z0 | exact Below.refl _ _)) (fun hS0 => ?_)
              try dsimp only at hS0
              refine wpAnyH_take (i := 0) (oi := { dst := some 94, op := Op.move (Operand.tmp 7), type := 4, pos := "law.go:92", after := #[], guard := none }) (v := ?_) rfl (by kernel_rfl) (by kernel_rfl) (by kernel_rfl) (fun _ _ _ h => h) (Or.inl ⟨by rfl, ?_⟩) (by assumption) ?_
              rotate_left
              · intro w' hSw; obtain ⟨y0, y1, y2, y3⟩ := hSw; go_simp; try with_reducible rfl
              simp only [Act.put, List.setIfInBounds_toArray, List.set_cons_zero, List.set_cons_succ]
              refine wpAnyH_take (i := 1) (oi := { dst := some 95, op := Op.move (Operand.tmp 94), type := 4, pos := "law.go:92", after := #[{ on := 0, ground := Ground.data }], guard := none }) (v := ?_) rfl (by kernel_rfl) (by kernel_rfl) (by kernel_rfl) (fun _ _ _ h => h) (Or.inl ⟨by rfl, ?_⟩) (by assumption) ?_
              rotate_left
              · intro w' hSw; obtain ⟨y0, y1, y2, y3⟩ := hSw; go_simp; try with_reducible rfl
              simp only [Act.put, List.setIfInBounds_toArray, List.set_cons_zero, List.set_cons_succ]
              refine wpAnyH_take (i := 2) (oi := { dst := some 96, op := Op.move (Operand.tmp 9), type := 22, pos := "law.go:92", after := #[{ on := 1, ground := Ground.guard }], guard := some (1, true) }) (v := ?_) rfl (by kernel_rfl) (by kernel_rfl) (by kernel_rfl) (fun _ _ _ h => h) (Or.inl ⟨by rfl, ?_⟩) (by assumption) ?_
              rotate_left
              · intro w' hSw; obtain ⟨y0, y1, y2, y3⟩ := hSw; go_simp; try with_reducible rfl
              simp only [Act.put, List.setIfInBounds_toArray, List.set_cons_zero, List.set_cons_succ]
              refine wpAnyH_take (i := 4) (oi := { dst := some 98, op := Op.load 25 (Operand.tmp 8), type := 25, pos := "law.go:92", after := #[{ on := 1, ground := Ground.guard }], guard := some (1, true) }) (v := ?_) rfl (by kernel_rfl) (by kernel_rfl) (by kernel_rfl) (fun _ _ _ h => h) (Or.inl ⟨by rfl, ?_⟩) (by assumption) ?_
              rotate_left
              · intro w' hSw; obtain ⟨y0, y1, y2, y3⟩ := hSw; go_simp; try with_reducible rfl
              simp only [Act.put, List.setIfInBounds_toArray, List.set_cons_zero, List.set_cons_succ]
              refine wpAnyH_ready (rs := [3, 5]) (by kernel_rfl) (by simp) (AllReadyH.cons rfl (fun K hK => ?_) (AllReadyH.cons rfl (fun K hK => ?_) AllReadyH.nil))
              · go_simp
                go_wp2_with ((go_at_call 21; (with_reducible refine (KB7.out _ (by bel)).mono ?_); rintro e x8 ⟨m0, A8, c9, rfl, em0, sd8, q8⟩; have z8 : Below w7.heap.size w7 x8 := (by first | exact z0.trans (q8.mono z0.size) | exact z1.trans (q8.mono z1.size) | exact z2.trans (q8.mono z2.size) | exact z3.trans (q8.mono z3.size))))
                refine hK.out _ _ (by first | with_reducible exact HX7.out _ z9 | with_reducible exact HX7.out _ z8 | with_reducible exact HX7.out _ (z8.alloc z8.size _) | with_reducible exact HX7.out _ (z8.alloc z8.size _).drew | with_reducible exact HX7.out _ z8.drew | with_reducible exact HX7.out _ z1 | with_reducible exact HX7.out _ z2 | with_reducible exact HX7.out _ z3 | with_reducible exact HX7.out _ z0) (fun hS3 => ?_)
                clear hK K
                try dsimp only at hS3
                refine wpAnyH_ready (rs := [5]) (by kernel_rfl) (by simp) (AllReadyH.cons rfl (fun K hK => ?_) AllReadyH.nil)
                go_simp
                go_wp2_with (fail)
                refine hK.out _ _ (by first | with_reducible exact HX7.out _ z9 | with_reducible exact HX7.out _ z8 | with_reducible exact HX7.out _ (z8.alloc z8.size _) | with_reducible exact HX7.out _ (z8.alloc z8.size _).drew | with_reducible exact HX7.out _ z8.drew | with_reducible exact HX7.out _ z1 | with_reducible exact HX7.out _ z2 | with_reducible exact HX7.out _ z3 | with_reducible exact HX7.out _ z0) (fun hS5 => ?_)
                clear hK K
                try dsimp only at hS5
                refine wpAnyH_ready (rs := [6]) (by kernel_rfl) (by simp) (AllReadyH.cons rfl (fun K hK => ?_) AllReadyH.nil)
                go_simp
                go_wp2_with ((go_at_call 24; (refine (KS.out m0 A8 _ _ em0 (by first | exact sd8 | exact sd8.over (by bel)) _ _ (by first | exact sd_one _ x _ (HU7.out _ (by bel)) | exact (sd_one w7.drew x _ (HU7.out _ z0)).over q8 | exact ((sd_one w7 x _ (HU7.out _ (by bel))).over (by bel)).over q8)).mono ?_); rintro e x9 ⟨rfl, hb9⟩; have z9 : Below w7.heap.size w7 x9 := (by first | exact z8.trans (hb9.mono z8.size) | exact (z8.alloc z8.size _).trans (hb9.mono (z8.alloc z8.size _).size))))
                refine hK.out _ _ (by first | with_reducible exact HX7.out _ z9 | with_reducible exact HX7.out _ z8 | with_reducible exact HX7.out _ (z8.alloc z8.size _) | with_reducible exact HX7.out _ (z8.alloc z8.size _).drew | with_reducible exact HX7.out _ z8.drew | with_reducible exact HX7.out _ z1 | with_reducible exact HX7.out _ z2 | with_reducible exact HX7.out _ z3 | with_reducible exact HX7.out _ z0) (fun hS6 => ?_)
                clear hK K
                try dsimp only at hS6
                refine wpAnyH_take (i := 7) (oi := { dst := some 101, op := Op.pick (Operand.tmp 95) (Operand.tmp 100) (Operand.const (Value.bool false)), type := 4, pos := "law.go:92", after := #[{ on := 1, ground := Ground.data }, { on := 6, ground := Ground.data }], guard := none }) (v := ?_) rfl (by kernel_rfl) (by kernel_rfl) (by kernel_rfl) (fun _ _ _ h => h) (Or.inl ⟨by rfl, ?_⟩) (by assumption) ?_
                rotate_left
                · intro w' hSw; obtain ⟨y0, y1, y2, y3⟩ := hSw; go_simp; try with_reducible rfl
                simp only [Act.put, List.setIfInBounds_toArray, List.set_cons_zero, List.set_cons_succ]
                refine wpAnyH_take (i := 8) (oi := { dst := some 102, op := Op.move (Operand.tmp 101), type := 4, pos := "law.go:92", after := #[{ on := 7, ground := Ground.data }, { on := 6, ground := Ground.chain }], guard := none }) (v := ?_) rfl (by kernel_rfl) (by kernel_rfl) (by kernel_rfl) (fun _ _ _ h => h) (Or.inl ⟨by rfl, ?_⟩) (by assumption) ?_
                rotate_left
                · intro w' hSw; obtain ⟨y0, y1, y2, y3⟩ := hSw; go_simp; try with_reducible rfl
                simp only [Act.put, List.setIfInBounds_toArray, List.set_cons_zero, List.set_cons_succ]
                refine wpAnyH_take (i := 9) (oi := { dst := some 103, op := Op.move (Operand.tmp 17), type := 4, pos := "law.go:92", after := #[{ on := 8, ground := Ground.guard }], guard := some (8, true) }) (v := ?_) rfl (by kernel_rfl) (by kernel_rfl) (by kernel_rfl) (fun _ _ _ h => h) (Or.inl ⟨by rfl, ?_⟩) (by assumption) ?_
                rotate_left
                · intro w' hSw; obtain ⟨y0, y1, y2, y3⟩ := hSw; go_simp; try with_reducible rfl
                simp only [Act.put, List.setIfInBounds_toArray, List.set_cons_zero, List.set_cons_succ]
                refine wpAnyH_take (i := 10) (oi := { dst := some 104, op := Op.unOp UnOp.not 4 (Operand.tmp 103), type := 4, pos := "law.go:92", after := #[{ on := 9, ground := Ground.data }, { on := 8, ground := Ground.guard }], guard := some (8, true) }) (v := ?_) rfl (by kernel_rfl) (by kernel_rfl) (by kernel_rfl) (fun _ _ _ h => h) (Or.inl ⟨by rfl, ?_⟩) (by assumption) ?_
                rotate_left
                · intro w' hSw; obtain ⟨y0, y1, y2, y3⟩ := hSw; go_simp; try with_reducible rfl
                simp only [Act.put, List.setIfInBounds_toArray, List.set_cons_zero, List.set_cons_succ]
                refine wpAnyH_take (i := 11) (oi := { dst := some 105, op := Op.move (Operand.tmp 104), type := 4, pos := "law.go:92", after := #[{ on := 10, ground := Ground.data }, { on := 8, ground := Ground.chain }, { on := 8, ground := Ground.guard }], guard := some (8, true) }) (v := ?_) rfl (by kernel_rfl) (by kernel_rfl) (by kernel_rfl) (fun _ _ _ h => h) (Or.inl ⟨by rfl, ?_⟩) (by assumption) ?_
                rotate_left
                · intro w' hSw; obtain ⟨y0, y1, y2, y3⟩ := hSw; go_simp; try with_reducible rfl
                simp only [Act.put, List.setIfInBounds_toArray, List.set_cons_zero, List.set_cons_succ]
                refine wpAnyH_take (i := 12) (oi := { dst := some 106, op := Op.move (Operand.tmp 15), type := 4, pos := "law.go:92", after := #[{ on := 11, ground := Ground.guard }], guard := some (11, false) }) (v := undef) rfl (by kernel_rfl) (by kernel_rfl) (by kernel_rfl) (fun _ _ _ h => h) (Or.inr ⟨by rfl, rfl⟩) (by assumption) ?_
                simp only [Act.put, List.setIfInBounds_toArray, List.set_cons_zero, List.set_cons_succ]
                refine wpAnyH_take (i := 13) (oi := { dst := some 107, op := Op.move (Operand.tmp 106), type := 4, pos := "law.go:92", after := #[{ on := 12, ground := Ground.data }, { on := 11, ground := Ground.chain }, { on := 11, ground := Ground.guard }], guard := some (11, false) }) (v := undef) rfl (by kernel_rfl) (by kernel_rfl) (by kernel_rfl) (fun _ _ _ h => h) (Or.inr ⟨by rfl, rfl⟩) (by assumption) ?_
                simp only [Act.put, List.setIfInBounds_toArray, List.set_cons_zero, List.set_cons_succ]
                refine wpAnyH_take (i := 14) (oi := { dst := some 108, op := Op.move (Operand.tmp 14), type := 23, pos := "law.go:92", after := #[{ on := 13, ground := Ground.guard }], guard := some (13, true) }) (v := undef) rfl (by kernel_rfl) (by kernel_rfl) (by kernel_rfl) (fun _ _ _ h => h) (Or.inr ⟨by rfl, rfl⟩) (by assumption) ?_
                simp only [Act.put, List.setIfInBounds_toArray, List.set_cons_zero, List.set_cons_succ]
                refine wpAnyH_take (i := 15) (oi := { dst := some 109, op := Op.move (Operand.tmp 16), type := 23, pos := "law.go:92", after := #[{ on := 13, ground := Ground.guard }], guard := some (13, true) }) (v := undef) rfl (by kernel_rfl) (by kernel_rfl) (by kernel_rfl) (fun _ _ _ h => h) (Or.inr ⟨by rfl, rfl⟩) (by assumption) ?_
                simp only [Act.put, List.setIfInBounds_toArray, List.set_cons_zero, List.set_cons_succ]
                refine wpAnyH_take (i := 16) (oi := { dst := some 110, op := Op.call { callee := Callee.value (Operand.func 18), args := #[Operand.tmp 108, Operand.tmp 109], argTypes := #[23, 23] }, type := 4, pos := "law.go:92", after := #[{ on := 14, ground := Ground.data }, { on := 15, ground := Ground.data }, { on := 13, ground := Ground.chain }, { on := 13, ground := Ground.guard }], guard := some (13, true) }) (v := undef) rfl (by kernel_rfl) (by kernel_rfl) (by kernel_rfl) (fun _ _ _ h => h) (Or.inr ⟨by rfl, rfl⟩) (by assumption) ?_
                simp only [Act.put, List.setIfInBounds_toArray, List.set_cons_zero, List.set_cons_succ]
                refine wpAnyH_take (i := 17) (oi := { dst := some 111, op := Op.pick (Operand.tmp 107) (Operand.tmp 110) (Operand.const (Value.bool false)), type := 4, pos := "law.go:92", after := #[{ on := 13, ground := Ground.data }, { on := 16, ground := Ground.data }, { on := 11, ground := Ground.guard }], guard := some (11, false) }) (v := undef) rfl (by kernel_rfl) (by kernel_rfl) (by kernel_rfl) (fun _ _ _ h => h) (Or.inr ⟨by rfl, rfl⟩) (by assumption) ?_
                simp only [Act.put, List.setIfInBounds_toArray, List.set_cons_zero, List.set_cons_succ]
                refine wpAnyH_take (i := 18) (oi := { dst := some 112, op := Op.pick (Operand.tmp 105) (Operand.const (Value.bool true)) (Operand.tmp 111), type := 4, pos := "law.go:92", after := #[{ on := 11, ground := Ground.data }, { on := 17, ground := Ground.data }, { on := 8, ground := Ground.guard }], guard := some (8, true) }) (v := ?_) rfl (by kernel_rfl) (by kernel_rfl) (by kernel_rfl) (fun _ _ _ h => h) (Or.inl ⟨by rfl, ?_⟩) (by assumption) ?_
                rotate_left
                · intro w' hSw; obtain ⟨y0, y1, y2, y3⟩ := hSw; go_simp; try with_reducible rfl
                simp only [Act.put, List.setIfInBounds_toArray, List.set_cons_zero, List.set_cons_succ]
                refine wpAnyH_take (i := 19) (oi := { dst := some 113, op := Op.pick (Operand.tmp 102) (Operand.tmp 112) (Operand.const (Value.bool false)), type := 4, pos := "law.go:92", after := #[{ on := 8, ground := Ground.data }, { on := 18, ground := Ground.data }], guard := none }) (v := ?_) rfl (by kernel_rfl) (by kernel_rfl) (by kernel_rfl) (fun _ _ _ h => h) (Or.inl ⟨by rfl, ?_⟩) (by assumption) ?_
                rotate_left
                · intro w' hSw; obtain ⟨y0, y1, y2, y3⟩ := hSw; go_simp; try with_reducible rfl
                simp only [Act.put, List.setIfInBounds_toArray, List.set_cons_zero, List.set_cons_succ]
                refine wpAnyH_take (i := 20) (oi := { dst := some 6, op := Op.assign (Operand.tmp 113), type := 4, pos := "law.go:92", after := #[{ on := 19, ground := Ground.data }, { on := 16, ground := Ground.chain }, { on := 0, ground := Ground.phase }, { on := 1, ground := Ground.phase }, { on := 2, ground := Ground.phase }, { on := 3, ground := Ground.phase }, { on := 4, ground := Ground.phase }, { on := 5, ground := Ground.phase }, { on := 6, ground := Ground.phase }, { on := 7, ground := Ground.phase }, { on := 8, ground := Ground.phase }, { on := 9, ground := Ground.phase }, { on := 10, ground := Ground.phase }, { on := 11, ground := Ground.phase }, { on := 12, ground := Ground.phase }, { on := 13, ground := Ground.phase }, { on := 14, ground := Ground.phase }, { on := 15, ground := Ground.phase }, { on := 16, ground := Ground.phase }, { on := 17, ground := Ground.phase }, { on := 18, ground := Ground.phase }, { on := 19, ground := Ground.phase }], guard := none }) (v := ?_) rfl (by kernel_rfl) (by kernel_rfl) (by kernel_rfl) (fun _ _ _ h => h) (Or.inl ⟨by rfl, ?_⟩) (by assumption) ?_
                rotate_left
                · intro w' hSw; obtain ⟨y0, y1, y2, y3⟩ := hSw; go_simp; try with_reducible rfl
                simp only [Act.put, List.setIfInBounds_toArray, List.set_cons_zero, List.set_cons_succ]
                refine wpAnyH_done (by kernel_rfl) ?_ _
                go_wp2
                go_ret
                exact ⟨rfl, HW7.out _ z9⟩
              · go_simp
                go_wp2_with (fail)
                refine hK.out _ _ (by first | with_reducible exact HX7.out _ z9 | with_reducible exact HX7.out _ z8 | with_reducible exact HX7.out _ (z8.alloc z8.size _) | with_reducible exact HX7.out _ (z8.alloc z8.size _).drew | with_reducible exact HX7.out _ z8.drew | with_reducible exact HX7.out _ z1 | with_reducible exact HX7.out _ z2 | with_reducible exact HX7.out _ z3 | with_reducible exact HX7.out _ z0) (fun hS5 => ?_)
                clear hK K
                try dsimp only at hS5
                refine wpAnyH_ready (rs := [3]) (by kernel_rfl) (by simp) (AllReadyH.cons rfl (fun K hK => ?_) AllReadyH.nil)
                go_simp
                go_wp2_with ((go_at_call 21; (with_reducible refine (KB7.out _ (by bel)).mono ?_); rintro e x8 ⟨m0, A8, c9, rfl, em0, sd8, q8⟩; have z8 : Below w7.heap.size w7 x8 := (by first | exact z0.trans (q8.mono z0.size) | exact z1.trans (q8.mono z1.size) | exact z2.trans (q8.mono z2.size) | exact z3.trans (q8.mono z3.size))))
                refine hK.out _ _ (by first | with_reducible exact HX7.out _ z9 | with_reducible exact HX7.out _ z8 | with_reducible exact HX7.out _ (z8.alloc z8.size _) | with_reducible exact HX7.out _ (z8.alloc z8.size _).drew | with_reducible exact HX7.out _ z8.drew | with_reducible exact HX7.out _ z1 | with_reducible exact HX7.out _ z2 | with_reducible exact HX7.out _ z3 | with_reducible exact HX7.out _ z0) (fun hS3 => ?_)
                clear hK K
                try dsimp only at hS3
                refine wpAnyH_ready (rs := [6]) (by kernel_rfl) (by simp) (AllReadyH.cons rfl (fun K hK => ?_) AllReadyH.nil)
                go_simp
                go_wp2_with ((go_at_call 24; (refine (KS.out m0 A8 _ _ em0 (by first | exact sd8 | exact sd8.over (by bel)) _ _ (by first | exact sd_one _ x _ (HU7.out _ (by bel)) | exact (sd_one w7.drew x _ (HU7.out _ z0)).over q8 | exact ((sd_one w7 x _ (HU7.out _ (by bel))).over (by bel)).over q8)).mono ?_); rintro e x9 ⟨rfl, hb9⟩; have z9 : Below w7.heap.size w7 x9 := (by first | exact z8.trans (hb9.mono z8.size) | exact (z8.alloc z8.size _).trans (hb9.mono (z8.alloc z8.size _).size))))
                refine hK.out _ _ (by first | with_reducible exact HX7.out _ z9 | with_reducible exact HX7.out _ z8 | with_reducible exact HX7.out _ (z8.alloc z8.size _) | with_reducible exact HX7.out _ (z8.alloc z8.size _).drew | with_reducible exact HX7.out _ z8.drew | with_reducible exact HX7.out _ z1 | with_reducible exact HX7.out _ z2 | with_reducible exact HX7.out _ z3 | with_reducible exact HX7.out _ z0) (fun hS6 => ?_)
                clear hK K
                try dsimp only at hS6
                refine wpAnyH_take (i := 7) (oi := { dst := some 101, op := Op.pick (Operand.tmp 95) (Operand.tmp 100) (Operand.const (Value.bool false)), type := 4, pos := "law.go:92", after := #[{ on := 1, ground := Ground.data }, { on := 6, ground := Ground.data }], guard := none }) (v := ?_) rfl (by kernel_rfl) (by kernel_rfl) (by kernel_rfl) (fun _ _ _ h => h) (Or.inl ⟨by rfl, ?_⟩) (by assumption) ?_
                rotate_left
                · intro w' hSw; obtain ⟨y0, y1, y2, y3⟩ := hSw; go_simp; try with_reducible rfl
                simp only [Act.put, List.setIfInBounds_toArray, List.set_cons_zero, List.set_cons_succ]
                refine wpAnyH_take (i := 8) (oi := { dst := some 102, op := Op.move (Operand.tmp 101), type := 4, pos := "law.go:92", after := #[{ on := 7, ground := Ground.data }, { on := 6, ground := Ground.chain }], guard := none }) (v := ?_) rfl (by kernel_rfl) (by kernel_rfl) (by kernel_rfl) (fun _ _ _ h => h) (Or.inl ⟨by rfl, ?_⟩) (by assumption) ?_
                rotate_left
                · intro w' hSw; obtain ⟨y0, y1, y2, y3⟩ := hSw; go_simp; try with_reducible rfl
                simp only [Act.put, List.setIfInBounds_toArray, List.set_cons_zero, List.set_cons_succ]
                refine wpAnyH_take (i := 9) (oi := { dst := some 103, op := Op.move (Operand.tmp 17), type := 4, pos := "law.go:92", after := #[{ on := 8, ground := Ground.guard }], guard := some (8, true) }) (v := ?_) rfl (by kernel_rfl) (by kernel_rfl) (by kernel_rfl) (fun _ _ _ h => h) (Or.inl ⟨by rfl, ?_⟩) (by assumption) ?_
                rotate_left
                · intro w' hSw; obtain ⟨y0, y1, y2, y3⟩ := hSw; go_simp; try with_reducible rfl
                simp only [Act.put, List.setIfInBounds_toArray, List.set_cons_zero, List.set_cons_succ]
                refine wpAnyH_take (i := 10) (oi := { dst := some 104, op := Op.unOp UnOp.not 4 (Operand.tmp 103), type := 4, pos := "law.go:92", after := #[{ on := 9, ground := Ground.data }, { on := 8, ground := Ground.guard }], guard := some (8, true) }) (v := ?_) rfl (by kernel_rfl) (by kernel_rfl) (by kernel_rfl) (fun _ _ _ h => h) (Or.inl ⟨by rfl, ?_⟩) (by assumption) ?_
                rotate_left
                · intro w' hSw; obtain ⟨y0, y1, y2, y3⟩ := hSw; go_simp; try with_reducible rfl
                simp only [Act.put, List.setIfInBounds_toArray, List.set_cons_zero, List.set_cons_succ]
                refine wpAnyH_take (i := 11) (oi := { dst := some 105, op := Op.move (Operand.tmp 104), type := 4, pos := "law.go:92", after := #[{ on := 10, ground := Ground.data }, { on := 8, ground := Ground.chain }, { on := 8, ground := Ground.guard }], guard := some (8, true) }) (v := ?_) rfl (by kernel_rfl) (by kernel_rfl) (by kernel_rfl) (fun _ _ _ h => h) (Or.inl ⟨by rfl, ?_⟩) (by assumption) ?_
                rotate_left
                · intro w' hSw; obtain ⟨y0, y1, y2, y3⟩ := hSw; go_simp; try with_reducible rfl
                simp only [Act.put, List.setIfInBounds_toArray, List.set_cons_zero, List.set_cons_succ]
                refine wpAnyH_take (i := 12) (oi := { dst := some 106, op := Op.move (Operand.tmp 15), type := 4, pos := "law.go:92", after := #[{ on := 11, ground := Ground.guard }], guard := some (11, false) }) (v := undef) rfl (by kernel_rfl) (by kernel_rfl) (by kernel_rfl) (fun _ _ _ h => h) (Or.inr ⟨by rfl, rfl⟩) (by assumption) ?_
                simp only [Act.put, List.setIfInBounds_toArray, List.set_cons_zero, List.set_cons_succ]
                refine wpAnyH_take (i := 13) (oi := { dst := some 107, op := Op.move (Operand.tmp 106), type := 4, pos := "law.go:92", after := #[{ on := 12, ground := Ground.data }, { on := 11, ground := Ground.chain }, { on := 11, ground := Ground.guard }], guard := some (11, false) }) (v := undef) rfl (by kernel_rfl) (by kernel_rfl) (by kernel_rfl) (fun _ _ _ h => h) (Or.inr ⟨by rfl, rfl⟩) (by assumption) ?_
                simp only [Act.put, List.setIfInBounds_toArray, List.set_cons_zero, List.set_cons_succ]
                refine wpAnyH_take (i := 14) (oi := { dst := some 108, op := Op.move (Operand.tmp 14), type := 23, pos := "law.go:92", after := #[{ on := 13, ground := Ground.guard }], guard := some (13, true) }) (v := undef) rfl (by kernel_rfl) (by kernel_rfl) (by kernel_rfl) (fun _ _ _ h => h) (Or.inr ⟨by rfl, rfl⟩) (by assumption) ?_
                simp only [Act.put, List.setIfInBounds_toArray, List.set_cons_zero, List.set_cons_succ]
                refine wpAnyH_take (i := 15) (oi := { dst := some 109, op := Op.move (Operand.tmp 16), type := 23, pos := "law.go:92", after := #[{ on := 13, ground := Ground.guard }], guard := some (13, true) }) (v := undef) rfl (by kernel_rfl) (by kernel_rfl) (by kernel_rfl) (fun _ _ _ h => h) (Or.inr ⟨by rfl, rfl⟩) (by assumption) ?_
                simp only [Act.put, List.setIfInBounds_toArray, List.set_cons_zero, List.set_cons_succ]
                refine wpAnyH_take (i := 16) (oi := { dst := some 110, op := Op.call { callee := Callee.value (Operand.func 18), args := #[Operand.tmp 108, Operand.tmp 109], argTypes := #[23, 23] }, type := 4, pos := "law.go:92", after := #[{ on := 14, ground := Ground.data }, { on := 15, ground := Ground.data }, { on := 13, ground := Ground.chain }, { on := 13, ground := Ground.guard }], guard := some (13, true) }) (v := undef) rfl (by kernel_rfl) (by kernel_rfl) (by kernel_rfl) (fun _ _ _ h => h) (Or.inr ⟨by rfl, rfl⟩) (by assumption) ?_
                simp only [Act.put, List.setIfInBounds_toArray, List.set_cons_zero, List.set_cons_succ]
                refine wpAnyH_take (i := 17) (oi := { dst := some 111, op := Op.pick (Operand.tmp 107) (Operand.tmp 110) (Operand.const (Value.bool false)), type := 4, pos := "law.go:92", after := #[{ on := 13, ground := Ground.data }, { on := 16, ground := Ground.data }, { on := 11, ground := Ground.guard }], guard := some (11, false) }) (v := undef) rfl (by kernel_rfl) (by kernel_rfl) (by kernel_rfl) (fun _ _ _ h => h) (Or.inr ⟨by rfl, rfl⟩) (by assumption) ?_
                simp only [Act.put, List.setIfInBounds_toArray, List.set_cons_zero, List.set_cons_succ]
                refine wpAnyH_take (i := 18) (oi := { dst := some 112, op := Op.pick (Operand.tmp 105) (Operand.const (Value.bool true)) (Operand.tmp 111), type := 4, pos := "law.go:92", after := #[{ on := 11, ground := Ground.data }, { on := 17, ground := Ground.data }, { on := 8, ground := Ground.guard }], guard := some (8, true) }) (v := ?_) rfl (by kernel_rfl) (by kernel_rfl) (by kernel_rfl) (fun _ _ _ h => h) (Or.inl ⟨by rfl, ?_⟩) (by assumption) ?_
                rotate_left
                · intro w' hSw; obtain ⟨y0, y1, y2, y3⟩ := hSw; go_simp; try with_reducible rfl
                simp only [Act.put, List.setIfInBounds_toArray, List.set_cons_zero, List.set_cons_succ]
                refine wpAnyH_take (i := 19) (oi := { dst := some 113, op := Op.pick (Operand.tmp 102) (Operand.tmp 112) (Operand.const (Value.bool false)), type := 4, pos := "law.go:92", after := #[{ on := 8, ground := Ground.data }, { on := 18, ground := Ground.data }], guard := none }) (v := ?_) rfl (by kernel_rfl) (by kernel_rfl) (by kernel_rfl) (fun _ _ _ h => h) (Or.inl ⟨by rfl, ?_⟩) (by assumption) ?_
                rotate_left
                · intro w' hSw; obtain ⟨y0, y1, y2, y3⟩ := hSw; go_simp; try with_reducible rfl
                simp only [Act.put, List.setIfInBounds_toArray, List.set_cons_zero, List.set_cons_succ]
                refine wpAnyH_take (i := 20) (oi := { dst := some 6, op := Op.assign (Operand.tmp 113), type := 4, pos := "law.go:92", after := #[{ on := 19, ground := Ground.data }, { on := 16, ground := Ground.chain }, { on := 0, ground := Ground.phase }, { on := 1, ground := Ground.phase }, { on := 2, ground := Ground.phase }, { on := 3, ground := Ground.phase }, { on := 4, ground := Ground.phase }, { on := 5, ground := Ground.phase }, { on := 6, ground := Ground.phase }, { on := 7, ground := Ground.phase }, { on := 8, ground := Ground.phase }, { on := 9, ground := Ground.phase }, { on := 10, ground := Ground.phase }, { on := 11, ground := Ground.phase }, { on := 12, ground := Ground.phase }, { on := 13, ground := Ground.phase }, { on := 14, ground := Ground.phase }, { on := 15, ground := Ground.phase }, { on := 16, ground := Ground.phase }, { on := 17, ground := Ground.phase }, { on := 18, ground := Ground.phase }, { on := 19, ground := Ground.phase }], guard := none }) (v := ?_) rfl (by kernel_rfl) (by kernel_rfl) (by kernel_rfl) (fun _ _ _ h => h) (Or.inl ⟨by rfl, ?_⟩) (by assumption) ?_
                rotate_left
                · intro w' hSw; obtain ⟨y0, y1, y2, y3⟩ := hSw; go_simp; try with_reducible rfl
                simp only [Act.put, List.setIfInBounds_toArray, List.set_cons_zero, List.set_cons_succ]
                refine wpAnyH_done (by kernel_rfl) ?_ _
                go_wp2
                go_ret
                exact ⟨rfl, HW7.out _ z9⟩
            | some r =>
              obtain ⟨a7, c8, rfl, hut7⟩ := h7
              obtain ⟨rfl, rfl⟩ := HR6.out r rfl
              have hrl : v6.length ≤ 1000 := by
                obtain ⟨_, _, _, _, e⟩ := toB_some.1 hto
                first
                | (rw [e, goB_len]; exact hxl)
                | (rw [← e, goB_len]; exact hxl)
              have HUT7 := Lib.hid hut7.un
              have K02 : Hid (∀ W, Below w7.heap.size w7 W → Calls Try.prog 18 #[.slice a6 v6.length c7, .slice a7 v6.length c8] W fun e w' => e = .returned (.bool true) ∧ ∃ q, w' = W.drewN q) := Lib.hid fun W hW => by
                have := iSame_any a6 a7 c7 c8 v6.length v6.length v6 v6 W rfl rfl (by omega) (by omega) (((HUN6.out.over HK7.out).over hW).si) ((HUT7.out.over hW).si)
                rwa [decide_eq_true rfl] at this
              clear hut7 hto HR6
              go_wp2_with fail
              go_region_held3 (fun w' => w'.cell? ⟨w2.heap.size, 0, none⟩ = some (.int .i64 x.b.n) ∧ w'.cell? ⟨w2.heap.size, 1, none⟩ = some (.int .i64 x.b.lo) ∧ w'.cell? ⟨w2.heap.size, 2, none⟩ = some (.int .i64 x.b.hi) ∧ w'.cell? ⟨w2.heap.size, 3, none⟩ = some (.slice x.a x.b.u.length x.c))
                (first | with_reducible exact HX7.out _ zA | with_reducible exact HX7.out _ z9 | with_reducible exact HX7.out _ z8 | with_reducible exact HX7.out _ (z8.alloc z8.size _) | with_reducible exact HX7.out _ (z8.alloc z8.size _).drew | with_reducible exact HX7.out _ z8.drew | with_reducible exact HX7.out _ (z8.drew.alloc z8.drew.size _) | with_reducible exact HX7.out _ z1 | with_reducible exact HX7.out _ z2 | with_reducible exact HX7.out _ z3 | with_reducible exact HX7.out _ z0)
                (first
                  | (go_at_call 21; (with_reducible refine (KB7.out _ (by bel)).mono ?_); rintro e x8 ⟨m0, A8, c9, rfl, em0, sd8, q8⟩; have z8 : Below w7.heap.size w7 x8 := (by first | exact z0.trans (q8.mono z0.size) | exact z1.trans (q8.mono z1.size) | exact z2.trans (q8.mono z2.size) | exact z3.trans (q8.mono z3.size)))
                  | (go_at_call 24; (refine (KS.out m0 A8 _ _ em0 (by first | exact sd8 | exact sd8.over (by bel)) _ _ (by first | exact sd_one _ x _ (HU7.out _ (by bel)) | exact (sd_one _ x _ (HU7.out _ (by bel))).over (by bel) | exact (sd_one w7.drew x _ (HU7.out _ z0)).over q8 | exact ((sd_one w7 x _ (HU7.out _ (by bel))).over (by bel)).over q8)).mono ?_); rintro e x9 ⟨rfl, hb9⟩; have z9 : Below w7.heap.size w7 x9 := (by first | exact z8.trans (hb9.mono z8.size) | exact (z8.alloc z8.size _).trans (hb9.mono (z8.alloc z8.size _).size) | exact (z8.alloc z8.size _).drew.trans (hb9.mono (z8.alloc z8.size _).drew.size) | exact (z8.drew.alloc z8.drew.size _).trans (hb9.mono (z8.drew.alloc z8.drew.size _).size)))
                  | (go_at_call 18; (refine (K02.out _ z9).mono ?_); rintro e xA ⟨rfl, qA, rfl⟩; have zA := below_drewN z9 qA))
              all_goals
                go_wp2
                go_ret
                exact ⟨rfl, HW7.out _ zA⟩
    · rw [decide_eq_false hsn] at K1
      clear hsn h70
      go_wp2_with fail
      refine (K1.out _ bk1).mono ?_
      rintro e w2 ⟨rfl, hb2⟩
      go_wp2
      go_ret
      exact ⟨rfl, bk1.trans (hb2.mono bk1.size)⟩
end Go.Proofs.Ytpcaipifppnfdaa
