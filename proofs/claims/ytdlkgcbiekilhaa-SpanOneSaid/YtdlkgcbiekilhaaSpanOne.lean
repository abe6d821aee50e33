/-
  The walk of the statement SpanOne.
-/
import Derived.Test.YtdlkgcbiekilhaaSpanAwake
import Derived.Test.YtdlkgcbiekilhaaSpanBuild
namespace Go.Proofs.Ytdlkgcbiekilhaa
open Go.RowKit
attribute [local go_sem ↓] Go.wp_at_zero Go.wp_at_succ

theorem i64_mask6s (n : Int) : bits .and .i64 n 63 = n % 64 := by
  have h127 : (BitVec.ofInt 64 63).toNat = 2 ^ 6 - 1 := by decide
  have key : (BitVec.ofInt 64 n &&& BitVec.ofInt 64 63).toNat = (n % ((2 ^ 64 : Nat) : Int)).toNat % 2 ^ 6 := by
    rw [BitVec.toNat_and, BitVec.toNat_ofInt, h127, Nat.and_two_pow_sub_one_eq_mod]
  show IntKind.i64.wrap ((BitVec.ofInt 64 n &&& BitVec.ofInt 64 63).toNat : Nat) = n % 64
  rw [key, IntKind.wrap_i64]
  omega
/-- Code by code, from the last one. -/
def ones (st : Bool) (x : Sp) (k : Nat) : List Sp := (List.range k).map fun (i : Nat) => partS st x (x.hi - i) (x.hi - i)
theorem ones_succ (st : Bool) (x : Sp) (k : Nat) : ones st x (k + 1) = ones st x k ++ [partS st x (x.hi - k) (x.hi - k)] := by simp [ones, List.range_succ]
theorem ones_length (st : Bool) (x : Sp) (k : Nat) : (ones st x k).length = k := by simp [ones]
theorem ones_last {st : Bool} {x : Sp} (hx : Sn st x) (n v : Int) : ∀ k : Nat, (k : Int) ≤ x.hi - x.lo + 1 → lastS st (ones st x k) n v = if n = x.n ∧ x.hi - k < v ∧ v ≤ x.hi then some (goesS st x v) else none
  | 0, _ => by
    rw [if_neg (by omega)]
    rfl
  | k + 1, hk => by
    have ih := ones_last hx n v k (by omega)
    have hp := part_sn hx (lo := x.hi - k) (hi := x.hi - k) (by omega) (Int.le_refl _) (by omega)
    rw [ones_succ, lastS_append, ih]
    simp only [lastS, Option.none_or]
    by_cases h1 : n = x.n ∧ v = x.hi - k
    · rw [toS_some.2 ⟨hp, h1.1, (show x.hi - k ≤ v by omega), (show v ≤ x.hi - k by omega), rfl⟩, if_neg (show ¬ (n = x.n ∧ x.hi - (k : Int) < v ∧ v ≤ x.hi) by omega), if_pos (show n = x.n ∧ x.hi - ((k + 1 : Nat) : Int) < v ∧ v ≤ x.hi from ⟨h1.1, by omega, by omega⟩), part_goes]
      rfl
    · rw [toS_none (s := partS st x (x.hi - k) (x.hi - k)) (fun q => h1 ⟨q.1, by have h2 : x.hi - k ≤ v := q.2.1; have h3 : v ≤ x.hi - k := q.2.2; omega⟩), Option.none_or]
      by_cases h2 : n = x.n ∧ x.hi - k < v ∧ v ≤ x.hi
      · rw [if_pos h2, if_pos ⟨h2.1, by omega, h2.2.2⟩]
      · rw [if_neg h2, if_neg (by omega)]
theorem cn_one {st : Bool} {x : Sp} (hx : Sn st x) : Cn st [x] := ⟨fun s hs => by rw [List.mem_singleton] at hs; rw [hs]; exact hx, List.pairwise_singleton _ _⟩
theorem ones_all {st : Bool} {x : Sp} (hx : Sn st x) (k : Nat) (hk : (k : Int) = x.hi - x.lo + 1) (n v : Int) : lastS st (ones st x k) n v = lastS st [x] n v := by
  rw [ones_last hx n v k (by omega)]
  simp only [lastS, Option.none_or]
  by_cases h : n = x.n ∧ x.hi - k < v ∧ v ≤ x.hi
  · rw [if_pos h, toS_some.2 ⟨hx, h.1, by omega, h.2.2, rfl⟩]
  · rw [if_neg h, toS_none (s := x) (by omega)]
theorem own_lt1 {w : World} {base : Nat} {e : TypeId} {v : Value} {n g size : Nat} {xs : List Value} (h : w.ownsRow base e size v n xs) (hg : v.ownBlock = some g) : base ≤ g := (own_lt h hg).1
/-- One span in a new block. -/
theorem ss_one (W : World) (x : Sp) (t : TypeId) : Ss (W.alloc (.cells #[.int .i64 x.n, .int .i64 x.lo, .int .i64 x.hi, .int .i64 x.to] t)) (W.alloc (.cells #[.int .i64 x.n, .int .i64 x.lo, .int .i64 x.hi, .int .i64 x.to] t)).heap.size (some ⟨W.heap.size, 0, none⟩) [x] := fun _ => by
  refine ⟨W.heap.size, 0, rfl, by simp, fun j z hz => ?_⟩
  cases j with
  | zero => cases hz; exact Bs.new W _ t
  | succ j => simp at hz
set_option maxRecDepth 100000 in
set_option maxHeartbeats 8000000 in
theorem one_walk (s : Sp) (n : Int) (st : Bool) (w : World) :
    Calls Try.prog 6 #[sv s, .int .i64 n, .bool st] w fun e w' => e = .returned (.bool true) ∧ Below w.heap.size w w' := by
  obtain ⟨i0, hi, hz0, hz1, hz2⟩ := info_parts infoS
  have hs0 := Bs.new w s 24
  have hb0 : Below w.heap.size w (w.alloc (.cells #[.int .i64 s.n, .int .i64 s.lo, .int .i64 s.hi, .int .i64 s.to] 24)) := (Below.refl _ _).alloc (Nat.le_refl _) _
  have hzz : w.heap.size < (w.alloc (.cells #[.int .i64 s.n, .int .i64 s.lo, .int .i64 s.hi, .int .i64 s.to] 24)).heap.size := by simp
  have K1 := Lib.hid (fun W => SSane_any st s W)
  unfold sv at K1 ⊢
  go_enter Try.func6, Try.ntmps6
  go_wp2_with fail
  refine (awake_any _).mono ?_
  rintro e w1 ⟨rfl, hb1⟩
  have bk1 := hb0.trans (hb1.mono (Nat.le_of_lt hzz))
  have s1 := hs0.below hb1 hzz
  have z1 := Nat.lt_of_lt_of_le hzz hb1.size
  clear hs0 hb0 hzz hb1
  obtain ⟨y0, y1, y2, y3⟩ := id s1
  simp only [Nat.zero_add] at y1 y2 y3
  by_cases hsn : Sn st s
  · rw [decide_eq_true hsn] at K1
    have HSN := Lib.hid hsn
    go_wp2_with fail
    refine (K1.out _).mono ?_
    rintro e w2 ⟨rfl, hb2⟩
    have bk2 := bk1.trans (hb2.mono bk1.size)
    have s2 := s1.below hb2 z1
    have z2 := Nat.lt_of_lt_of_le z1 hb2.size
    clear y0 y1 y2 y3 s1 hb2
    obtain ⟨y0, y1, y2, y3⟩ := id s2
    simp only [Nat.zero_add] at y1 y2 y3
    have hlo := hsn.2.2.1
    obtain ⟨n0, n1, n2, n3, n4, n5⟩ := hsn.nr
    have tm : bits .and .i64 n 63 = n % 64 := i64_mask6s n
    generalize hm : n % 64 = kk at *
    have hk0 : 0 ≤ kk ∧ kk < 64 := by omega
    obtain ⟨hk0, hk1⟩ := hk0
    obtain ⟨H, hH⟩ : ∃ H : Int, H = if s.lo + kk < s.hi then s.lo + kk else s.hi := ⟨_, rfl⟩
    have hH1 : s.lo ≤ H ∧ H ≤ s.hi ∧ H ≤ s.lo + 63 := by rw [hH]; split <;> omega
    obtain ⟨hH1, hH2, hH3⟩ := hH1
    have hmn : ∀ ts t wx, (Builtin.min_ ts t #[.int .i64 s.hi, .int .i64 (s.lo + kk)]).run Try.prog wx = .ok (.int .i64 H) wx := fun ts t wx => by rw [run_min_int2, ← hH]
    clear hH hm
    have hx0 := Bs.new w2 ⟨s.n, s.lo, H, s.to⟩ 24
    have hbX : Below w2.heap.size w2 (w2.alloc (.cells #[.int .i64 s.n, .int .i64 s.lo, .int .i64 H, .int .i64 s.to] 24)) := (Below.refl _ _).alloc (Nat.le_refl _) _
    have hzX : (w2.alloc (.cells #[.int .i64 s.n, .int .i64 s.lo, .int .i64 H, .int .i64 s.to] 24)).heap.size = w2.heap.size + 1 := by simp
    have hxs : Sn st ⟨s.n, s.lo, H, s.to⟩ := by
      have hg := hsn.goes hH1 hH2
      obtain ⟨q1, q2, q3, q4, q5, q6⟩ := hsn
      exact ⟨q1, saneB_mid q1 q2 hH1 hH2, hH1, q4, q5, by
        show goesS st ⟨s.n, s.lo, H, s.to⟩ H ≤ 65535
        have e : goesS st ⟨s.n, s.lo, H, s.to⟩ H = goesS st s H := rfl
        rw [e]
        exact hg.2⟩
    go_wp2_with fail
    generalize (w2.alloc (.cells #[.int .i64 s.n, .int .i64 s.lo, .int .i64 H, .int .i64 s.to] 24)) = WX at *
    obtain ⟨x, hxe⟩ : ∃ x : Sp, x = ⟨s.n, s.lo, H, s.to⟩ := ⟨_, rfl⟩
    rw [← hxe] at hx0 hxs
    have en : s.n = x.n := by rw [hxe]
    have el : s.lo = x.lo := by rw [hxe]
    have eh : H = x.hi := by rw [hxe]
    have et : s.to = x.to := by rw [hxe]
    rw [el] at hH1 hH3 n0 n1
    rw [eh] at hH1 hH3
    have HXS := Lib.hid hxs
    have hxr := hxs.nr
    have hE : Hid (s.n = x.n ∧ s.lo = x.lo ∧ H = x.hi ∧ s.to = x.to) := Lib.hid ⟨en, el, eh, et⟩
    have hx1 := hxr.h1
    have bkX := bk2.trans (hbX.mono bk2.size)
    clear y0 y1 y2 y3 s2 hsn hxe hbX hxs hmn tm hk0 hk1 en el et
    subst eh
    go_loopw [9, 10] (fun u i wr => ∃ k : Nat, (k : Int) ≤ x.hi - x.lo + 1 ∧ i = .int .i64 (x.hi - k) ∧ wr.ownsRow WX.heap.size 24 4 u (ones st x k).length (svs (ones st x k)) ∧ Below WX.heap.size WX wr) (fun _ i _ => (intOf i - x.lo + 1).toNat)
    case atStart => exact ⟨0, by omega, by first | rfl | simp, World.ownsRow_nil _ _ _ _, Below.refl _ _⟩
    case round =>
      obtain ⟨k, hk, rfl, hown, hbel⟩ := hrel
      have hs1 := hx0.below hbel (by omega)
      have hsz := hbel.size
      obtain ⟨v, hv⟩ : ∃ v, v = x.hi - (k : Int) := ⟨_, rfl⟩
      have HV := Lib.hid hv
      rw [← hv]
      obtain ⟨y0, y1, y2, y3⟩ := id hs1
      simp only [Nat.zero_add] at y1 y2 y3
      by_cases hlt : x.lo ≤ v
      · have t0 : decide (x.lo ≤ v) = true := decide_eq_true hlt
        have hto : toS st x x.n v = some (goesS st x v) := toS_some.2 ⟨HXS.out, rfl, hlt, by omega, rfl⟩
        have K2 := Lib.hid (fun W => To_any st x x.n v W)
        rw [hto] at K2
        unfold oV sv at K2
        simp only [Option.getD_some, Option.isSome_some] at K2
        have es : ones st x (k + 1) = ones st x k ++ [partS st x v v] := by rw [ones_succ, ← HV.out]
        have HES := Lib.hid es
        have hkl := ones_length st x k
        have hv1 : v ≤ x.hi := by omega
        clear hto es hv
        go_wp2_with fail
        refine (K2.out _).mono ?_
        rintro e w3 ⟨rfl, hb3⟩
        have hown3 := own_belowS hown hb3 (Nat.le_refl _)
        have s3 := hs1.below hb3 (by omega)
        have bk3 := hbel.trans (hb3.mono hsz)
        have hs3 := bk3.size
        clear y0 y1 y2 y3 hown hs1
        obtain ⟨y0, y1, y2, y3⟩ := s3
        simp only [Nat.zero_add] at y1 y2 y3
        obtain ⟨gv, hgv⟩ : ∃ gv, gv = goesS st x v := ⟨_, rfl⟩
        rw [← hgv]
        have HGV := Lib.hid hgv
        clear hgv
        go_wp2_with (at_builtin; refine wpList_append_lies _ rfl _ _ _ rfl WX.heap.size 24 i0 (.agg #[.int .i64 0, .int .i64 0, .int .i64 0, .int .i64 0]) 4 32 Try.underlying22 hi hz0 hz1 hz2 rfl (by omega) _ _ _ rfl (hown3.alloc _) ⟨w3.heap.size, 0, none⟩ 1 1 [.int .i64 x.n, .int .i64 v, .int .i64 v, .int .i64 gv] rfl rfl (World.news_of_block (heap_alloc_new w3 _)) (by intro u hu; simp only [List.mem_cons, List.not_mem_nil, or_false] at hu; rcases hu with rfl | rfl | rfl | rfl <;> rfl) (by omega) (by rw [hkl]; unfold maxLen; omega) (by rw [hkl]; omega) (by simp; omega) _ rfl ?_; intro g cap w4 hown4 hgrow hat hgl)
        have hgb : ∀ j, (u9).ownBlock = some j → WX.heap.size ≤ j := fun j e => (own_lt1 hown3 e)
        refine ⟨⟨k + 1, by have := HV.out; omega, by have := HV.out; first | (congr 1; omega) | go_num, ?_, (bk3.alloc hs3 _).grown hgrow (by simp; omega) hgb⟩, by have := HV.out; simp [intOf]; omega⟩
        rw [HES.out]
        refine own_sc (x := partS st x v v) ?_ (by first | rfl | simp)
        have esq : sq (partS st x v v) = [.int .i64 x.n, .int .i64 v, .int .i64 v, .int .i64 gv] := by rw [HGV.out]; rfl
        rw [esq]
        have h5 := hown4
        rw [hkl] at h5 ⊢
        exact h5
      · have t0 : decide (x.lo ≤ v) = false := decide_eq_false hlt
        have hkk : (k : Int) = x.hi - x.lo + 1 := by omega
        have hla := ones_all HXS.out k hkk
        have hkl := ones_length st x k
        obtain ⟨cz, _, hcz, Az, ev, hss⟩ := Ss.of_own hown
        subst ev
        have K2 := Lib.hid (Build_any st (ones st x k) (by omega) Az cz wr hss)
        have HLA := Lib.hid hla
        clear hla hcz hss hown hv hkl
        generalize hgl : (ones st x k).length = kl at *
        go_wp2_with fail
        refine K2.out.mono ?_
        rintro e w3 ⟨m, p1, p2, A1, c1, rfl, h2, h3, h4, h5⟩
        obtain rfl : m = [x] := p1.one (cn_one HXS.out) fun a b => (p2 a b).trans (HLA.out a b)
        have s3 := hs1.below h5 (by omega)
        obtain ⟨b, o, rfl, hb, ⟨x0, x1, x2, x3⟩⟩ := h4.at (j := 0) (x := x) rfl
        have bE := bkX.trans ((hbel.trans (h5.mono hsz)).mono bkX.size)
        clear y0 y1 y2 y3 hs1 p1 p2 h2 h3 h4
        obtain ⟨y0, y1, y2, y3⟩ := s3
        simp only [Nat.zero_add, Nat.zero_mul, Nat.add_zero] at y1 y2 y3 x0 x1 x2 x3
        go_wp2
        go_quiet (fail)
        go_wp2
        go_ret
        exact ⟨rfl, below_drewN bE _⟩
  · rw [decide_eq_false hsn] at K1
    have K2 := Lib.hid (fun W => Build_any st [s] (by simp) (some ⟨W.heap.size, 0, none⟩) 1 _ (ss_one W s 24))
    have HSN := Lib.hid hsn
    clear hsn
    go_wp2_with fail
    refine (K1.out _).mono ?_
    rintro e w2 ⟨rfl, hb2⟩
    have bk2 := bk1.trans (hb2.mono bk1.size)
    have s2 := s1.below hb2 z1
    clear y0 y1 y2 y3 s1
    obtain ⟨y0, y1, y2, y3⟩ := id s2
    simp only [Nat.zero_add] at y1 y2 y3
    go_wp2_with fail
    refine (K2.out _).mono ?_
    rintro e w3 ⟨m, p1, p2, A1, c1, rfl, h2, h3, h4, h5⟩
    obtain rfl : m = [] := p1.one Cn.nil fun a b => by
      rw [p2]
      simp only [lastS, Option.none_or]
      unfold toS
      rw [if_neg (fun q => HSN.out q.1)]
    have bE := (bk2.alloc bk2.size (.cells #[.int .i64 s.n, .int .i64 s.lo, .int .i64 s.hi, .int .i64 s.to] 24)).trans (h5.mono (by have := bk2.size; simp; omega))
    clear y0 y1 y2 y3 p1 p2 h2 h3 h4 h5 K1 K2
    go_wp2
    go_ret
    exact ⟨rfl, bE⟩
end Go.Proofs.Ytdlkgcbiekilhaa
