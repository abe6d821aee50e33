/-
  The walk of the statement SpanEnds.
-/
import Derived.Test.YtdlkgcbiekilhaaSpanAwake
import Derived.Test.YtdlkgcbiekilhaaBits
namespace Go.Proofs.Ytdlkgcbiekilhaa
open Go.RowKit
attribute [local go_sem ↓] Go.wp_at_zero Go.wp_at_succ

theorem Cn.find {st : Bool} {m : List Sp} (h : Cn st m) {s : Sp} (hs : s ∈ m) {v : Int} (h1 : s.lo ≤ v) (h2 : v ≤ s.hi) : findS st m s.n v = some (goesS st s v) := by
  rw [findS, if_pos h, h.of hs h1 h2]
theorem Cn.behind {st : Bool} {m : List Sp} (h : Cn st m) {s : Sp} (hs : s ∈ m) : (findS st m s.n (s.hi + 1)).isSome = false ∨ (findS st m s.n (s.hi + 1)).getD 0 ≠ goesS st s (s.hi + 1) := by
  rw [findS, if_pos h]
  cases e : lastS st m s.n (s.hi + 1) with
  | none => exact .inl rfl
  | some x => exact .inr (h.ends hs e)
set_option maxRecDepth 100000 in
set_option maxHeartbeats 8000000 in
theorem ends_walk (A : Option Addr) (c : Nat) (l : List Sp) (k : Int) (st : Bool) (w : World) (hA : Ss w w.heap.size A l) :
    Calls Try.prog 8 #[.slice A l.length c, .int .i64 k, .bool st] w fun e w' => e = .returned (.bool true) ∧ Below w.heap.size w w' := by
  have HA := Lib.hid hA
  obtain ⟨K, hk⟩ : ∃ K, K = l.length := ⟨_, rfl⟩
  have HK := Lib.hid hk
  rw [← hk]
  clear hk hA
  go_enter Try.func8, Try.ntmps8
  go_wp2_with fail
  refine (awake_any _).mono ?_
  rintro e w1 ⟨rfl, bk1⟩
  by_cases hbig : 60 < K
  · have t0 : decide (60 < K) = true := decide_eq_true hbig
    go_wp2
    go_ret
    exact ⟨rfl, bk1⟩
  · have t0 : decide (60 < K) = false := decide_eq_false hbig
    have K1 : Hid (Calls Try.prog 21 #[.slice A K c, .bool st] w1 (Bld w1 st l)) := Lib.hid (by
      have := Build_any st l (by have := HK.out; omega) A c w1 (HA.out.over bk1)
      rwa [← HK.out] at this)
    go_wp2_with fail
    refine K1.out.mono ?_
    rintro e w2 ⟨m, p1, p2, A1, c1, rfl, h2, h3, h4, h5⟩
    have bk2 := bk1.trans (h5.mono bk1.size)
    have hfew := p1.few p2
    have HM := Lib.hid h4
    have HP := Lib.hid p1
    obtain ⟨f, hf⟩ : ∃ f, f = m.length := ⟨_, rfl⟩
    have HF := Lib.hid hf
    have hfk : f ≤ 120 := by have := HK.out; omega
    rw [← hf]
    clear p1 p2 h2 h3 hfew hf K1
    by_cases h0 : f = 0
    · have t1 : ((f : Int) == 0) = true := by simp [h0]
      have t2 : (f == 0) = true := by simp [h0]
      clear h4
      subst h0
      go_wp2
      go_ret
      exact ⟨rfl, bk2⟩
    · have t1 : ((f : Int) == 0) = false := by simp; omega
      have t2 : (f == 0) = false := by simp; omega
      obtain ⟨i, hi⟩ : ∃ i : Nat, (i : Int) = k % 65536 % (f : Int) := ⟨(k % 65536 % (f : Int)).toNat, by have := Int.emod_nonneg (k % 65536) (b := (f : Int)) (by omega); omega⟩
      have hi2 : i < f := by have := Int.emod_lt_of_pos (k % 65536) (b := (f : Int)) (by omega); omega
      have hx := List.getElem?_eq_getElem (l := m) (i := i) (by have := HF.out; omega)
      generalize m[i]'(by have := HF.out; omega) = s at *
      have hsm : s ∈ m := List.mem_of_getElem? hx
      have hss := HP.out.1 s hsm
      have hlo := HP.out.lo hsm
      have hnr := Sn.nr hss
      obtain ⟨b, o, rfl, hb, ⟨y0, y1, y2, y3⟩⟩ := h4.at hx
      have KF : ∀ (v : Int) (r : Option Int), findS st m s.n v = r → ∀ W, Below w2.heap.size w2 W → Calls Try.prog 14 #[.slice (some ⟨b, o, none⟩) f c1, .agg #[.int .i64 s.n, .int .i64 v], .bool st] W fun e w' => e = .returned (oV r) ∧ Below W.heap.size W w' := fun v r hr W hW => by
        have := Find_any st (some ⟨b, o, none⟩) c1 m s.n v W (HM.out.over hW) (by have := HF.out; omega)
        rw [hr] at this
        rwa [← HF.out] at this
      have k1 := KF _ _ (HP.out.find hsm (Int.le_refl _) hlo)
      have k2 := KF _ _ (HP.out.find hsm hlo (Int.le_refl _))
      have k3 := KF _ _ (rfl : findS st m s.n (s.hi + 1) = _)
      have hbh := HP.out.behind hsm
      rw [goesS_lo] at k1
      have hgo : goesS st s s.hi = s.to + (if st = true then s.hi - s.lo else 0) := by unfold goesS; split <;> omega
      have hgo1 : goesS st s (s.hi + 1) = goesS st s s.hi + (if st = true then 1 else 0) := goesS_add st s s.hi 1
      have hgb := hss.goes hlo (Int.le_refl _)
      rw [hgo1] at hbh
      generalize goesS st s s.hi = G at *
      generalize findS st m s.n (s.hi + 1) = R at *
      unfold oV at k1 k2 k3
      simp only [Option.getD_some, Option.isSome_some] at k1 k2
      generalize R.getD 0 = ra at *
      generalize R.isSome = rb at *
      have HI := Lib.hid hi
      have tm : bits .and .i64 k 65535 = k % 65536 := i64_mask16 k
      generalize hm : k % 65536 = kk at *
      have hk0 : 0 ≤ kk ∧ kk < 65536 := by omega
      obtain ⟨hk0, hk1⟩ := hk0
      have hr : kk % (f : Int) = (i : Int) := HI.out.symm
      have K1 := Lib.hid k1
      have K2 := Lib.hid k2
      have K3 := Lib.hid k3
      have HBH := Lib.hid hbh
      have HGO := Lib.hid hgo
      obtain ⟨n0, n1, n2, n3, n4, n5⟩ := hnr
      obtain ⟨gb0, gb1⟩ := hgb
      have hbs := Bs.new w2 s 24
      have hszA : (w2.alloc (.cells #[.int .i64 s.n, .int .i64 s.lo, .int .i64 s.hi, .int .i64 s.to] 24)).heap.size = w2.heap.size + 1 := by simp
      have hbA : Below w2.heap.size w2 (w2.alloc (.cells #[.int .i64 s.n, .int .i64 s.lo, .int .i64 s.hi, .int .i64 s.to] 24)) := (Below.refl _ _).alloc (Nat.le_refl _) _
      clear hx hsm hss KF k1 k2 k3 hbh hgo hgo1 hm hi h4 h5
      go_wp2_with fail
      refine (K1.out _ hbA).mono ?_
      rintro e w3 ⟨rfl, hb3⟩
      have s3 := hbs.below hb3 (by omega)
      have c3 := hbA.trans (hb3.mono (by omega))
      have z3 : w2.heap.size < w3.heap.size := by have := hb3.size; omega
      clear y0 y1 y2 y3 hbs hszA
      obtain ⟨y0, y1, y2, y3⟩ := id s3
      simp only [Nat.zero_add] at y1 y2 y3
      go_wp2_with fail
      refine (K2.out _ c3).mono ?_
      rintro e w4 ⟨rfl, hb4⟩
      have s4 := s3.below hb4 z3
      have c4 := c3.trans (hb4.mono c3.size)
      have z4 := Nat.lt_of_lt_of_le z3 hb4.size
      clear y0 y1 y2 y3 s3
      obtain ⟨y0, y1, y2, y3⟩ := id s4
      simp only [Nat.zero_add] at y1 y2 y3
      go_wp2_with fail
      refine (K3.out _ c4).mono ?_
      rintro e w5 ⟨rfl, hb5⟩
      have s5 := s4.below hb5 z4
      have c5 := c4.trans (hb5.mono c4.size)
      clear y0 y1 y2 y3 s4
      obtain ⟨y0, y1, y2, y3⟩ := id s5
      simp only [Nat.zero_add] at y1 y2 y3
      have bE := bk2.trans (c5.mono bk2.size)
      cases st with
      | true =>
        have hG : G = s.to + (s.hi - s.lo) := by have := HGO.out; simpa using this
        have hR : rb = false ∨ ra ≠ G + 1 := by have := HBH.out; simpa using this
        have HR := Lib.hid hR
        have HG := Lib.hid hG
        clear hG hR
        have tg : (G == s.to + (s.hi - s.lo)) = true := by rw [HG.out]; simp
        cases rb with
        | false =>
          go_wp2
          go_ret
          exact ⟨rfl, bE⟩
        | true =>
          have tr : (ra != G + 1) = true := by
            rcases HR.out with h | h
            · cases h
            · simpa using h
          go_wp2
          go_ret
          exact ⟨rfl, bE⟩
      | false =>
        have hG : G = s.to := by have := HGO.out; simpa using this
        have hR : rb = false ∨ ra ≠ G := by have := HBH.out; simpa using this
        have HR := Lib.hid hR
        have HG := Lib.hid hG
        clear hG hR
        have tg : (G == s.to) = true := by rw [HG.out]; simp
        cases rb with
        | false =>
          go_wp2
          go_ret
          exact ⟨rfl, bE⟩
        | true =>
          have tr : (ra != G) = true := by
            rcases HR.out with h | h
            · cases h
            · simpa using h
          go_wp2
          go_ret
          exact ⟨rfl, bE⟩
end Go.Proofs.Ytdlkgcbiekilhaa
