/-
  slices.Compact at codespaces: each run of the same ones becomes one.
-/
import Derived.Test.YtnojapffmcnbaaaRectComp
namespace Go.Proofs.Ytnojapffmcnbaaa
open Go.RowKit Go.Lib

theorem run_eq_rc (x y : Rc) (w : World) : (binOp .eql 23 (.agg #[.int .i64 x.n, .int .i64 x.lo, .int .i64 x.hi]) (.agg #[.int .i64 y.n, .int .i64 y.lo, .int .i64 y.hi])).run Try.prog w = .ok (.bool (decide (x = y))) w := by
  by_cases h : x = y
  · subst h
    rw [decide_eq_true rfl]
    go_simp
  · rw [decide_eq_false h]
    go_simp
    intro h1 h2 h3
    obtain ⟨xn, xl, xh⟩ := x
    obtain ⟨yn, yl, yh⟩ := y
    simp only at h1 h2 h3
    exact h (by rw [h1, h2, h3])
theorem run_ne_rc (x y : Rc) (w : World) : (binOp .neq 23 (.agg #[.int .i64 x.n, .int .i64 x.lo, .int .i64 x.hi]) (.agg #[.int .i64 y.n, .int .i64 y.lo, .int .i64 y.hi])).run Try.prog w = .ok (.bool (!decide (x = y))) w := by
  by_cases h : x = y
  · subst h
    rw [decide_eq_true rfl]
    go_simp
  · rw [decide_eq_false h]
    go_simp
    intro h1 h2 h3
    obtain ⟨xn, xl, xh⟩ := x
    obtain ⟨yn, yl, yh⟩ := y
    simp only at h1 h2 h3
    exact h (by rw [h1, h2, h3])
/-- What Compact leaves. -/
def Cp (w : World) (B b o c : Nat) (l : List Rc) (e : Ending) (w' : World) : Prop :=
  e = .returned (.slice (some ⟨b, o, none⟩) l.length c) ∧ (∀ j x, l[j]? = some x → R3 w' b (o + j * 3) x) ∧ Below B w w'
set_option maxRecDepth 100000 in
set_option maxHeartbeats 4000000 in
theorem Compact_any (b o c B : Nat) (d : Array Rc) (w : World) (hB : B ≤ b) (h : Ra w b o d) (hl : d.size ≤ 1000000) (hc : d.size ≤ c) :
    Calls Try.prog 45 #[.slice (some ⟨b, o, none⟩) d.size c] w (Cp w B b o c (compactUpTo d d.size)) := by
  have same : ∀ wr, Ra wr b o d → Below B w wr → (∀ j, j < d.size → keeps d j = true) → Cp w B b o c (compactUpTo d d.size) (.returned (.slice (some ⟨b, o, none⟩) d.size c)) wr := by
    intro wr hr hb hall
    have e : compactUpTo d d.size = d.toList := by rw [compactUpTo_all d _ hall, range_map_get]
    rw [e]
    refine ⟨by simp, fun j x hx => ?_, hb⟩
    have hj : j < d.size := by have := (List.getElem?_eq_some_iff.1 hx).1; simpa using this
    have := (hr j hj).1
    have e2 : d[j]! = x := by
      rw [getElem!_pos d j hj]
      rw [List.getElem?_eq_getElem (by simpa using hj)] at hx
      simpa using hx
    rwa [e2] at this
  have HS := Lib.hid same
  clear same
  generalize hn : d.size = n at *
  have HN := Lib.hid hn
  clear hn
  have HR := Lib.hid h
  clear h
  by_cases h2 : n < 2
  · have t0 : decide ((n : Int) < 2) = true := decide_eq_true (by omega)
    go_enter Try.func45, Try.ntmps45
    go_wp2
    go_ret
    exact HS.out w HR.out (Below.refl _ _) (fun j hj => keeps_lt_one d j (by omega))
  · have t0 : decide ((n : Int) < 2) = false := decide_eq_false (by omega)
    go_enter Try.func45, Try.ntmps45
    go_wp2
    go_loopw [3] (fun s3 wr => ∃ k : Nat, 1 ≤ k ∧ k ≤ n ∧ s3 = .int .i64 (k : Int) ∧ Hid (Ra wr b o d) ∧ Below B w wr ∧ Hid (∀ j, j < k → keeps d j = true)) (fun i _ => n - (intOf i).toNat)
    case atStart => exact ⟨1, Nat.le_refl _, by omega, rfl, HR, Below.refl _ _, Lib.hid (keeps_lt_one d)⟩
    case round =>
      obtain ⟨k, hk1, hk, rfl, HA, hbel, HK⟩ := hrel
      by_cases hlt : k < n
      · have t1 : decide (k < n) = true := decide_eq_true hlt
        obtain ⟨⟨y0, y1, y2⟩, _⟩ := HA.out k (by have := HN.out; omega)
        obtain ⟨⟨y3, y4, y5⟩, _⟩ := HA.out (k - 1) (by have := HN.out; omega)
        obtain ⟨m, hm⟩ : ∃ m : Nat, k = m + 1 := ⟨k - 1, by omega⟩
        subst hm
        rw [Nat.add_sub_cancel] at y3 y4 y5
        have em : ((m + 1 : Nat) : Int) - 1 = (m : Int) := by omega
        generalize hx : d[m + 1]! = x at y0 y1 y2
        generalize hy : d[m]! = y at y3 y4 y5
        have HX := Lib.hid hx
        have HY := Lib.hid hy
        clear hx hy
        by_cases hdup : x = y
        · subst hdup
          go_wp2_with fail
          go_quiet (fail)
          clear y0 y1 y2 y3 y4 y5
          have hci : CompInv d (m + 1 + 1) (m + 1) d := CompInv.start HK.out (keeps_neg (by omega) (by rw [Nat.add_sub_cancel, HX.out, HY.out]))
          have HCI := Lib.hid hci
          clear hci
          go_wp2
          go_loopw [3, 5] (fun s3 s5 wq => ∃ (kk p : Nat) (dk : Array Rc), s3 = .int .i64 (kk : Int) ∧ s5 = .int .i64 ((p + 1 : Nat) : Int) ∧ m + 1 + (p + 1) ≤ n ∧ kk < m + 1 + (p + 1) ∧ Hid (Ra wq b o dk) ∧ Below B w wq ∧ Hid (CompInv d (m + 1 + (p + 1)) kk dk)) (fun _ s5 _ => n - (intOf s5).toNat)
          case atStart => exact ⟨m + 1, 0, d, rfl, rfl, by omega, by omega, Lib.hid (HA.out.drewN _), below_drewN hbel _, HCI⟩
          case round =>
            clear hbel
            obtain ⟨kk, p, dk, rfl, rfl, hle, hkk, HQ, hbq, HI⟩ := hrel
            have hds : dk.size = n := by rw [HI.out.size]; exact HN.out
            by_cases hlt2 : m + 1 + (p + 1) < n
            · have t2 : decide (p + 1 < n - (m + 1)) = true := decide_eq_true (by omega)
              obtain ⟨⟨y0, y1, y2⟩, _⟩ := HQ.out (m + 1 + (p + 1)) (by omega)
              obtain ⟨⟨y3, y4, y5⟩, _⟩ := HQ.out (m + 1 + p) (by omega)
              obtain ⟨⟨y6, y7, y8⟩, ⟨y9, y10, y11⟩⟩ := HQ.out kk (by omega)
              have hu := HI.out.high (m + 1 + (p + 1)) (by omega)
              have hv := HI.out.high (m + 1 + p) (by omega)
              rw [show o + (m + 1 + (p + 1)) * 3 = o + (m + 1) * 3 + (p + 1) * 3 by omega] at y0 y1 y2
              rw [show o + (m + 1 + p) * 3 = o + (m + 1) * 3 + p * 3 by omega] at y3 y4 y5
              generalize dk[m + 1 + (p + 1)]! = u at *
              generalize dk[m + 1 + p]! = v at *
              generalize dk[kk]! = z at *
              have ep : ((p + 1 : Nat) : Int) - 1 = (p : Int) := by omega
              have HU := Lib.hid hu
              have HV := Lib.hid hv
              clear hu hv
              by_cases huv : u = v
              · subst huv
                go_wp2_with fail
                go_quiet (fail)
                go_wp2
                refine ⟨⟨kk, p + 1, dk, rfl, by go_num, by omega, by omega, Lib.hid (HQ.out.drewN _), below_drewN hbq _, Lib.hid (HI.out.skip (keeps_neg (by omega) ?_))⟩, by simp [intOf]; omega⟩
                rw [show m + 1 + (p + 1) - 1 = m + 1 + p by omega, ← HU.out, ← HV.out]
              · have he := run_ne_rc u v
                rw [decide_eq_false huv] at he
                have hk : keeps d (m + 1 + (p + 1)) = true := keeps_pos (by rw [show m + 1 + (p + 1) - 1 = m + 1 + p by omega, ← HU.out, ← HV.out]; exact huv)
                have HKE := Lib.hid hk
                clear huv hk
                go_wp2_with fail
                go_quiet (fail)
                go_wp2
                have hkp := HI.out.keep (by have := HN.out; omega) HKE.out
                rw [← HU.out] at hkp
                refine ⟨⟨kk + 1, p + 1, dk.setIfInBounds kk u, by go_num, by go_num, by omega, by omega, Lib.hid ((HQ.out.drewN _).set (by omega) u), (((below_drewN hbq _).setCell (by exact hB) _).setCell (by exact hB) _).setCell (by exact hB) _, Lib.hid hkp⟩, by simp [intOf]; omega⟩
            · have t2 : decide (p + 1 < n - (m + 1)) = false := decide_eq_false (by omega)
              have hend : m + 1 + (p + 1) = n := by omega
              obtain ⟨vs, hcl⟩ : ∃ vs, ∀ ty, (Builtin.clear_ #[36] ty #[.slice (some ⟨b, o + kk * 3, none⟩) (n - kk) (c - kk)]).run Try.prog wr = .ok (.tuple #[]) (wr.setCells b (o + kk * 3) vs) := by
                have key : ∀ j, j < (n - kk) * 3 → (wr.cell? ⟨b, o + kk * 3 + j, none⟩).isSome = true ∧ wr.frozen? ⟨b, o + kk * 3 + j, none⟩ = false := fun j hj => by
                  obtain ⟨⟨z0, z1, z2⟩, ⟨z3, z4, z5⟩⟩ := HQ.out (kk + j / 3) (by omega)
                  rcases (show j % 3 = 0 ∨ j % 3 = 1 ∨ j % 3 = 2 by omega) with e | e | e
                  · rw [show o + kk * 3 + j = o + (kk + j / 3) * 3 by omega, z0, z3]; exact ⟨rfl, rfl⟩
                  · rw [show o + kk * 3 + j = o + (kk + j / 3) * 3 + 1 by omega, z1, z4]; exact ⟨rfl, rfl⟩
                  · rw [show o + kk * 3 + j = o + (kk + j / 3) * 3 + 2 by omega, z2, z5]; exact ⟨rfl, rfl⟩
                exact run_clear3 wr b (o + kk * 3) (n - kk) (c - kk) (fun j hj => (key j hj).1) (fun j hj => (key j hj).2)
              have hlow : ∀ j x, (compactUpTo d n)[j]? = some x → R3 (wr.setCells b (o + kk * 3) vs) b (o + j * 3) x := fun j x hx => by
                have hI := HI.out
                rw [hend] at hI
                have hj : j < kk := by
                  have := (List.getElem?_eq_some_iff.1 hx).1
                  rw [hI.len] at this
                  exact this
                have hx2 := hI.low j hj
                rw [hx] at hx2
                have e := Option.some.inj hx2
                obtain ⟨⟨z0, z1, z2⟩, _⟩ := HQ.out j (by omega)
                rw [← e] at z0 z1 z2
                exact ⟨(World.cell?_setCells_out b _ _ _ _ (fun _ _ => .inl (by show o + j * 3 < o + kk * 3; omega))).trans z0, (World.cell?_setCells_out b _ _ _ _ (fun _ _ => .inl (by show o + j * 3 + 1 < o + kk * 3; omega))).trans z1, (World.cell?_setCells_out b _ _ _ _ (fun _ _ => .inl (by show o + j * 3 + 2 < o + kk * 3; omega))).trans z2⟩
              have hbe := below_setCells b B hB vs (o + kk * 3) w wr hbq
              have HL := Lib.hid hlow
              have hln : (compactUpTo d n).length = kk := by rw [← hend]; exact HI.out.len
              have HLN := Lib.hid hln
              have hE := Lib.hid hend
              clear hlow hln hend
              go_wp2
              go_ret
              exact ⟨by rw [HLN.out]; rfl, HL.out, hbe⟩
        · have he := run_eq_rc x y
          rw [decide_eq_false hdup] at he
          have HD := Lib.hid hdup
          clear hdup
          go_wp2_with fail
          go_quiet (fail)
          go_wp2
          refine ⟨⟨m + 2, by omega, by omega, by go_num, Lib.hid (HA.out.drewN _), below_drewN hbel _, Lib.hid (fun j hj => ?_)⟩, by simp [intOf]; omega⟩
          by_cases e : j = m + 1
          · subst e
            exact keeps_pos (by rw [Nat.add_sub_cancel, HX.out, HY.out]; exact HD.out)
          · exact HK.out j (by omega)
      · have t1 : decide (k < n) = false := decide_eq_false hlt
        obtain rfl : k = n := by omega
        go_wp2
        go_ret
        exact HS.out _ HA.out hbel HK.out
end Go.Proofs.Ytnojapffmcnbaaa
