/-
  Parts of this proof, one behind the other: SynDev3, SynDev4, UtfUnits, SynPush, SynWords, StrGet, SynJs, TokStr, HexPure, TokPure.
-/
import Derived.Test.YthcnjiigkmljnaaGreatDoorPart2
import Derived.Test.YthcnjiigkmljnaaGreatDoorPart1
import Derived.Deep.RegionHeldLaw
import Derived.Deep.AppendLies
import Derived.Test.YthcnjiigkmljnaaGreatDoorProg
/-
  The program's parser: code, number.
-/
namespace Go.Proofs.YthcnjiigkmljnaaGreatDoor
open Go.RowKit

section
variable {w : World} {P : Nat} {A : Option Addr} {c : Nat} {L : List Tk} {i : Nat} {en a e : Int} {vc vi : Value}
set_option maxRecDepth 100000 in
set_option maxHeartbeats 4000000 in
theorem qcode_any (h : Qs w P A c L i en vc vi a e) (hi : i ≤ L.length) (hL : Sm L) :
    Calls Tryz.prog 115 #[.pointer (some ⟨P, 0, none⟩)] w fun r w' => ∃ (x : Cd × Int) (i' : Nat) (a' e' : Int), r = .returned (.tuple #[.agg #[.int .i64 x.1.n, .int .i64 x.1.v], .int .i64 x.2]) ∧ Qs w' P A c L i' en vc vi a' e' ∧ i' ≤ L.length ∧ Fr w w' P ∧ Oc (codeT L en i) (fun x => x.1 = ⟨0, 0⟩) i a e x i' a' e' := by
  have hlt := h.lt
  have hT := qtake_any (h.alloc (.cells #[.int .i64 0, .int .i64 0] 47)) hi hL 4
  have HT := Lib.hid hT
  clear hT
  have HP := Lib.hid h
  clear h
  go_enter Tryz.func115, Tryz.ntmps115
  go_wp2_with fail
  refine HT.out.mono ?_
  rintro r w1 ⟨t, i1, a1, e1, rfl, hp1, hi1, hts, hf1, hoc⟩
  clear HT
  have hlt1 := hp1.lt
  obtain ⟨kind, at_, n, s⟩ := t
  simp only at hts
  unfold tv
  simp only
  obtain ⟨cap, w2, hcv, hcell, _, hb2, hsz2, hcap⟩ := run_bytes (P := Tryz.prog) (w1.alloc (.cells #[.int .i64 kind, .int .i64 at_, .int .i64 n, .string (str s)] 42)) 9 93 5 s Tryz.underlying9 Tryz.underlying93 Tryz.underlying5
  have hS1 : (w1.alloc (.cells #[.int .i64 kind, .int .i64 at_, .int .i64 n, .string (str s)] 42)).heap.size = w1.heap.size + 1 := by simp
  have hsl : Sl w2 w2.heap.size (some ⟨w1.heap.size + 1, 0, none⟩) s := fun _ => ⟨_, 0, rfl, by rw [hS1] at hsz2; exact hsz2, fun j hj => by rw [Nat.zero_add, ← hS1]; exact hcell j hj⟩
  rw [hS1] at hcv
  have hp2 := (hp1.alloc (.cells #[.int .i64 kind, .int .i64 at_, .int .i64 n, .string (str s)] 42)).over hb2
  have hf2 := (hf1.alloc (.cells #[.int .i64 kind, .int .i64 at_, .int .i64 n, .string (str s)] 42)).over hb2
  have k1 : w2.cell? ⟨w1.heap.size, 1, none⟩ = some (.int .i64 at_) := (hb2.cell (p := ⟨w1.heap.size, 1, none⟩) (by simp)).trans (by simp)
  have hne1 : w.heap.size ≠ w1.heap.size := by have := hf1.size; simp at this; omega
  have hne2 : w1.heap.size ≠ w.heap.size := fun h => hne1 h.symm
  by_cases hv : 1 ≤ s.length ∧ s.length ≤ 4
  · have hV := Val_yes (some ⟨w1.heap.size + 1, 0, none⟩) cap s w2 hsl hv.1 hv.2
    have HV := Lib.hid hV
    clear hV hcell hsl
    have hoc2 : Oc (codeT L en i) (fun x => x.1 = ⟨0, 0⟩) i a e ((⟨(s.length : Int), num s⟩ : Cd), at_) i1 a1 e1 := by
      rcases hoc with ⟨_, _, _, _, h⟩ | ⟨_, _, _, h⟩ | ⟨h1, h2, h3, h4⟩
      · injection h with _ _ _ h; rw [h] at hv; simp at hv
      · injection h with _ _ _ h; rw [h] at hv; simp at hv
      · exact .inr (.inr ⟨h1, by unfold codeT; rw [h2, then_ok]; simp only; rw [if_pos hv], h3, h4⟩)
    generalize num s = vs at *
    generalize hsl2 : (s.length : Int) = ns at *
    go_wp2_with (go_at_call 124; refine HV.out.mono ?_; rintro r w3 ⟨rfl, hb3⟩; have k3 := (hb3.cell (p := ⟨w1.heap.size, 1, none⟩) (by have := hb2.size; simp at this; show w1.heap.size < _; omega)).trans k1; have hp3 := hp2.over hb3; have hf3 := hf2.over hb3; obtain ⟨f0, y0⟩ := hf3.kept hlt 0; obtain ⟨f1, y1⟩ := hf3.kept hlt 1; simp at f0 f1 y0 y1; have hT3 : w1.heap.size < w3.heap.size := (by have h1 := hb2.size; have h2 := hb3.size; simp at h1; omega); have hS3 : w.heap.size < w3.heap.size := (by have h1 := hf3.size; simp at h1; omega))
    go_region
    go_wp2
    obtain ⟨s0, s1⟩ := two_set f0 f1 (.int .i64 ns) (.int .i64 vs)
    have s0' := cell_new s0 (.cells #[.int .i64 ns, .int .i64 vs] 47)
    have s1' := cell_new s1 (.cells #[.int .i64 ns, .int .i64 vs] 47)
    refine bodyPost_ret (v := _) (by simp [results, Tryz.results115, go_sem, s0', s1']; try rfl) rfl ⟨(⟨ns, vs⟩, at_), i1, a1, e1, rfl, (((hp3.far hlt 0 _).far hlt 1 _).alloc _).drew, hi1, ((((((Fr.refl w P).alloc _).trans hf3).far (Nat.le_refl _) 0 _).far (Nat.le_refl _) 1 _).alloc _).drew, hoc2⟩
  · have hV := Val_no (some ⟨w1.heap.size + 1, 0, none⟩) cap s.length w2 (by omega)
    have HV := Lib.hid hV
    clear hV hcell hsl
    have hoc2 : Oc (codeT L en i) (fun x => x.1 = ⟨0, 0⟩) i a e ((⟨0, 0⟩ : Cd), at_) i1 (if e1 = 0 then at_ else a1) (if e1 = 0 then 12 else e1) := by
      rcases hoc with ⟨h1, h2, h3, h4, _⟩ | ⟨h1, h2, h3, _⟩ | ⟨h1, h2, h3, h4⟩
      · rw [if_neg (by rw [h4]; exact h1), if_neg (by rw [h4]; exact h1)]
        exact .inl ⟨h1, h2, h3, h4, rfl⟩
      · rw [if_neg h3, if_neg h3]
        exact .inr (.inl ⟨h1, by unfold codeT; rw [h2, then_no], h3, rfl⟩)
      · rw [if_pos h4, if_pos h4]
        exact .inr (.inl ⟨h1, by unfold codeT; rw [h2, then_ok]; simp only; rw [if_neg hv], by decide, rfl⟩)
    go_wp2_with (first | (go_at_call 124; refine HV.out.mono ?_; rintro r w3 ⟨rfl, hb3⟩; have k3 := (hb3.cell (p := ⟨w1.heap.size, 1, none⟩) (by have := hb2.size; simp at this; show w1.heap.size < _; omega)).trans k1; have hp3 := hp2.over hb3; have hf3 := hf2.over hb3; have hT3 : w1.heap.size < w3.heap.size := (by have h1 := hb2.size; have h2 := hb3.size; simp at h1; omega)) | (go_at_call 17; refine (qfail_any (hp3.alloc _) at_ 12).mono ?_; rintro r w4 ⟨rfl, hp4, hf4⟩; have hf4' := (hf3.alloc _).trans hf4; obtain ⟨f0, y0⟩ := hf4'.kept hlt 0; obtain ⟨f1, y1⟩ := hf4'.kept hlt 1; simp at f0 f1 y0 y1; obtain ⟨d0, x0⟩ := hf4.kept hp3.lt 0; obtain ⟨d1, x1⟩ := hf4.kept hp3.lt 1; simp at d0 d1; have k4 := (hf4.cell ⟨w1.heap.size, 1, none⟩ (by simp; omega) (by show w1.heap.size ≠ P; omega)).trans ((World.cell?_alloc_lt _ _ _ (by show w1.heap.size < _; omega)).trans k3)))
    go_region
    go_wp2
    obtain ⟨s0, s1⟩ := two_set f0 f1 (.int .i64 0) (.int .i64 0)
    have s0' : ((w4.setCell ⟨w.heap.size, 0, none⟩ (.int .i64 0)).setCell ⟨w.heap.size, 1, none⟩ (.int .i64 0)).drew.cell? ⟨w.heap.size, 0, none⟩ = some (.int .i64 0) := s0
    have s1' : ((w4.setCell ⟨w.heap.size, 0, none⟩ (.int .i64 0)).setCell ⟨w.heap.size, 1, none⟩ (.int .i64 0)).drew.cell? ⟨w.heap.size, 1, none⟩ = some (.int .i64 0) := s1
    refine bodyPost_ret (v := _) (by simp [results, Tryz.results115, go_sem, s0', s1']; try rfl) rfl ⟨(⟨0, 0⟩, at_), i1, _, _, rfl, ((hp4.far hlt 0 _).far hlt 1 _).drew, hi1, (((((Fr.refl w P).alloc _).trans hf4').far (Nat.le_refl _) 0 _).far (Nat.le_refl _) 1 _).drew, hoc2⟩
set_option maxRecDepth 100000 in
set_option maxHeartbeats 4000000 in
theorem qnumber_any (h : Qs w P A c L i en vc vi a e) (hi : i ≤ L.length) (hL : Sm L) (more : Int) (hm0 : -8589934592 ≤ more) (hm1 : more ≤ 8589934592) :
    Calls Tryz.prog 114 #[.pointer (some ⟨P, 0, none⟩), .int .i64 more] w fun r w' => ∃ (x : Int) (i' : Nat) (a' e' : Int), r = .returned (.int .i64 x) ∧ Qs w' P A c L i' en vc vi a' e' ∧ i' ≤ L.length ∧ Fr w w' P ∧ Oc (toT L en more i) (fun _ => True) i a e x i' a' e' := by
  have hT := qtake_any h hi hL 1
  have HT := Lib.hid hT
  clear hT h
  go_enter Tryz.func114, Tryz.ntmps114
  go_wp2_with fail
  refine HT.out.mono ?_
  rintro r w1 ⟨t, i1, a1, e1, rfl, hp1, hi1, hts, hf1, hoc⟩
  clear HT
  obtain ⟨kind, at_, n, s⟩ := t
  unfold tv
  simp only
  have hlt1 := hp1.lt
  by_cases hv : n < 0 ∨ 65535 - more < n
  · have hoc2 : Oc (toT L en more i) (fun _ => True) i a e n i1 (if e1 = 0 then at_ else a1) (if e1 = 0 then 7 else e1) := by
      rcases hoc with ⟨h1, h2, h3, h4, _⟩ | ⟨h1, h2, h3, _⟩ | ⟨h1, h2, h3, h4⟩
      · rw [if_neg (by rw [h4]; exact h1), if_neg (by rw [h4]; exact h1)]
        exact .inl ⟨h1, h2, h3, h4, trivial⟩
      · rw [if_neg h3, if_neg h3]
        exact .inr (.inl ⟨h1, by unfold toT; rw [h2, then_no], h3, trivial⟩)
      · rw [if_pos h4, if_pos h4]
        exact .inr (.inl ⟨h1, by unfold toT; rw [h2, then_ok]; simp only; rw [if_pos hv], by decide, trivial⟩)
    have hcs : decide (n < 0) = true ∨ (decide (n < 0) = false ∧ decide (65535 - more < n) = true) := by simp; omega
    clear hoc hv
    rcases hcs with d1 | ⟨d1, d2⟩
    all_goals
      go_wp2_with (go_at_call 17; refine (qfail_any (hp1.alloc _) at_ 7).mono ?_; rintro r w4 ⟨rfl, hp4, hf4⟩; have k2 := (hf4.kept hlt1 2).1; simp at k2)
      go_ret
      exact ⟨n, i1, _, _, rfl, hp4, hi1, (hf1.alloc _).trans hf4, hoc2⟩
  · have hoc2 : Oc (toT L en more i) (fun _ => True) i a e n i1 a1 e1 := by
      rcases hoc with ⟨h1, h2, h3, h4, _⟩ | ⟨h1, h2, h3, _⟩ | ⟨h1, h2, h3, h4⟩
      · exact .inl ⟨h1, h2, h3, h4, trivial⟩
      · exact .inr (.inl ⟨h1, by unfold toT; rw [h2, then_no], h3, trivial⟩)
      · exact .inr (.inr ⟨h1, by unfold toT; rw [h2, then_ok]; simp only; rw [if_neg hv], h3, h4⟩)
    have d1 : decide (n < 0) = false := by simp; omega
    have d2 : decide (65535 - more < n) = false := by simp; omega
    clear hoc hv
    go_wp2
    refine bodyPost_ret (v := _) (by simp [results, Tryz.results114, go_sem]; try rfl) rfl ⟨n, rfl, i1, a1, e1, hp1.alloc _, hi1, hf1.alloc _, hoc2⟩

end
end Go.Proofs.YthcnjiigkmljnaaGreatDoor
/-
  The program's parser: below, byteBelow, codes.
-/
namespace Go.Proofs.YthcnjiigkmljnaaGreatDoor
open Go.RowKit

theorem qbelow_any (ln lv hn hv : Int) (w : World) :
    Calls Tryz.prog 113 #[.agg #[.int .i64 ln, .int .i64 lv], .agg #[.int .i64 hn, .int .i64 hv]] w fun r w' => r = .returned (.bool (decide (hv < lv))) ∧ Below w.heap.size w w' := by
  have ba := (((Below.refl w.heap.size w).alloc (Nat.le_refl _) (.cells #[.int .i64 ln, .int .i64 lv] 47)).alloc (by simp) (.cells #[.int .i64 hn, .int .i64 hv] 47))
  go_enter Tryz.func113, Tryz.ntmps113
  go_wp2
  go_ret
  exact ⟨rfl, ba⟩

set_option maxRecDepth 100000 in
set_option maxHeartbeats 4000000 in
theorem qbyteBelow_any (ln lv hn hv : Int) (w : World) (hle : (codeL ln lv).length ≤ (codeL hn hv).length) :
    Calls Tryz.prog 112 #[.agg #[.int .i64 ln, .int .i64 lv], .agg #[.int .i64 hn, .int .i64 hv]] w fun r w' => r = .returned (.bool (lowB ⟨hn, hv⟩ ⟨ln, lv⟩)) ∧ Below w.heap.size w w' := by
  have hxl := codeL_le ln lv
  have hlow : lowB ⟨hn, hv⟩ ⟨ln, lv⟩ = lowL (codeL hn hv) (codeL ln lv) := rfl
  rw [hlow]
  have hA : ∀ w, Calls Tryz.prog 123 #[.agg #[.int .i64 ln, .int .i64 lv]] w (RetSl w (codeL ln lv)) := fun w => Bytes_any ln lv w
  have hB : ∀ w, Calls Tryz.prog 123 #[.agg #[.int .i64 hn, .int .i64 hv]] w (RetSl w (codeL hn hv)) := fun w => Bytes_any hn hv w
  have HA := Lib.hid hA
  have HB := Lib.hid hB
  clear hA hB hlow
  generalize codeL ln lv = y at *
  generalize codeL hn hv = x at *
  have ba := (((Below.refl w.heap.size w).alloc (Nat.le_refl _) (.cells #[.int .i64 ln, .int .i64 lv] 47)).alloc (by simp) (.cells #[.int .i64 hn, .int .i64 hv] 47))
  go_enter Tryz.func112, Tryz.ntmps112
  go_wp2_with fail
  refine (HB.out _).mono ?_
  rintro r w1 ⟨A1, c1, rfl, hc1, hs1, hb1⟩
  have k0 : w1.cell? ⟨w.heap.size, 0, none⟩ = some (.int .i64 ln) := (hb1.cell (p := ⟨w.heap.size, 0, none⟩) (by simp; omega)).trans (by simp)
  have k1 : w1.cell? ⟨w.heap.size, 1, none⟩ = some (.int .i64 lv) := (hb1.cell (p := ⟨w.heap.size, 1, none⟩) (by simp; omega)).trans (by simp)
  have bw1 := ba.trans (hb1.mono ba.size)
  go_wp2_with fail
  refine (HA.out _).mono ?_
  rintro r w2 ⟨A2, c2, rfl, hc2, hs2, hb2⟩
  have hs1' := hs1.over hb2
  have bw2 := bw1.trans (hb2.mono bw1.size)
  clear hs1 hb1 hb2 k0 k1 bw1 ba HA HB
  have H0 : Hid (lowL (x.drop 0) (y.drop 0) = lowL x y) := Lib.hid rfl
  go_wp2
  go_loopw [13] (fun i wr => ∃ k : Nat, k ≤ y.length ∧ i = .int .i64 (k : Int) ∧ Hid (lowL (x.drop k) (y.drop k) = lowL x y) ∧ Below w2.heap.size w2 wr) (fun i _ => 5 - (intOf i).toNat)
  case atStart => exact ⟨0, by omega, rfl, H0, Below.refl _ _⟩
  case round =>
    obtain ⟨k, hk, rfl, HL, hbel⟩ := hrel
    by_cases hy : k < y.length
    · have t2 : decide (k < y.length) = true := by simp; omega
      have hx : k < x.length := by omega
      have t1 : decide (k < x.length) = true := by simp; omega
      obtain ⟨b1, o1, rfl, hbl1, hcl1⟩ := hs1' (by omega)
      obtain ⟨b2, o2, rfl, hbl2, hcl2⟩ := hs2 (by omega)
      obtain ⟨p, hp⟩ : ∃ p, p = x[k]?.getD 0 := ⟨_, rfl⟩
      obtain ⟨q, hq⟩ : ∃ q, q = y[k]?.getD 0 := ⟨_, rfl⟩
      have g1 : wr.cell? ⟨b1, o1 + k, none⟩ = some (.int .u8 (p.toNat : Int)) := by rw [hp]; exact (hbel.cell (p := ⟨b1, o1 + k, none⟩) hbl1).trans (hcl1 k hx)
      have g2 : wr.cell? ⟨b2, o2 + k, none⟩ = some (.int .u8 (q.toNat : Int)) := by rw [hq]; exact (hbel.cell (p := ⟨b2, o2 + k, none⟩) hbl2).trans (hcl2 k hy)
      have hl := lowL_at hx hy hp hq
      have hp1 := p.toNat_lt
      have hq1 := q.toNat_lt
      rw [HL.out] at hl
      clear hcl1 hcl2 hp hq
      by_cases hpq : p.toNat < q.toNat
      · have HV : Hid (lowL x y = true) := Lib.hid (by rw [hl]; simp [hpq])
        have t3 : decide (p.toNat < q.toNat) = true := by simp; omega
        have t3' : decide ((p.toNat : Int) < (q.toNat : Int)) = true := by simp; omega
        clear hl
        go_wp2
        go_ret
        rw [HV.out]
        exact ⟨rfl, bw2.trans (hbel.mono bw2.size)⟩
      · have HL2 : Hid (lowL (x.drop (k + 1)) (y.drop (k + 1)) = lowL x y) := Lib.hid (by rw [hl]; simp [hpq])
        have t3 : decide (p.toNat < q.toNat) = false := by simp; omega
        have t3' : decide ((p.toNat : Int) < (q.toNat : Int)) = false := by simp; omega
        clear hl
        go_wp2
        go_roundw
        case rel => exact ⟨k + 1, by omega, by go_num, HL2, hbel⟩
        case measure => simp [intOf]; omega
    · have t2 : decide (k < y.length) = false := by simp; omega
      have HV : Hid (lowL x y = false) := Lib.hid (by rw [← HL.out]; exact lowL_end (.inr (by omega)))
      go_wp2
      go_ret
      rw [HV.out]
      exact ⟨rfl, bw2.trans (hbel.mono bw2.size)⟩
end Go.Proofs.YthcnjiigkmljnaaGreatDoor
/-
  utf.Units: the units of bytes.
-/
namespace Go.Proofs.YthcnjiigkmljnaaGreatDoor
open Go.RowKit

set_option maxHeartbeats 2000000 in
theorem Units_new (A : Option Addr) (c : Nat) (l : List UInt8) (w : World) (hA : Sl w w.heap.size A l) (hl : l.length ≤ 1048576) :
    Calls Tryz.prog 125 #[.slice A l.length c] w (RetSiN w (units l) (oddB l)) := by
  obtain ⟨i0, hi, hz0, hz1, hz2⟩ := info_parts info64
  go_enter Tryz.func125, Tryz.ntmps125
  go_wp2_with (at_make; refine wpList_make_own _ rfl _ _ _ rfl w.heap.size 3 i0 (.int .i64 0) 1 Tryz.underlying48 hi hz0 hz1 .i64 .i64 _ (l.length / 2) rfl rfl (by omega) (by rw [hz2]; omega) (by unfold maxLen; omega) (Nat.le_refl _) ?_; intro w1 hown1 hgrow1)
  have hb1 : Below w.heap.size w w1 := (Below.refl _ _).grown hgrow1 (Nat.le_refl _) (by simp)
  clear hgrow1
  generalize (Value.slice (some ⟨w.heap.size, 0, none⟩) 0 (l.length / 2)) = v1 at *
  go_loopw [4, 5] (fun v i wr => ∃ (j : Nat) (out : List Int), j ≤ l.length ∧ i = .int .i64 ((j : Int) + 1) ∧ out.length ≤ j ∧ Hid (out ++ units (l.drop j) = units l) ∧ wr.ownsRow w.heap.size 3 1 v out.length (ivs out) ∧ Below w.heap.size w wr) (fun _ i _ => l.length + 1 - (intOf i).toNat)
  case atStart => exact ⟨0, [], Nat.zero_le _, rfl, by simp, by rfl, by simpa [ivs] using hown1, hb1⟩
  case round =>
    obtain ⟨j, out, hj, rfl, hout, HE, hown, hbel⟩ := hrel
    by_cases hlt : j + 1 < l.length
    · obtain ⟨b, o, rfl, hbl, hc⟩ := hA (by omega)
      obtain ⟨x, hx⟩ : ∃ x, x = l[j]?.getD 0 := ⟨_, rfl⟩
      obtain ⟨y, hy⟩ : ∃ y, y = l[j + 1]?.getD 0 := ⟨_, rfl⟩
      have hcell : wr.cell? ⟨b, o + j, none⟩ = some (.int .u8 (x.toNat : Int)) := by rw [hx]; exact (hbel.cell (p := ⟨b, o + j, none⟩) hbl).trans (hc j (by omega))
      have hcell2 : wr.cell? ⟨b, o + (j + 1), none⟩ = some (.int .u8 (y.toNat : Int)) := by rw [hy]; exact (hbel.cell (p := ⟨b, o + (j + 1), none⟩) hbl).trans (hc (j + 1) hlt)
      have HX := Lib.hid hx
      have HY := Lib.hid hy
      clear hc hx hy
      have hsz := hbel.size
      have hx1 := x.toNat_lt
      have hy1 := y.toNat_lt
      have hlt' : (j : Int) + 1 < (l.length : Int) := by omega
      have j0 : (0 : Int) ≤ (j : Int) := by omega
      have j1 : (j : Int) < (l.length : Int) := by omega
      have j2 : (0 : Int) ≤ (j : Int) + 1 := by omega
      have hBel1 : b < wr.heap.size := by omega
      have wj1 : IntKind.i64.wrap ((j : Int) + 1) = (j : Int) + 1 := IntWalk.i64_in _ (by omega)
      have w2 : IntKind.i64.wrap (j : Int) = (j : Int) := IntWalk.i64_in _ (by omega)
      have w3 : IntKind.i64.wrap (x.toNat : Int) = (x.toNat : Int) := IntWalk.i64_in _ (by omega)
      have w4 : IntKind.i64.wrap (y.toNat : Int) = (y.toNat : Int) := IntWalk.i64_in _ (by omega)
      have w5 : IntKind.i64.wrap ((x.toNat : Int) * 256) = (x.toNat : Int) * 256 := IntWalk.i64_in _ (by omega)
      have w6 : IntKind.i64.wrap ((x.toNat : Int) * 256 + (y.toNat : Int)) = (x.toNat : Int) * 256 + (y.toNat : Int) := IntWalk.i64_in _ (by omega)
      have w7 := or_byte (x.toNat : Int) y.toNat (by omega) (by omega) (by omega)
      have t1 : ((j : Int) + 1).toNat = j + 1 := by omega
      go_wp2
      go_region_held_law (fun w' => w'.cell? ⟨b, o + j, none⟩ = some (.int .u8 (x.toNat : Int)) ∧ w'.cell? ⟨b, o + (j + 1), none⟩ = some (.int .u8 (y.toNat : Int)))
        (first | exact ⟨hcell, hcell2⟩ | exact ⟨(World.cell?_alloc_lt _ _ _ hBel1).trans hcell, (World.cell?_alloc_lt _ _ _ hBel1).trans hcell2⟩ | exact hcells)
        ((refine step_append_lies _ (by rfl) _ _ _ (by rfl) w.heap.size 3 i0 (.int .i64 0) 1 8 Tryz.underlying48 hi hz0 hz1 hz2 rfl (by omega) u4 _ _ (by rfl) (hown.alloc _).drew ⟨wr.heap.size, 0, none⟩ 1 1 (ivs [(x.toNat : Int) * 256 + (y.toNat : Int)]) (by rfl) (by rfl) (World.news_of_block (heap_alloc_new wr _)) (ivs_one _) (by omega) (by unfold maxLen; omega) (by omega) (by simp; omega) _ rfl ?_; intro g cap w1 hown1 hgrow hat hgl; have hb2 : Below w.heap.size w w1 := ((hbel.alloc hsz _).drew).grown hgrow (by simp; omega) (fun q hq => (hown.lt q hq).1); have hcells : w1.cell? ⟨b, o + j, none⟩ = some (.int .u8 (x.toNat : Int)) ∧ w1.cell? ⟨b, o + (j + 1), none⟩ = some (.int .u8 (y.toNat : Int)) := ⟨(hb2.cell (p := ⟨b, o + j, none⟩) hbl).trans ((hbel.cell (p := ⟨b, o + j, none⟩) hbl).symm.trans hcell), (hb2.cell (p := ⟨b, o + (j + 1), none⟩) hbl).trans ((hbel.cell (p := ⟨b, o + (j + 1), none⟩) hbl).symm.trans hcell2)⟩))
      all_goals
        have hown2 := own_ints (b := [(x.toNat : Int) * 256 + (y.toNat : Int)]) hown1 (by simp)
        clear hown1 hgrow hat hgl hcells hcell hcell2 w2 w3 w4 w5 w6 w7 t1
        clear wj1
        go_wp2
        go_roundw
        case rel => exact ⟨j + 2, _, by omega, by go_num, by simp; omega, units_at hlt HX.out HY.out HE.out, hown2, hb2⟩
        case measure => simp [intOf]; omega
    · have he : out = units l := by
        have := HE.out
        rw [units_short (by rw [List.length_drop]; omega)] at this
        simpa using this
      subst he
      obtain ⟨c', _, hc', A', hv, hsl⟩ := Si.of_own hown
      subst hv
      have hnew : ∀ g o, A' = some ⟨g, o, none⟩ → w.heap.size ≤ g := fun g o e => (hown.lt g (by rw [e]; rfl)).1
      have hlt' : ¬ (j : Int) + 1 < (l.length : Int) := by omega
      rcases Nat.mod_two_eq_zero_or_one l.length with hm | hm
      · have ho : oddB l = false := by simp [oddB, hm]
        have HO := Lib.hid ho
        have hm' : ((l.length : Int) % 2 == 1) = false := by rw [beq_eq_false_iff_ne]; omega
        clear hm ho
        go_wp2
        go_ret2
        rw [HO.out]
        exact ⟨A', c', rfl, hc', hsl, hnew, hbel⟩
      · have ho : oddB l = true := by simp [oddB, hm]
        have HO := Lib.hid ho
        have hm' : ((l.length : Int) % 2 == 1) = true := by rw [beq_iff_eq]; omega
        clear hm ho
        go_wp2
        go_ret2
        rw [HO.out]
        exact ⟨A', c', rfl, hc', hsl, hnew, hbel⟩
theorem Units_any (A : Option Addr) (c : Nat) (l : List UInt8) (w : World) (hA : Sl w w.heap.size A l) (hl : l.length ≤ 1048576) :
    Calls Tryz.prog 125 #[.slice A l.length c] w (RetSiB w (units l) (oddB l)) :=
  (Units_new A c l w hA hl).mono fun _ _ ⟨A', c', h1, h2, h3, _, h5⟩ => ⟨A', c', h1, h2, h3, h5⟩
end Go.Proofs.YthcnjiigkmljnaaGreatDoor
/-
  A row of the call's own that is appended to, whose cells lead to other rows: what stays.
-/
namespace Go.Proofs.YthcnjiigkmljnaaGreatDoor
open Go.RowKit

/-- Blocks below B, and the row's own. -/
def Xv (B : Nat) (v : Value) (b : Nat) : Prop := b < B ∨ v.ownBlock = some b
theorem own_kp {w w' : World} {X : Nat → Prop} {base k n : Nat} {e : TypeId} {v : Value} {xs : List Value} (h : w.ownsRow base e k v n xs) (hk : Kp w w' X) (hx : ∀ b, v.ownBlock = some b → ¬ X b) : w'.ownsRow base e k v n xs := by
  refine ⟨h.1, ?_⟩
  rcases h.2 with hn | ⟨g, cap, cur, rfl, h1, hg, rest⟩
  · exact .inl hn
  · refine .inr ⟨g, cap, cur, rfl, h1, ?_, rest⟩
    rw [hk.block g (Array.getElem?_eq_some_iff.1 hg).1 (hx g rfl)]
    exact hg
theorem own_fr {w w' : World} {P base k n : Nat} {e : TypeId} {v : Value} {xs : List Value} (h : w.ownsRow base e k v n xs) (hf : Fr w w' P) (hP : P < base) : w'.ownsRow base e k v n xs :=
  own_kp h (Kp.of_fr (X := fun b => b = P) hf (fun _ => rfl)) (fun b hb e => by have := (h.lt b hb).1; omega)
section
variable {wr w2 wa w3 : World} {B P g n cap : Nat} {v : Value}
/-- What stays of older cells, over an append. -/
theorem push_old (hf : Fr wr w2 P) (hP : P < B) (hb : Below w2.heap.size w2 wa) (hgrow : wa.grownBy w3 v.ownBlock) : Kp wr w3 (Xv B v) :=
  ((Kp.of_fr hf (fun _ => .inl hP)).trans (Kp.of_below hb)).trans (Kp.of_grown hgrow (fun _ h => .inr h))
theorem push_oldX (hle : wr.heap.size ≤ wa.heap.size) (hat : v.ownBlock = some g ∨ g = wa.heap.size) : ∀ b, b < wr.heap.size → Xv B (.slice (some ⟨g, 0, none⟩) n cap) b → Xv B v b := by
  rintro b hb (h | h)
  · exact .inl h
  · have hgb : g = b := by simpa [Value.ownBlock] using h
    subst hgb
    rcases hat with h | h
    · exact .inr h
    · omega
/-- What stays of the new ones. -/
theorem push_new {M : Nat} (hv : ∀ b, v.ownBlock = some b → b < M) (hb : Below w2.heap.size w2 wa) (hgrow : wa.grownBy w3 v.ownBlock) : Kp w2 w3 (fun b => b < M) :=
  (Kp.of_below hb).trans (Kp.of_grown hgrow hv)
theorem push_newX {M : Nat} (hBM : B ≤ M) (hv : ∀ b, v.ownBlock = some b → b < M) (hle : w2.heap.size ≤ wa.heap.size) (hat : v.ownBlock = some g ∨ g = wa.heap.size) : ∀ b, b < w2.heap.size → Xv B (.slice (some ⟨g, 0, none⟩) n cap) b → b < M := by
  rintro b hb (h | h)
  · omega
  · have hgb : g = b := by simpa [Value.ownBlock] using h
    subst hgb
    rcases hat with h | h
    · exact hv g h
    · omega
end
/-- How far the parser still has to go: nothing with an error. -/
def mQ (w : World) (P n : Nat) : Nat := match w.cell? ⟨P, 6, none⟩, w.cell? ⟨P, 2, none⟩ with
  | some (.int _ e), some (.int _ i) => if e = 0 then n + 1 - i.toNat else 0
  | _, _ => 0
theorem Qs.mq {w : World} {P : Nat} {A : Option Addr} {c : Nat} {L : List Tk} {i : Nat} {en a e : Int} {vc vi : Value} (h : Qs w P A c L i en vc vi a e) (n : Nat) : mQ w P n = if e = 0 then n + 1 - i else 0 := by
  unfold mQ
  rw [h.c6, h.c2]
  simp
end Go.Proofs.YthcnjiigkmljnaaGreatDoor
/-
  Words of sections, as plain lists.
-/
namespace Go.Proofs.YthcnjiigkmljnaaGreatDoor
open Go.RowKit

theorem wordL_le (kind : Int) : (wordL kind).length ≤ 14 := by
  unfold wordL
  repeat' split
  all_goals decide

/-- The kind that a word begins, from a kind on. -/
def bgF (s : List UInt8) (k : Nat) : Int := if k ≤ 8 then (if s = beginL (k : Int) then (k : Int) else bgF s (k + 1)) else 0
termination_by 9 - k
theorem bgF_yes {s : List UInt8} {k : Nat} (hk : k ≤ 8) (h : s = beginL (k : Int)) : bgF s k = (k : Int) := by rw [bgF, if_pos hk, if_pos h]
theorem bgF_no {s : List UInt8} {k : Nat} (hk : k ≤ 8) (h : s ≠ beginL (k : Int)) : bgF s k = bgF s (k + 1) := by rw [bgF, if_pos hk, if_neg h]
theorem bgF_end {s : List UInt8} {k : Nat} (hk : 8 < k) : bgF s k = 0 := by rw [bgF, if_neg (by omega)]
theorem begunT_eq (s : List UInt8) : begunT s = bgF s 2 := by
  unfold begunT
  by_cases h2 : s = beginL 2
  · rw [if_pos h2, bgF_yes (k := 2) (by decide) h2]; rfl
  rw [if_neg h2, bgF_no (k := 2) (by decide) h2]
  by_cases h3 : s = beginL 3
  · rw [if_pos h3, bgF_yes (k := 3) (by decide) h3]; rfl
  rw [if_neg h3, bgF_no (k := 3) (by decide) h3]
  by_cases h4 : s = beginL 4
  · rw [if_pos h4, bgF_yes (k := 4) (by decide) h4]; rfl
  rw [if_neg h4, bgF_no (k := 4) (by decide) h4]
  by_cases h5 : s = beginL 5
  · rw [if_pos h5, bgF_yes (k := 5) (by decide) h5]; rfl
  rw [if_neg h5, bgF_no (k := 5) (by decide) h5]
  by_cases h6 : s = beginL 6
  · rw [if_pos h6, bgF_yes (k := 6) (by decide) h6]; rfl
  rw [if_neg h6, bgF_no (k := 6) (by decide) h6]
  by_cases h7 : s = beginL 7
  · rw [if_pos h7, bgF_yes (k := 7) (by decide) h7]; rfl
  rw [if_neg h7, bgF_no (k := 7) (by decide) h7]
  by_cases h8 : s = beginL 8
  · rw [if_pos h8, bgF_yes (k := 8) (by decide) h8]; rfl
  rw [if_neg h8, bgF_no (k := 8) (by decide) h8, bgF_end (k := 9) (by decide)]

end Go.Proofs.YthcnjiigkmljnaaGreatDoor
/-
  A text's bytes by place, pieces of it, and string(b).
-/
namespace Go.Proofs.YthcnjiigkmljnaaGreatDoor
open Go.RowKit

theorem get_str (l : List UInt8) : ∀ (n : Nat) (h : n < (str l).size), (str l)[n]'h = l[n]?.getD 0 := fun n h => by
  have hn : n < l.length := by rwa [str_size] at h
  rw [List.getElem?_eq_getElem hn]
  rfl
theorem conv8 {w : World} {B : Nat} {A : Option Addr} {l : List UInt8} (h : Sl w B A l) (c : Nat) : (convert 93 9 (.slice A l.length c)).run Tryz.prog w = .ok (.string (str l)) w :=
  run_str (P := Tryz.prog) h c 93 9 5 Tryz.underlying93 Tryz.underlying5 Tryz.underlying9
theorem run_from {P : Program} (l : List UInt8) (k : Nat) (h : k ≤ l.length) (t : TypeId) (ht : P.underlying t = some .string) (wx : World) : (Instr.slice t (.string (str l)) (some (.int .i64 (k : Int))) none none).run P wx = .ok (.string (str (l.drop k))) wx := by
  rw [run_slice_string_from_if wx t (str l) .i64 (k : Int) ht]
  have h0 : (0 : Int) ≤ (k : Int) := by omega
  have h1 : (k : Int) ≤ (l.length : Int) := by omega
  simp [str_size, str_extract, h]
  exact str_inj (List.take_of_length_le (by simp))
theorem run_mid {P : Program} (l : List UInt8) (a b : Nat) (hab : a ≤ b) (hb : b ≤ l.length) (t : TypeId) (ht : P.underlying t = some .string) (wx : World) : (Instr.slice t (.string (str l)) (some (.int .i64 (a : Int))) (some (.int .i64 (b : Int))) none).run P wx = .ok (.string (str ((l.drop a).take (b - a)))) wx := by
  rw [run_slice_string_if wx t (str l) .i64 .i64 (a : Int) (b : Int) ht]
  simp [str_size, str_extract, hab, hb]
end Go.Proofs.YthcnjiigkmljnaaGreatDoor
/-
  What the program's parser has put together so far, in memory: what is open, and the items; what an append to either leaves.
-/
namespace Go.Proofs.YthcnjiigkmljnaaGreatDoor
open Go.RowKit

/-- Blocks up to the parser's, and the two rows' own. -/
def Yv (P : Nat) (vc vi : Value) (b : Nat) : Prop := b < P + 1 ∨ vc.ownBlock = some b ∨ vi.ownBlock = some b
structure Js (w : World) (P : Nat) (vc vi : Value) (op : List Int) (acc : List Im) : Prop where
  oc : w.ownsRow (P + 1) 3 1 vc op.length (op.reverse.flatMap uq)
  oi : ∃ d : List (Im × Value), acc = d.map (·.1) ∧ w.ownsRow (P + 1) 45 8 vi d.length (d.flatMap iq) ∧ ∀ p ∈ d, Ex w (Yv P vc vi) p.2 p.1.ents
theorem row_ne {w : World} {b b' s s' n n' : Nat} {e e' : TypeId} {v v' : Value} {xs xs' : List Value} (h : w.ownsRow b e s v n xs) (h' : w.ownsRow b' e' s' v' n' xs') (hne : e ≠ e') : ∀ g, v.ownBlock = some g → v'.ownBlock ≠ some g := by
  intro g hg hg'
  rcases h.2 with ⟨rfl, _⟩ | ⟨g1, cap, cur, rfl, _, hh, _⟩
  · simp [Value.ownBlock] at hg
  · rcases h'.2 with ⟨rfl, _⟩ | ⟨g2, cap', cur', rfl, _, hh', _⟩
    · simp [Value.ownBlock] at hg'
    · simp [Value.ownBlock] at hg hg'
      subst hg hg'
      rw [hh] at hh'
      simp at hh'
      exact hne hh'.2
theorem row_shape {w : World} {b s n : Nat} {e : TypeId} {v : Value} {xs : List Value} (h : w.ownsRow b e s v n xs) : ∃ A c, v = .slice A n c ∧ n ≤ c := by
  rcases h.2 with ⟨rfl, h0⟩ | ⟨g, cap, cur, rfl, _, _, hc, _⟩
  · exact ⟨none, 0, by rw [h0], by omega⟩
  · exact ⟨_, cap, rfl, hc⟩
section
variable {w w' wa w1 : World} {P : Nat} {vc vi : Value} {op : List Int} {acc : List Im}
theorem Js.fr (h : Js w P vc vi op acc) (hf : Fr w w' P) : Js w' P vc vi op acc := by
  obtain ⟨d, e, ho, hn⟩ := h.oi
  exact ⟨own_fr h.oc hf (Nat.lt_succ_self P), d, e, own_fr ho hf (Nat.lt_succ_self P), fun p hp => (hn p hp).to (Kp.of_fr hf (fun _ => .inl (Nat.lt_succ_self P))) (fun _ _ h => h)⟩
theorem Js.over (h : Js w P vc vi op acc) (hb : Below w.heap.size w w') : Js w' P vc vi op acc := h.fr ((Fr.refl w P).over hb)
/-- An item more. -/
theorem Js.item (h : Js w P vc vi op acc) (hlt : P < w.heap.size) (hf : Fr w wa P) {im : Im} {ve : Value} {g n cap : Nat} (hx : Ex wa (fun b => b < w.heap.size) ve im.ents)
    (hgrow : wa.grownBy w1 vi.ownBlock) (hat : vi.ownBlock = some g ∨ g = wa.heap.size) (d : List (Im × Value)) (hacc : acc = d.map (·.1)) (ho : w.ownsRow (P + 1) 45 8 vi d.length (d.flatMap iq)) (hn : ∀ p ∈ d, Ex w (Yv P vc vi) p.2 p.1.ents)
    (hown : w1.ownsRow (P + 1) 45 8 (.slice (some ⟨g, 0, none⟩) n cap) (d.length + 1) (d.flatMap iq ++ iq (im, ve))) :
    Js (w1.setCell ⟨P, 4, none⟩ (.slice (some ⟨g, 0, none⟩) n cap)) P vc (.slice (some ⟨g, 0, none⟩) n cap) op (acc ++ [im]) := by
  have hset : Fr w1 (w1.setCell ⟨P, 4, none⟩ (.slice (some ⟨g, 0, none⟩) n cap)) P := (Fr.refl w1 P).set 4 _
  have hsz := hf.size
  have lti := ho.lt
  have ltc := h.oc.lt
  refine ⟨?_, d ++ [(im, ve)], by rw [hacc, List.map_append]; rfl, ?_, ?_⟩
  · exact own_fr (own_kp (own_fr h.oc hf (Nat.lt_succ_self P)) (Kp.of_grown (X := fun b => vi.ownBlock = some b) hgrow (fun _ h => h)) (row_ne h.oc ho (by decide))) hset (Nat.lt_succ_self P)
  · rw [flat_snoc, List.length_append]
    exact own_fr hown hset (Nat.lt_succ_self P)
  · intro p hp
    rcases List.mem_append.1 hp with hp | hp
    · refine (hn p hp).to (((Kp.of_fr hf (fun _ => .inl (Nat.lt_succ_self P))).trans (Kp.of_grown hgrow (fun _ h => .inr (.inr h)))).trans (Kp.of_fr hset (fun _ => .inl (Nat.lt_succ_self P)))) ?_
      rintro b hb (h1 | h1 | h1)
      · exact .inl h1
      · exact .inr (.inl h1)
      · have hgb : g = b := by simpa [Value.ownBlock] using h1
        subst hgb
        rcases hat with h2 | h2
        · exact .inr (.inr h2)
        · omega
    · obtain rfl : p = (im, ve) := by simpa using hp
      refine hx.to ((Kp.of_grown hgrow (fun b hb => (lti b hb).2)).trans (Kp.of_fr hset (fun _ => hlt))) ?_
      rintro b hb (h1 | h1 | h1)
      · show b < w.heap.size; omega
      · exact (ltc b h1).2
      · have hgb : g = b := by simpa [Value.ownBlock] using h1
        subst hgb
        rcases hat with h2 | h2
        · exact (lti g h2).2
        · omega
/-- One deeper. -/
theorem Js.open (h : Js w P vc vi op acc) (hf : Fr w wa P) {k : Int} {g n cap : Nat} (hgrow : wa.grownBy w1 vc.ownBlock) (hat : vc.ownBlock = some g ∨ g = wa.heap.size)
    (hown : w1.ownsRow (P + 1) 3 1 (.slice (some ⟨g, 0, none⟩) n cap) (op.length + 1) (op.reverse.flatMap uq ++ uq k)) :
    Js (w1.setCell ⟨P, 3, none⟩ (.slice (some ⟨g, 0, none⟩) n cap)) P (.slice (some ⟨g, 0, none⟩) n cap) vi (k :: op) acc := by
  have hset : Fr w1 (w1.setCell ⟨P, 3, none⟩ (.slice (some ⟨g, 0, none⟩) n cap)) P := (Fr.refl w1 P).set 3 _
  have hsz := hf.size
  obtain ⟨d, hacc, ho, hn⟩ := h.oi
  refine ⟨?_, d, hacc, ?_, ?_⟩
  · rw [List.reverse_cons, flat_snoc, List.length_cons]
    exact own_fr hown hset (Nat.lt_succ_self P)
  · exact own_fr (own_kp (own_fr ho hf (Nat.lt_succ_self P)) (Kp.of_grown (X := fun b => vc.ownBlock = some b) hgrow (fun _ h => h)) (row_ne ho h.oc (by decide))) hset (Nat.lt_succ_self P)
  · intro p hp
    refine (hn p hp).to (((Kp.of_fr hf (fun _ => .inl (Nat.lt_succ_self P))).trans (Kp.of_grown hgrow (fun _ h => .inr (.inl h)))).trans (Kp.of_fr hset (fun _ => .inl (Nat.lt_succ_self P)))) ?_
    rintro b hb (h1 | h1 | h1)
    · exact .inl h1
    · have hgb : g = b := by simpa [Value.ownBlock] using h1
      subst hgb
      rcases hat with h2 | h2
      · exact .inr (.inl h2)
      · omega
    · exact .inr (.inr h1)
/-- One less deep. -/
theorem Js.close {k : Int} {A : Option Addr} {n cap : Nat} (h : Js w P (.slice A (n + 1) cap) vi (k :: op) acc) (hn : n = op.length) :
    Js (w.setCell ⟨P, 3, none⟩ (.slice A n cap)) P (.slice A n cap) vi op acc := by
  subst hn
  have hset : Fr w (w.setCell ⟨P, 3, none⟩ (.slice A op.length cap)) P := (Fr.refl w P).set 3 _
  have hob : (Value.slice A op.length cap).ownBlock = (Value.slice A (op.length + 1) cap).ownBlock := by cases A <;> rfl
  obtain ⟨d, hacc, ho, hnn⟩ := h.oi
  refine ⟨?_, d, hacc, own_fr ho hset (Nat.lt_succ_self P), fun p hp => (hnn p hp).to (Kp.of_fr hset (fun _ => .inl (Nat.lt_succ_self P))) ?_⟩
  · have hc := own_fr h.oc hset (Nat.lt_succ_self P)
    rw [List.reverse_cons, flat_snoc, List.length_cons] at hc
    have hl : (op.reverse.flatMap uq).length = op.length := by rw [flat_len uq_len]; simp
    refine ⟨by rw [hl, Nat.mul_one], ?_⟩
    rcases hc.2 with ⟨e1, _⟩ | ⟨g, cap', cur, e1, hb, hg, hcc, hm, hs, ht⟩
    · cases e1
    · injection e1 with e2 _ e4
      subst e2 e4
      refine .inr ⟨g, cap, cur, rfl, hb, hg, by omega, hm, hs, ?_⟩
      have := congrArg (List.take op.length) ht
      rw [List.take_take, List.take_left' hl] at this
      rw [Nat.mul_one]
      rw [show min op.length ((op.length + 1) * 1) = op.length by omega] at this
      exact this
  · rintro b _ (h1 | h1 | h1)
    · exact .inl h1
    · exact .inr (.inl (hob ▸ h1))
    · exact .inr (.inr h1)
end
theorem infoI : (Tryz.prog.info? 45).map (fun i => (i.zero, i.size, i.bytes)) = some (some (.agg #[.int .i64 0, .int .i64 0, .string ⟨#[]⟩, .int .i64 0, .int .i64 0, .int .i64 0, .string ⟨#[]⟩, .slice none 0 0]), 8, 96) := by kernel_rfl
end Go.Proofs.YthcnjiigkmljnaaGreatDoor
/-
  A string's bytes, as a plain function: which bytes it hangs on; what is written of bytes is read again; brackets in brackets.
-/
namespace Go.Proofs.YthcnjiigkmljnaaGreatDoor

theorem take_of_take {a b : List UInt8} {m j : Nat} (h : a.take m = b.take m) (hj : j ≤ m) : a.take j = b.take j := by
  have := congrArg (List.take j) h
  rwa [List.take_take, List.take_take, Nat.min_eq_left hj] at this
theorem drop_of_take {a b : List UInt8} {m : Nat} (n : Nat) (h : a.take m = b.take m) : (a.drop n).take (m - n) = (b.drop n).take (m - n) := by
  rw [← List.drop_take, ← List.drop_take, h]
theorem len_of_take {a b : List UInt8} {m : Nat} (h : a.take m = b.take m) (hm : m ≤ b.length) : m ≤ a.length := by
  have := congrArg List.length h
  rw [List.length_take, List.length_take] at this
  omega
theorem cons_of_take {a t : List UInt8} {b : UInt8} {m : Nat} (h : a.take (m + 1) = (b :: t).take (m + 1)) : ∃ u, a = b :: u ∧ u.take m = t.take m := by
  cases a with
  | nil => simp at h
  | cons c u => simp only [List.take_succ_cons, List.cons.injEq] at h; exact ⟨u, by rw [h.1], h.2⟩
theorem head_of_take {a b : List UInt8} {m : Nat} (h : a.take m = b.take m) (hm : 1 ≤ m) : a.head? = b.head? := by
  have := take_of_take h hm
  cases a <;> cases b <;> simp_all

/-! ### One step -/
theorem on_le : ∀ (m : Nat) (t : List UInt8), on m t ≤ t.length
  | 0, t => by simp [on]
  | m + 1, [] => by simp [on]
  | m + 1, b :: t => by have := on_le m t; simp only [on]; split <;> simp; omega
theorem on_max : ∀ (m : Nat) (t : List UInt8), on m t ≤ m
  | 0, t => by simp [on]
  | m + 1, [] => by simp [on]
  | m + 1, b :: t => by have := on_max m t; simp only [on]; split <;> omega
theorem on_loc : ∀ (m : Nat) (t u : List UInt8), on m t + 1 ≤ t.length → u.take (on m t + 1) = t.take (on m t + 1) → on m u = on m t
  | 0, t, u, _, _ => by simp [on]
  | m + 1, [], u, h, _ => by simp at h
  | m + 1, b :: t, u, h, hu => by
    obtain ⟨v, rfl, hv⟩ := cons_of_take hu
    cases hb : od b with
    | false => simp [on, hb]
    | true =>
      simp only [on, hb, if_true, List.length_cons] at h hv ⊢
      rw [on_loc m t v (by omega) hv]
theorem len_le (d : List UInt8) : len d ≤ d.length := by
  cases d with
  | nil => simp [len]
  | cons b t =>
    simp only [len]
    repeat' split
    all_goals first | (simp; done) | skip
    cases t with
    | nil => simp_all
    | cons c u => simp
theorem esN_le (d : List UInt8) : esN d ≤ d.length := by
  unfold esN
  have h1 := len_le d
  have h2 : octN d ≤ d.length := on_le 3 d
  repeat' split
  all_goals first | omega | simp
theorem len_loc {t u : List UInt8} (h : len t + 1 ≤ t.length) (hu : u.take (len t + 1) = t.take (len t + 1)) : len u = len t := by
  cases t with
  | nil => simp at h
  | cons b t =>
    obtain ⟨v, rfl, hv⟩ := cons_of_take hu
    simp only [len] at hv ⊢
    by_cases hb : b = 13
    · rw [if_pos hb] at hv
      rw [if_pos hb, if_pos hb]
      have : v.head? = t.head? := head_of_take hv (by split <;> omega)
      rw [this]
    · rw [if_neg hb, if_neg hb]
theorem es_loc {t u : List UInt8} (h : esN t + 1 ≤ t.length) (hu : u.take (esN t + 1) = t.take (esN t + 1)) : esN u = esN t ∧ esB u = esB t := by
  by_cases hl : len t = 0
  · have e0 : len u = 0 := by
      rw [← hl]
      exact len_loc (by omega) (by rw [hl]; exact take_of_take hu (by omega))
    by_cases ho : octN t = 0
    · have e1 : octN u = 0 := by
        have e : on 3 t = 0 := ho
        have := on_loc 3 t u (by rw [e]; omega) (by rw [e]; exact take_of_take hu (by omega))
        unfold octN; rw [this, e]
      cases t with
      | nil => simp at h
      | cons b t =>
        obtain ⟨v, rfl, _⟩ := cons_of_take hu
        simp [esN, esB, hl, ho, e0, e1]
    · have e : esN t = octN t := by simp [esN, hl, ho]
      rw [e] at h hu
      have e1 : octN u = octN t := on_loc 3 t u h hu
      have e2 : u.take (octN t) = t.take (octN t) := take_of_take hu (by omega)
      simp [esN, esB, hl, ho, e0, e1, octB, e2]
  · have e : esN t = len t := by simp [esN, hl]
    rw [e] at h hu
    have e1 := len_loc h hu
    simp [esN, esB, hl, e1]
theorem stp_le {deep : Nat} {d o : List UInt8} {n deep' : Nat} (h : stp deep d = .go o n deep') : n ≤ d.length := by
  cases d with
  | nil => simp [stp] at h
  | cons b t =>
    have h1 := esN_le t
    have h2 := len_le (b :: t)
    simp only [stp] at h
    repeat' split at h
    all_goals first | cases h | skip
    all_goals first | (simp; done) | (simp only [List.length_cons] at h2 ⊢; omega)
/-- A step hangs on its own bytes and the one behind them. -/
theorem stp_loc {deep : Nat} {d u o : List UInt8} {n deep' : Nat} (h : stp deep d = .go o n deep') (hn : n + 1 ≤ d.length) (hu : u.take (n + 1) = d.take (n + 1)) : stp deep u = .go o n deep' := by
  cases d with
  | nil => simp at hn
  | cons b t =>
    obtain ⟨v, rfl, hv⟩ := cons_of_take hu
    rw [← h]
    simp only [stp] at h ⊢
    by_cases h40 : b = 40
    · simp [h40]
    · by_cases h41 : b = 41
      · simp [h41]
      · by_cases h92 : b = 92
        · rw [if_neg h40, if_neg h41, if_pos h92] at h
          rw [if_neg h40, if_neg h41, if_pos h92, if_neg h40, if_neg h41, if_pos h92]
          have e : n = 1 + esN t := by injection h with _ h _; exact h.symm
          rw [e] at hn hv
          simp only [List.length_cons] at hn
          obtain ⟨e1, e2⟩ := es_loc (t := t) (u := v) (by omega) (by rw [Nat.add_comm]; exact hv)
          rw [e1, e2]
        · by_cases h13 : b = 13
          · rw [if_neg h40, if_neg h41, if_neg h92, if_pos h13] at h
            rw [if_neg h40, if_neg h41, if_neg h92, if_pos h13, if_neg h40, if_neg h41, if_neg h92, if_pos h13]
            have e : n = len (b :: t) := by injection h with _ h _; exact h.symm
            rw [e] at hn hu
            rw [len_loc hn hu]
          · rw [if_neg h40, if_neg h41, if_neg h92, if_neg h13, if_neg h40, if_neg h41, if_neg h92, if_neg h13]

/-! ### All steps -/
theorem strT_stop {deep : Nat} {d : List UInt8} {k : Nat} {e : Int} (h : stp deep d = .stop k e) : strT deep d = ⟨[], k, e⟩ := by
  rw [strT]
  split
  · rename_i k' e' h'; rw [h] at h'; cases h'; rfl
  · rename_i h'; rw [h] at h'; cases h'
theorem strT_go {deep : Nat} {d o : List UInt8} {n deep' : Nat} (h : stp deep d = .go o n deep') : strT deep d = Sr.add o n (strT deep' (d.drop n)) := by
  rw [strT]
  split
  · rename_i h'; rw [h] at h'; cases h'
  · rename_i h'; rw [h] at h'; cases h'; rfl
theorem stp_stop {deep : Nat} {d : List UInt8} {k : Nat} {e : Int} (h : stp deep d = .stop k e) : (d = [] ∧ k = 0 ∧ e = 2) ∨ (∃ t, d = 40 :: t ∧ k = 0 ∧ e = 5) ∨ (∃ t, d = 41 :: t ∧ k = 1 ∧ e = 0) := by
  cases d with
  | nil => simp [stp] at h; exact .inl ⟨rfl, h.1.symm, h.2.symm⟩
  | cons b t =>
    simp only [stp] at h
    repeat' split at h
    all_goals first | cases h | skip
    · rename_i hb _; exact .inr (.inl ⟨t, by rw [hb], rfl, rfl⟩)
    · rename_i hb _; exact .inr (.inr ⟨t, by rw [hb], rfl, rfl⟩)
/-- How many bytes the answer hangs on. -/
def sz (r : Sr) : Nat := if r.e = 0 then r.k else r.k + 1
theorem strT_k : ∀ (N : Nat) (deep : Nat) (d : List UInt8), d.length ≤ N → ((strT deep d).e = 2 ∧ (strT deep d).k = d.length) ∨ (((strT deep d).e = 0 ∨ (strT deep d).e = 5) ∧ 1 ≤ sz (strT deep d) ∧ sz (strT deep d) ≤ d.length) := by
  intro N
  induction N with
  | zero =>
    intro deep d h
    have : d = [] := List.eq_nil_of_length_eq_zero (by omega)
    subst this
    left
    rw [strT_stop (k := 0) (e := 2) rfl]
    exact ⟨rfl, rfl⟩
  | succ N ih =>
    intro deep d h
    cases hs : stp deep d with
    | stop k e =>
      rw [strT_stop hs]
      rcases stp_stop hs with ⟨rfl, rfl, rfl⟩ | ⟨t, rfl, rfl, rfl⟩ | ⟨t, rfl, rfl, rfl⟩
      · left; exact ⟨rfl, rfl⟩
      · right; exact ⟨.inr rfl, by simp [sz], by simp [sz]⟩
      · right; exact ⟨.inl rfl, by simp [sz], by simp [sz]⟩
    | go o n deep' =>
      rw [strT_go hs]
      obtain ⟨h1, _⟩ := stp_pos hs
      have h2 := stp_le hs
      have := ih deep' (d.drop n) (by rw [List.length_drop]; omega)
      rw [List.length_drop] at this
      rcases this with ⟨e1, e2⟩ | ⟨e1, e2, e3⟩
      · left; exact ⟨e1, by show n + _ = _; omega⟩
      · right
        refine ⟨e1, ?_⟩
        have e : sz (Sr.add o n (strT deep' (d.drop n))) = n + sz (strT deep' (d.drop n)) := by
          unfold sz Sr.add
          dsimp only
          split <;> omega
        omega
theorem strT_ext : ∀ (N : Nat) (deep : Nat) (d u : List UInt8), d.length ≤ N → (strT deep d).e ≠ 2 → u.take (sz (strT deep d)) = d.take (sz (strT deep d)) → strT deep u = strT deep d := by
  intro N
  induction N with
  | zero =>
    intro deep d u h he
    have : d = [] := List.eq_nil_of_length_eq_zero (by omega)
    subst this
    rw [strT_stop (k := 0) (e := 2) rfl] at he
    exact absurd rfl he
  | succ N ih =>
    intro deep d u h he hu
    cases hs : stp deep d with
    | stop k e =>
      rw [strT_stop hs] at he hu ⊢
      rcases stp_stop hs with ⟨rfl, rfl, rfl⟩ | ⟨t, rfl, rfl, rfl⟩ | ⟨t, rfl, rfl, rfl⟩
      · exact absurd rfl he
      · obtain ⟨v, rfl, _⟩ := cons_of_take (m := 0) hu
        exact strT_stop (by rw [← hs]; rfl)
      · obtain ⟨v, rfl, _⟩ := cons_of_take (m := 0) hu
        exact strT_stop (by rw [← hs]; rfl)
    | go o n deep' =>
      rw [strT_go hs] at he hu
      obtain ⟨h1, _⟩ := stp_pos hs
      have h2 := stp_le hs
      have e : sz (Sr.add o n (strT deep' (d.drop n))) = n + sz (strT deep' (d.drop n)) := by
        unfold sz Sr.add
        dsimp only
        split <;> omega
      have hk := strT_k _ deep' (d.drop n) (Nat.le_refl _)
      rw [List.length_drop] at hk
      have he' : (strT deep' (d.drop n)).e ≠ 2 := he
      rcases hk with hk | ⟨_, hk1, hk2⟩
      · exact absurd hk.1 he'
      rw [e] at hu
      have hs' := stp_loc (u := u) hs (by omega) (take_of_take hu (by omega))
      rw [strT_go hs, strT_go hs']
      have := ih deep' (d.drop n) (u.drop n) (by rw [List.length_drop]; omega) he' (by have := drop_of_take n hu; rwa [Nat.add_sub_cancel_left] at this)
      rw [this]
theorem strT_len : ∀ (N : Nat) (deep : Nat) (d : List UInt8), d.length ≤ N → (strT deep d).e = 0 → (strT deep d).s.length + 1 ≤ (strT deep d).k := by
  intro N
  induction N with
  | zero =>
    intro deep d h he
    have : d = [] := List.eq_nil_of_length_eq_zero (by omega)
    subst this
    rw [strT_stop (k := 0) (e := 2) rfl] at he
    cases he
  | succ N ih =>
    intro deep d h he
    cases hs : stp deep d with
    | stop k e =>
      rw [strT_stop hs] at he ⊢
      rcases stp_stop hs with ⟨rfl, rfl, rfl⟩ | ⟨t, rfl, rfl, rfl⟩ | ⟨t, rfl, rfl, rfl⟩
      · cases he
      · cases he
      · simp
    | go o n deep' =>
      rw [strT_go hs] at he ⊢
      obtain ⟨h1, _⟩ := stp_pos hs
      have := ih deep' (d.drop n) (by have := stp_le hs; rw [List.length_drop]; omega) he
      have ho : o.length ≤ n := by
        cases d with
        | nil => simp [stp] at hs
        | cons b t =>
          simp only [stp] at hs
          repeat' split at hs
          all_goals first | cases hs | skip
          all_goals first | (simp; done) | skip
          · unfold esB; repeat' split
            all_goals (simp; try omega)
          · simp; omega
      show (o ++ _).length + 1 ≤ n + _
      rw [List.length_append]
      omega

/-! ### What is written of bytes is read again -/
theorem qL_cons (b : UInt8) (l : List UInt8) : qL (b :: l) = sb b ++ qL l := by simp [qL]
theorem od_dig {n : Nat} (h : n < 8) : od (UInt8.ofNat (48 + n)) = true ∧ (UInt8.ofNat (48 + n)).toNat = 48 + n := by
  have e : (UInt8.ofNat (48 + n)).toNat = 48 + n := by simp; omega
  refine ⟨?_, e⟩
  unfold od
  rw [e]
  simp
  omega
theorem sb_read {deep : Nat} (b : UInt8) (x : List UInt8) : stp deep (sb b ++ x) = .go [b] (sb b).length deep ∧ (sb b ++ x).drop (sb b).length = x := by
  refine ⟨?_, by simp⟩
  unfold sb
  cases hn : sneed b with
  | false =>
    simp only [sneed, Bool.or_eq_false_iff, beq_eq_false_iff_ne, decide_eq_false_iff_not] at hn
    obtain ⟨⟨⟨⟨h1, h2⟩, h3⟩, h4⟩, h5⟩ := hn
    have h13 : b ≠ 13 := by rintro rfl; exact h4 (by decide)
    simp [stp, h1, h2, h3, h13]
  | true =>
    have hb := b.toNat_lt
    obtain ⟨a1, a2⟩ := od_dig (n := b.toNat / 64) (by omega)
    obtain ⟨b1, b2⟩ := od_dig (n := b.toNat / 8 % 8) (by omega)
    obtain ⟨c1, c2⟩ := od_dig (n := b.toNat % 8) (by omega)
    simp only [if_true]
    generalize UInt8.ofNat (48 + b.toNat / 64) = x1 at *
    generalize UInt8.ofNat (48 + b.toNat / 8 % 8) = x2 at *
    generalize UInt8.ofNat (48 + b.toNat % 8) = x3 at *
    have e13 : x1 ≠ 13 := by rintro rfl; simp at a2; omega
    have e10 : x1 ≠ 10 := by rintro rfl; simp at a2; omega
    have hl : len (x1 :: x2 :: x3 :: x) = 0 := by simp [len, e13, e10]
    have ho : octN (x1 :: x2 :: x3 :: x) = 3 := by simp [octN, on, a1, b1, c1]
    have hv : octB (x1 :: x2 :: x3 :: x) = b := by
      unfold octB
      rw [ho]
      simp only [List.take_succ_cons, List.take_zero, octF, List.foldl_cons, List.foldl_nil, a2, b2, c2]
      apply eq_of_toNat
      have e : ((0 * 8 + (48 + b.toNat / 64 - 48)) * 8 + (48 + b.toNat / 8 % 8 - 48)) * 8 + (48 + b.toNat % 8 - 48) = b.toNat := by omega
      rw [e]
      simp
    have hB : esB (x1 :: x2 :: x3 :: x) = [b] := by simp [esB, hl, ho, hv]
    have hN : esN (x1 :: x2 :: x3 :: x) = 3 := by simp [esN, hl, ho]
    simp only [List.cons_append, List.nil_append, stp, hB, hN, List.length_cons, List.length_nil]
    rfl
theorem strT_q (deep : Nat) (l x : List UInt8) : strT deep (qL l ++ x) = Sr.add l (qL l).length (strT deep x) := by
  induction l with
  | nil => simp [qL, Sr.add]
  | cons b l ih =>
    obtain ⟨h1, h2⟩ := sb_read (deep := deep) b (qL l ++ x)
    rw [qL_cons, List.append_assoc, strT_go h1, h2, ih]
    simp [Sr.add, Nat.add_assoc]
theorem strT_quoted (l r : List UInt8) : strT 1 (qL l ++ 41 :: r) = ⟨l, (qL l).length + 1, 0⟩ := by
  rw [strT_q, strT_stop (k := 1) (e := 0) rfl]
  simp [Sr.add]
theorem sb_length (b : UInt8) : 1 ≤ (sb b).length ∧ (sb b).length ≤ 4 := by unfold sb; split <;> simp
theorem qL_length (l : List UInt8) : (qL l).length ≤ 4 * l.length := by
  induction l with
  | nil => simp [qL]
  | cons b l ih => have := sb_length b; rw [qL_cons, List.length_append, List.length_cons]; omega

/-! ### Brackets in brackets -/
theorem strT_close : ∀ m : Nat, strT (m + 1) (List.replicate (m + 1) 41) = ⟨List.replicate m 41, m + 1, 0⟩
  | 0 => strT_stop rfl
  | m + 1 => by
    have hs : stp (m + 1 + 1) (List.replicate (m + 1 + 1) 41) = .go [41] 1 (m + 1) := by
      rw [List.replicate_succ]
      simp [stp]
    rw [strT_go hs, List.replicate_succ, List.drop_succ_cons, List.drop_zero, strT_close m]
    simp [Sr.add, List.replicate_succ]
    omega
theorem strT_nest : ∀ (j deep : Nat), 1 ≤ deep → deep ≤ 32 → (deep + j ≤ 32 → strT deep (List.replicate j 40 ++ List.replicate (j + deep) 41) = ⟨List.replicate j 40 ++ List.replicate (j + deep - 1) 41, 2 * j + deep, 0⟩) ∧ (32 < deep + j → (strT deep (List.replicate j 40 ++ List.replicate (j + deep) 41)).e = 5)
  | 0, deep, h1, h2 => by
    refine ⟨fun _ => ?_, fun h => by omega⟩
    obtain ⟨m, rfl⟩ : ∃ m, deep = m + 1 := ⟨deep - 1, by omega⟩
    simp [strT_close]
  | j + 1, deep, h1, h2 => by
    by_cases h32 : deep = 32
    · have hs : stp deep (List.replicate (j + 1) 40 ++ List.replicate (j + 1 + deep) 41) = .stop 0 5 := by
        rw [List.replicate_succ]
        simp [stp, h32]
      exact ⟨fun h => by omega, fun _ => by rw [strT_stop hs]⟩
    · have hs : stp deep (List.replicate (j + 1) 40 ++ List.replicate (j + 1 + deep) 41) = .go [40] 1 (deep + 1) := by
        rw [List.replicate_succ]
        simp [stp, h32]
      obtain ⟨i1, i2⟩ := strT_nest j (deep + 1) (by omega) (by omega)
      have ed : (List.replicate (j + 1) (40 : UInt8) ++ List.replicate (j + 1 + deep) 41).drop 1 = List.replicate j 40 ++ List.replicate (j + (deep + 1)) 41 := by
        rw [List.replicate_succ, List.cons_append, List.drop_succ_cons, List.drop_zero, show j + 1 + deep = j + (deep + 1) by omega]
      rw [strT_go hs, ed]
      refine ⟨fun h => ?_, fun h => i2 (by omega)⟩
      rw [i1 (by omega)]
      simp only [Sr.add, List.replicate_succ, List.cons_append, List.nil_append, Sr.mk.injEq, List.cons.injEq, true_and, and_true]
      refine ⟨?_, by omega⟩
      rw [show j + (deep + 1) - 1 = j + 1 + deep - 1 by omega]
end Go.Proofs.YthcnjiigkmljnaaGreatDoor
/-
  Plain facts of digits: what is written by digits is read again; parts; small letters; one blank more.
-/
namespace Go.Proofs.YthcnjiigkmljnaaGreatDoor

theorem kb_hd_fin : ∀ n : Fin 16, kb (hd n.val) = (n.val : Int) + 2 := by decide
theorem kb_hd {n : Nat} (h : n < 16) : kb (hd n) = (n : Int) + 2 := kb_hd_fin ⟨n, h⟩
theorem nib_hd {n : Nat} (h : n < 16) : nib (hd n) = some n := by
  have := kb_hd h
  unfold nib
  rw [if_pos (by omega), this]
  congr 1
  omega
theorem hi_lt (b : UInt8) : b.toNat / 16 < 16 := by have := b.toNat_lt; omega
theorem lo_lt (b : UInt8) : b.toNat % 16 < 16 := by omega
theorem nibs_hexL (l : List UInt8) : nibs (hexL l) = l.flatMap fun b => [b.toNat / 16, b.toNat % 16] := by
  induction l with
  | nil => rfl
  | cons b l ih =>
    have e : hexL (b :: l) = hx b ++ hexL l := rfl
    rw [e, nibs_append, ih]
    simp only [nibs, hx, List.filterMap_cons, nib_hd (hi_lt b), nib_hd (lo_lt b), List.filterMap_nil, List.flatMap_cons]
theorem nibs_hexL_length (l : List UInt8) : (nibs (hexL l)).length = 2 * l.length := by
  rw [nibs_hexL]
  induction l with
  | nil => rfl
  | cons b l ih => simp only [List.flatMap_cons, List.length_append, ih, List.length_cons, List.length_nil]; omega
theorem pack_hexL (l : List UInt8) : pack (nibs (hexL l)) = l := by
  rw [nibs_hexL]
  induction l with
  | nil => rfl
  | cons b l ih =>
    simp only [List.flatMap_cons, List.cons_append, List.nil_append, pack, ih]
    congr 1
    have h : 16 * (b.toNat / 16) + b.toNat % 16 = b.toNat := by omega
    rw [h]
    simp
theorem good_hexL (l : List UInt8) : Good (hexL l) := by
  intro x hx'
  simp only [hexL, List.mem_flatMap, hx, List.mem_cons, List.not_mem_nil, or_false] at hx'
  obtain ⟨b, _, h | h⟩ := hx'
  · rw [h, kb_hd (hi_lt b)]; omega
  · rw [h, kb_hd (lo_lt b)]; omega
theorem bad_append {a : List UInt8} (h : Good a) (b : List UInt8) : bad (a ++ b) = a.length + bad b := by
  have := bad_of_good h
  unfold bad at this ⊢
  rw [List.findIdx_append, this]
  simp
  omega
theorem pack_hexL_append (a l : List UInt8) : pack (nibs (hexL a ++ l)) = a ++ pack (nibs l) := by
  rw [nibs_append, pack_even _ (by rw [nibs_hexL_length]; omega), pack_hexL]
theorem nibs_zero : nibs [48] = [0] := by decide
theorem good_zero : Good [48] := by intro b hb; simp at hb; subst hb; decide
/-- One 0 more: the same bytes, or one more. -/
theorem pack_zero (l : List UInt8) : pack (nibs (l ++ [48])) = pack (nibs l) ∨ (pack (nibs l)).length < (pack (nibs (l ++ [48]))).length := by
  rw [nibs_append, nibs_zero]
  by_cases h : (nibs l).length % 2 = 1
  · obtain ⟨p, a, _, h1, _, h3⟩ := pack_odd _ h
    left
    rw [h3, h1]
    rfl
  · right
    rw [pack_even _ (by omega)]
    simp [pack]
end Go.Proofs.YthcnjiigkmljnaaGreatDoor
/-
  Tokens, as plain functions: which bytes a token hangs on; what is written of tokens is read again.
-/
namespace Go.Proofs.YthcnjiigkmljnaaGreatDoor

/-! ### Small ones -/
theorem wn_append {a : List UInt8} (x : List UInt8) (h : ∀ b ∈ a, rg b = true) : wn (a ++ x) = a.length + wn x := by
  induction a with
  | nil => simp
  | cons b a ih =>
    have := ih fun y hy => h y (by simp [hy])
    rw [List.cons_append, wn_y _ (h b (by simp)), this, List.length_cons]; omega
theorem wn_mem {d : List UInt8} : ∀ b ∈ d.take (wn d), rg b = true := by
  intro b hb
  rw [List.mem_iff_getElem] at hb
  obtain ⟨j, hj, rfl⟩ := hb
  have hj' : j < wn d := by simp at hj; omega
  have hl := wn_le d
  have := wn_in d j hj'
  rw [List.getElem?_eq_getElem (by omega)] at this
  simpa using this
theorem wn_rest (d : List UInt8) : wn (d.drop (wn d)) = 0 := by have := wn_drop d (wn d) (Nat.le_refl _); omega
theorem wn_zero_take {x : List UInt8} (h : wn x = 0) (j : Nat) : wn (x.take j) = 0 := by
  cases x with
  | nil => simp [wn]
  | cons b t =>
    cases j with
    | zero => simp [wn]
    | succ j =>
      cases hb : rg b with
      | true => rw [wn_y _ hb] at h; omega
      | false => rw [List.take_succ_cons, wn_n _ hb]
theorem wn_zero_app {x : List UInt8} (h : wn x = 0) (m : List UInt8) : wn (x ++ 10 :: m) = 0 := by
  cases x with
  | nil => exact wn_n _ (by decide)
  | cons b t =>
    cases hb : rg b with
    | true => rw [wn_y _ hb] at h; omega
    | false => rw [List.cons_append, wn_n _ hb]
theorem gt_of : ∀ (a r : List UInt8), (∀ b ∈ a, b ≠ 62) → gt (a ++ 62 :: r) = a.length
  | [], r, _ => by simp [gt]
  | b :: a, r, h => by
    have := gt_of a r fun y hy => h y (by simp [hy])
    simp [gt, h b (by simp), this]
theorem gt_none : ∀ a : List UInt8, (∀ b ∈ a, b ≠ 62) → gt a = a.length
  | [], _ => rfl
  | b :: a, h => by
    have := gt_none a fun y hy => h y (by simp [hy])
    simp [gt, h b (by simp), this]
theorem gt_lt' : ∀ t : List UInt8, gt t ≤ t.length
  | [] => Nat.le_refl _
  | b :: t => by have := gt_lt' t; simp only [gt]; split <;> simp; omega
theorem gt_mem : ∀ t : List UInt8, ∀ b ∈ t.take (gt t), b ≠ 62
  | [] => by simp
  | c :: t => by
    intro b hb
    simp only [gt] at hb
    split at hb
    · simp at hb
    · rename_i hc
      rw [List.take_succ_cons] at hb
      rcases List.mem_cons.1 hb with rfl | hb
      · exact hc
      · exact gt_mem t b hb
theorem gt_split : ∀ t : List UInt8, gt t < t.length → t = t.take (gt t) ++ 62 :: t.drop (gt t + 1)
  | [], h => by simp at h
  | c :: t, h => by
    simp only [gt] at h ⊢
    split
    · rename_i hc; subst hc; rfl
    · rename_i hc
      rw [if_neg hc] at h
      have := gt_split t (by simpa using h)
      rw [List.take_succ_cons, List.drop_succ_cons, List.cons_append, ← this]

/-! ### The head -/
theorem mk_c {b : UInt8} (t : List UInt8) (h0 : b ≠ 60) (h1 : b ≠ 62) : mk (b :: t) = mk [b] := by simp [mk, h0, h1]
theorem mk_loc {d u : List UInt8} (h : u.take 2 = d.take 2) : mk u = mk d := by
  cases d with
  | nil => cases u with
    | nil => rfl
    | cons c v => simp at h
  | cons b t =>
    obtain ⟨v, rfl, hv⟩ := cons_of_take (m := 1) h
    have := head_of_take hv (by omega)
    simp [mk, this]
theorem rg_of {b : UInt8} (h37 : b ≠ 37) (hw : wh b = false) (h : b ≠ 40 ∧ b ≠ 60 ∧ b ≠ 91 ∧ b ≠ 123 ∧ b ≠ 41 ∧ b ≠ 62 ∧ b ≠ 93 ∧ b ≠ 125 ∧ b ≠ 47) : rg b = true := by
  have n : ∀ c : UInt8, b ≠ c → (b.toNat : Int) ≠ (c.toNat : Int) := fun c hc e => hc (eq_of_toNat (by omega))
  have hd : ¬ dl (b.toNat : Int) := by
    unfold dl
    have a1 := n 40 h.1; have a2 := n 60 h.2.1; have a3 := n 91 h.2.2.1; have a4 := n 123 h.2.2.2.1; have a5 := n 41 h.2.2.2.2.1
    have a6 := n 62 h.2.2.2.2.2.1; have a7 := n 93 h.2.2.2.2.2.2.1; have a8 := n 125 h.2.2.2.2.2.2.2.1; have a9 := n 47 h.2.2.2.2.2.2.2.2; have a10 := n 37 h37
    simp only [UInt8.reduceToNat] at a1 a2 a3 a4 a5 a6 a7 a8 a9 a10
    omega
  have hk : ¬ kz (b.toNat : Int) = 1 := by
    have : (kb b == 1) = false := hw
    rw [beq_eq_false_iff_ne] at this
    exact this
  simp [rg, cb, cls, hd, hk]
theorem rg_not {b : UInt8} (h : rg b = true) : (b ≠ 37 ∧ wh b = false) ∧ b ≠ 40 ∧ b ≠ 60 ∧ b ≠ 91 ∧ b ≠ 123 ∧ b ≠ 41 ∧ b ≠ 62 ∧ b ≠ 93 ∧ b ≠ 125 ∧ b ≠ 47 := by
  have key : ∀ c : UInt8, rg c = false → b ≠ c := fun c hc e => by rw [e, hc] at h; cases h
  refine ⟨⟨key 37 (by decide), ?_⟩, key 40 (by decide), key 60 (by decide), key 91 (by decide), key 123 (by decide), key 41 (by decide), key 62 (by decide), key 93 (by decide), key 125 (by decide), key 47 (by decide)⟩
  cases hw : wh b with
  | false => rfl
  | true =>
    have hk : kz (b.toNat : Int) = 1 := by have : (kb b == 1) = true := hw; simpa [kb] using this
    have h0 : cls (b.toNat : Int) = 0 := by have : (cb b == 0) = true := h; simpa [cb] using this
    unfold cls at h0
    rw [hk] at h0
    split at h0 <;> simp at h0
/-- What the first byte of what is not skipped may be. -/
inductive Hd : List UInt8 → Rd → Prop
  | mark {d : List UInt8} (h : 6 ≤ mk d ∧ mk d ≤ 11) : Hd d (okR (mk d) 0 [] (mkL (mk d)).length)
  | form {b : UInt8} {t : List UInt8} (h : mk (b :: t) = 0) (hb : b = 41 ∨ b = 62) : Hd (b :: t) (noR 0 3)
  | name (t : List UInt8) : Hd (47 :: t) (okR 2 0 (nameL (t.take (wn t))) (1 + wn t))
  | hex {t : List UInt8} (h : mk (60 :: t) = 0) : Hd (60 :: t) (tkHex t)
  | str (t : List UInt8) : Hd (40 :: t) (tkStr t)
  | word {b : UInt8} {t : List UInt8} (h : rg b = true) : Hd (b :: t) (tkWord (b :: t))
theorem mk_rng (d : List UInt8) : mk d = 0 ∨ (6 ≤ mk d ∧ mk d ≤ 11) := by
  cases d with
  | nil => simp [mk]
  | cons b t => simp only [mk]; repeat' split
                all_goals omega
theorem tk_form {b : UInt8} {t : List UInt8} (h : mk (b :: t) = 0) (hb : b = 41 ∨ b = 62) : tk (b :: t) = noR 0 3 := by unfold tk; simp only [h, if_true, if_pos hb]
theorem tk_name (t : List UInt8) : tk (47 :: t) = okR 2 0 (nameL (t.take (wn t))) (1 + wn t) := by
  have h : mk (47 :: t) = 0 := rfl
  unfold tk; simp only [h, if_true]; rfl
theorem tk_hex {t : List UInt8} (h : mk (60 :: t) = 0) : tk (60 :: t) = tkHex t := by unfold tk; simp only [h, if_true]; rfl
theorem tk_str (t : List UInt8) : tk (40 :: t) = tkStr t := by
  have h : mk (40 :: t) = 0 := rfl
  unfold tk; simp only [h, if_true]; rfl
theorem mk_rg {b : UInt8} (t : List UInt8) (h : rg b = true) : mk (b :: t) = 0 := by
  obtain ⟨_, h1, h2, h3, h4, h5, h6, h7, h8, h9⟩ := rg_not h
  simp [mk, h2, h3, h4, h6, h7, h8]
theorem tk_word {b : UInt8} (t : List UInt8) (h : rg b = true) : tk (b :: t) = tkWord (b :: t) := by
  obtain ⟨_, h1, h2, h3, h4, h5, h6, h7, h8, h9⟩ := rg_not h
  unfold tk
  rw [if_pos (mk_rg t h)]
  simp [h1, h2, h5, h6, h9]
theorem tk_mark {d : List UInt8} (h : 6 ≤ mk d ∧ mk d ≤ 11) : tk d = okR (mk d) 0 [] (mkL (mk d)).length := by unfold tk; rw [if_neg (by omega)]
theorem tk_hd {d : List UInt8} (hne : d ≠ []) (h0 : sk false d = 0) : Hd d (tk d) := by
  rcases mk_rng d with hm | hm
  · cases d with
    | nil => exact absurd rfl hne
    | cons b t =>
      obtain ⟨h37, hw⟩ := sk_zero h0
      by_cases a1 : b = 41 ∨ b = 62
      · rw [tk_form hm a1]; exact .form hm a1
      · by_cases a2 : b = 47
        · subst a2; rw [tk_name]; exact .name t
        · by_cases a3 : b = 60
          · subst a3; rw [tk_hex hm]; exact .hex hm
          · by_cases a4 : b = 40
            · subst a4; rw [tk_str]; exact .str t
            · have hr : rg b = true := by
                refine rg_of h37 hw ⟨a4, a3, ?_, ?_, fun e => a1 (.inl e), fun e => a1 (.inr e), ?_, ?_, a2⟩
                all_goals (rintro rfl; simp [mk] at hm)
              rw [tk_word t hr]; exact .word hr
  · rw [tk_mark hm]; exact .mark hm
theorem mkL_len {n : Nat} (h : 6 ≤ n ∧ n ≤ 11) : 1 ≤ (mkL n).length ∧ (mkL n).length ≤ 2 := by
  rcases (show n = 6 ∨ n = 7 ∨ n = 8 ∨ n = 9 ∨ n = 10 ∨ n = 11 by omega) with rfl | rfl | rfl | rfl | rfl | rfl <;> decide
theorem mk_take {d : List UInt8} (h : 6 ≤ mk d ∧ mk d ≤ 11) : d.take (mkL (mk d)).length = mkL (mk d) := by
  cases d with
  | nil => simp [mk] at h
  | cons b t =>
    simp only [mk] at h ⊢
    repeat' split
    all_goals first | (simp_all [mkL]; done) | skip
    all_goals
      cases t with
      | nil => simp_all
      | cons c u => simp_all [mkL]
theorem mk_self {n : Nat} (h : 6 ≤ n ∧ n ≤ 11) (x : List UInt8) : mk (mkL n ++ x) = n := by
  rcases (show n = 6 ∨ n = 7 ∨ n = 8 ∨ n = 9 ∨ n = 10 ∨ n = 11 by omega) with rfl | rfl | rfl | rfl | rfl | rfl <;> rfl

/-! ### What a token that was read is -/
/-- A token that may be read. -/
def Gd (kind n : Int) (s : List UInt8) : Prop :=
  (kind = 1 ∧ inR n = true ∧ s = []) ∨ (kind = 2 ∧ n = 0) ∨ (kind = 3 ∧ n = 0 ∧ s ≠ [] ∧ (∀ b ∈ s, rg b = true) ∧ inE s = 3) ∨ (kind = 4 ∧ n = 0) ∨ (kind = 5 ∧ n = 0) ∨ (∃ m : Nat, (6 ≤ m ∧ m ≤ 11) ∧ kind = m ∧ n = 0 ∧ s = [])
theorem inE_nil : inE [] = 3 := by decide
theorem inE_cases (l : List UInt8) : inE l = 0 ∨ inE l = 3 ∨ inE l = 4 := by unfold inE; split <;> (try split) <;> simp
theorem inN_R {l : List UInt8} (h : inE l = 0) : inR (inN l) = true := by
  unfold inE at h
  unfold inN
  split at h
  · split at h
    · rename_i h1 h2; simp [h1, h2]
    · simp at h
  · simp at h
theorem okR_e (a b : Int) (s : List UInt8) (k : Nat) : (okR a b s k).e = 0 := rfl
theorem noR_e (k : Nat) (e : Int) : (noR k e).e = e := rfl
theorem unE_c (l : List UInt8) : unE l = 0 ∨ unE l = 1 := by unfold unE; split <;> simp
/-- Of a token: its kind, its bytes, what stands behind it. -/
structure Ok (d : List UInt8) (r : Rd) : Prop where
  gd : Gd r.kind r.n r.s
  pos : 1 ≤ r.k
  le : r.k ≤ d.length
  stop : r.kind ≤ 3 → wn (d.drop r.k) = 0
  short : 4 ≤ r.kind → r.s.length + 1 ≤ r.k ∨ r.s = []
  small : r.kind ≤ 3 → r.s.length ≤ r.k
theorem tk_ok {d : List UInt8} (hne : d ≠ []) (h0 : sk false d = 0) (he : (tk d).e = 0) : Ok d (tk d) := by
  have hh := tk_hd hne h0
  generalize tk d = r at *
  cases hh with
  | mark h =>
    have := mkL_len h
    have hl := congrArg List.length (mk_take h)
    rw [List.length_take] at hl
    exact ⟨.inr (.inr (.inr (.inr (.inr ⟨_, h, rfl, rfl, rfl⟩)))), this.1, by show (mkL _).length ≤ _; omega, fun hk => by exfalso; have : ((mk d : Nat) : Int) ≤ 3 := hk; omega, fun _ => .inr rfl, fun hk => by exfalso; have : ((mk d : Nat) : Int) ≤ 3 := hk; omega⟩
  | form h hb => simp [noR_e] at he
  | name t =>
    have hl := wn_le t
    refine ⟨.inr (.inl ⟨rfl, rfl⟩), by show 1 ≤ 1 + _; omega, by show 1 + _ ≤ _; simp; omega, fun _ => ?_, fun h => by exfalso; have : (4 : Int) ≤ 2 := h; omega, fun _ => ?_⟩
    · show wn ((47 :: t).drop (1 + wn t)) = 0
      rw [Nat.add_comm, List.drop_succ_cons]
      exact wn_rest t
    · show (nameL _).length ≤ 1 + wn t
      have := nameL_length (t.take (wn t))
      rw [List.length_take] at this
      omega
  | @hex t h =>
    unfold tkHex at he ⊢
    have hl := gt_lt' t
    by_cases hg : gt t < t.length
    · rw [if_pos hg] at he ⊢
      by_cases hu : unE (t.take (gt t)) = 0
      · rw [if_pos hu] at he ⊢
        refine ⟨.inr (.inr (.inr (.inl ⟨rfl, rfl⟩))), by show 1 ≤ gt t + 2; omega, by show gt t + 2 ≤ _; simp; omega, fun h => by exfalso; have : (4 : Int) ≤ 3 := h; omega, fun _ => .inl ?_, fun h => by exfalso; have : (4 : Int) ≤ 3 := h; omega⟩
        show (unB _).length + 1 ≤ gt t + 2
        unfold unB
        split
        · simp
        · rw [pack_length]
          have := nibs_length (t.take (gt t))
          rw [List.length_take] at this
          omega
      · rw [if_neg hu] at he; rw [noR_e] at he; exact absurd he hu
    · rw [if_neg hg] at he; simp [noR_e] at he
  | str t =>
    unfold tkStr at he ⊢
    by_cases hs : (strT 1 t).e = 0
    · rw [if_pos hs] at he ⊢
      have hk := strT_k _ 1 t (Nat.le_refl _)
      have hsz : sz (strT 1 t) = (strT 1 t).k := by simp [sz, hs]
      have hln := strT_len _ 1 t (Nat.le_refl _) hs
      rcases hk with ⟨e, _⟩ | ⟨_, k1, k2⟩
      · rw [hs] at e; cases e
      rw [hsz] at k1 k2
      exact ⟨.inr (.inr (.inr (.inr (.inl ⟨rfl, rfl⟩)))), by show 1 ≤ 1 + _; omega, by show 1 + _ ≤ _; simp; omega, fun h => by exfalso; have : (5 : Int) ≤ 3 := h; omega, fun _ => .inl (by show _ + 1 ≤ 1 + _; show (strT 1 t).s.length + 1 ≤ _; omega), fun h => by exfalso; have : (5 : Int) ≤ 3 := h; omega⟩
    · rw [if_neg hs, noR_e] at he; exact absurd he hs
  | @word b t h =>
    have hp : 1 ≤ wn (b :: t) := by rw [wn_y t h]; omega
    have hl := wn_le (b :: t)
    unfold tkWord at he ⊢
    by_cases e0 : inE ((b :: t).take (wn (b :: t))) = 0
    · rw [if_pos e0] at he ⊢
      exact ⟨.inl ⟨rfl, inN_R e0, rfl⟩, hp, hl, fun _ => wn_rest _, fun h => by exfalso; have : (4 : Int) ≤ 1 := h; omega, fun _ => by show ([] : List UInt8).length ≤ _; simp⟩
    · rw [if_neg e0] at he ⊢
      by_cases e3 : inE ((b :: t).take (wn (b :: t))) = 3
      · rw [if_pos e3] at he ⊢
        refine ⟨.inr (.inr (.inl ⟨rfl, rfl, ?_, wn_mem, e3⟩)), hp, hl, fun _ => wn_rest _, fun h => by exfalso; have : (4 : Int) ≤ 3 := h; omega, fun _ => by show ((b :: t).take (wn (b :: t))).length ≤ wn (b :: t); rw [List.length_take]; omega⟩
        show (b :: t).take (wn (b :: t)) ≠ []
        intro e
        have := congrArg List.length e
        rw [List.length_take] at this
        simp at this
        omega
      · rw [if_neg e3, noR_e] at he; exact absurd he e0
end Go.Proofs.YthcnjiigkmljnaaGreatDoor
