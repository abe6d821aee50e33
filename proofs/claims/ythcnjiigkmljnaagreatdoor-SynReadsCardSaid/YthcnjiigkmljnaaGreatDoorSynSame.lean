/-
  The document's own 'the same': units, lists of units, entries, items. Where both hold the same list the answer is yes, and nothing is written.
-/
import Derived.Test.YthcnjiigkmljnaaGreatDoorPart2
import Derived.BigQuiet
import Derived.Deep.QuietTactic
namespace Go.Proofs.YthcnjiigkmljnaaGreatDoor
open Go.RowKit

theorem drewN_cell (w : World) (n : Nat) (a : Addr) : (w.drewN n).cell? a = w.cell? a := rfl
/-- A row's cells, at a place. -/
theorem Rw.at {α : Type} {w : World} {X : Nat → Prop} {k : Nat} {q : α → List Value} {v : Value} {l : List α} (h : Rw w X k q v l) {j : Nat} (hj : j < l.length) :
    ∃ b o c x, v = .slice (some ⟨b, o, none⟩) l.length c ∧ l[j]? = some x ∧ x ∈ l ∧ ∀ i u, (q x)[i]? = some u → w.cell? ⟨b, o + j * k + i, none⟩ = some u := by
  obtain ⟨A, c, e, _, hh⟩ := h
  obtain ⟨b, o, e2, _, _, hc⟩ := hh (by omega)
  subst e2
  exact ⟨b, o, c, l[j], e, List.getElem?_eq_getElem hj, List.getElem_mem _, hc j _ (List.getElem?_eq_getElem hj)⟩
theorem Rw.any {α : Type} {w w' : World} {X : Nat → Prop} {k : Nat} {q : α → List Value} {v : Value} {l : List α} (h : Rw w X k q v l) (hk : Kp w w' (fun _ => False)) : Rw w' (fun _ => False) k q v l := Rw.to (Rw.to h (Kp.refl _ _) (X' := fun _ => False) (fun _ _ h => h.elim)) hk (fun _ _ h => h)
section
variable {w w' : World} {X : Nat → Prop} {v : Value}
theorem Ux.any {u : List Int} (h : Ux w X v u) (hk : Kp w w' (fun _ => False)) : Ux w' (fun _ => False) v u := Rw.any h hk
theorem Lx.any {u : List (List Int)} (h : Lx w X v u) (hk : Kp w w' (fun _ => False)) : Lx w' (fun _ => False) v u := Lx.to (Lx.to h (Kp.refl _ _) (X' := fun _ => False) (fun _ _ h => h.elim)) hk (fun _ _ h => h)
theorem Ex.any {u : List En} (h : Ex w X v u) (hk : Kp w w' (fun _ => False)) : Ex w' (fun _ => False) v u := Ex.to (Ex.to h (Kp.refl _ _) (X' := fun _ => False) (fun _ _ h => h.elim)) hk (fun _ _ h => h)
theorem Ix.any {u : List Im} (h : Ix w X v u) (hk : Kp w w' (fun _ => False)) : Ix w' (fun _ => False) v u := Ix.to (Ix.to h (Kp.refl _ _) (X' := fun _ => False) (fun _ _ h => h.elim)) hk (fun _ _ h => h)
theorem Lx.shape' {u : List (List Int)} (h : Lx w X v u) : ∃ A n c, v = .slice A n c := by obtain ⟨d, _, ⟨A, c, hv, _⟩, _⟩ := h; exact ⟨A, _, c, hv⟩
theorem Ex.shape' {u : List En} (h : Ex w X v u) : ∃ A n c, v = .slice A n c := by obtain ⟨d, _, ⟨A, c, hv, _⟩, _⟩ := h; exact ⟨A, _, c, hv⟩
end
section
variable {w : World} {X Y : Nat → Prop} {va vb : Value}
set_option maxRecDepth 100000 in
set_option maxHeartbeats 1000000 in
theorem usame {u : List Int} (ha : Ux w X va u) (hb : Ux w Y vb u) (hl : u.length ≤ 1048576) :
    Calls Tryz.prog 31 #[va, vb] w fun r w' => r = .returned (.bool true) ∧ ∃ n, w' = w.drewN n := by
  obtain ⟨Aa, ca, hva, _⟩ := id ha
  obtain ⟨Ab, cb, hvb, _⟩ := id hb
  subst hva hvb
  have HA := Lib.hid ha
  have HB := Lib.hid hb
  clear ha hb
  generalize hn : u.length = n at *
  have HN := Lib.hid hn
  clear hn
  go_enter Tryz.func31, Tryz.ntmps31
  go_wp2
  go_loopw [5] (fun i wr => ∃ k m : Nat, k ≤ n ∧ i = .int .i64 (k : Int) ∧ Hid (wr = w.drewN m)) (fun i _ => n - (intOf i).toNat)
  case atStart => exact ⟨0, 0, Nat.zero_le _, rfl, Lib.hid rfl⟩
  case round =>
    obtain ⟨k, m, hk, rfl, HW⟩ := hrel
    by_cases hkl : k < n
    · have t0 : decide (k < n) = true := by simp; omega
      obtain ⟨b1, o1, c1, x1, e1, g1, _, q1⟩ := Rw.at HA.out (j := k) (by have := HN.out; omega)
      obtain ⟨b2, o2, c2, x2, e2, g2, _, q2⟩ := Rw.at HB.out (j := k) (by have := HN.out; omega)
      obtain rfl : x1 = x2 := Option.some.inj (g1.symm.trans g2)
      injection e1 with e1 _ _
      injection e2 with e2 _ _
      subst e1 e2
      have y1 : wr.cell? ⟨b1, o1 + k, none⟩ = some (.int .i64 x1) := by rw [HW.out, drewN_cell]; simpa using q1 0 _ rfl
      have y2 : wr.cell? ⟨b2, o2 + k, none⟩ = some (.int .i64 x1) := by rw [HW.out, drewN_cell]; simpa using q2 0 _ rfl
      clear q1 q2 g1 g2
      go_wp2
      go_quiet (fail)
      go_wp2
      refine ⟨⟨k + 1, _, by omega, by go_num, Lib.hid (by rw [HW.out]; exact World.drewN_drewN _ _ _)⟩, by simp [intOf]; omega⟩
    · have t0 : decide (k < n) = false := by simp; omega
      go_wp2
      go_ret
      exact ⟨rfl, m, HW.out⟩
set_option maxRecDepth 100000 in
set_option maxHeartbeats 4000000 in
theorem lsame {ll : List (List Int)} (ha : Lx w X va ll) (hb : Lx w Y vb ll) (hl : ll.length ≤ 4294967296) (hu : ∀ l ∈ ll, l.length ≤ 1048576) :
    Calls Tryz.prog 32 #[va, vb] w fun r w' => r = .returned (.bool true) ∧ ∃ n, w' = w.drewN n := by
  obtain ⟨d1, f1, r1, n1⟩ := ha
  obtain ⟨d2, f2, r2, n2⟩ := hb
  obtain ⟨Aa, ca, hva, _⟩ := id r1
  obtain ⟨Ab, cb, hvb, _⟩ := id r2
  subst hva hvb
  have l1 : d1.length = ll.length := by rw [f1]; simp
  have l2 : d2.length = ll.length := by rw [f2]; simp
  have hE : ∀ (k : Nat) (p1 p2 : List Int × Value), d1[k]? = some p1 → d2[k]? = some p2 → p1.1 = p2.1 ∧ p1.1 ∈ ll ∧ p1 ∈ d1 ∧ p2 ∈ d2 := fun k p1 p2 h1 h2 => by
    have e1 : ll[k]? = some p1.1 := by rw [f1, List.getElem?_map, h1]; rfl
    have e2 : ll[k]? = some p2.1 := by rw [f2, List.getElem?_map, h2]; rfl
    exact ⟨Option.some.inj (e1.symm.trans e2), List.mem_of_getElem? e1, List.mem_of_getElem? h1, List.mem_of_getElem? h2⟩
  have HA := Lib.hid r1
  have HB := Lib.hid r2
  have HE := Lib.hid hE
  have N1 := Lib.hid n1
  have N2 := Lib.hid n2
  have L1 := Lib.hid l1
  have L2 := Lib.hid l2
  have HU := Lib.hid hu
  clear hu
  clear r1 r2 n1 n2 f1 f2 hE
  rw [l1, l2]
  clear l1 l2
  generalize hn : ll.length = n at *
  have HN := Lib.hid hn
  clear hn
  go_enter Tryz.func32, Tryz.ntmps32
  go_wp2
  go_loopw [5] (fun i wr => ∃ k m : Nat, k ≤ n ∧ i = .int .i64 (k : Int) ∧ Hid (wr = w.drewN m)) (fun i _ => n - (intOf i).toNat)
  case atStart => exact ⟨0, 0, Nat.zero_le _, rfl, Lib.hid rfl⟩
  case round =>
    obtain ⟨k, m, hk, rfl, HW⟩ := hrel
    by_cases hkl : k < n
    · have t0 : decide (k < n) = true := by simp; omega
      obtain ⟨b1, o1, c1, p1, e1, g1, _, q1⟩ := Rw.at HA.out (j := k) (by have := L1.out; omega)
      obtain ⟨b2, o2, c2, p2, e2, g2, _, q2⟩ := Rw.at HB.out (j := k) (by have := L2.out; omega)
      obtain ⟨heq, hmem, hm1, hm2⟩ := HE.out k p1 p2 g1 g2
      have z1 := N1.out p1 hm1
      have z2 := N2.out p2 hm2
      injection e1 with e1 _ e1c
      injection e2 with e2 _ e2c
      subst e1 e2 e1c e2c
      have hK : ∀ m', Kp w (wr.drewN m') (fun _ => False) := fun m' => by rw [HW.out]; exact Kp.of_below (below_drewN (below_drewN (Below.refl _ _) _) _)
      obtain ⟨u1, v1⟩ := p1
      obtain ⟨u2, v2⟩ := p2
      simp only at heq hmem z1 z2
      subst heq
      have y1 : wr.cell? ⟨b1, o1 + k, none⟩ = some v1 := by rw [HW.out, drewN_cell]; simpa using q1 0 _ rfl
      have y2 : wr.cell? ⟨b2, o2 + k, none⟩ = some v2 := by rw [HW.out, drewN_cell]; simpa using q2 0 _ rfl
      have HC : Hid (∀ m', Calls Tryz.prog 31 #[v1, v2] (wr.drewN m') fun r w' => r = .returned (.bool true) ∧ ∃ n, w' = (wr.drewN m').drewN n) := Lib.hid (fun m' => usame (z1.any (hK m')) (z2.any (hK m')) (HU.out _ hmem))
      obtain ⟨A1, x1, hv1, _⟩ := id z1
      obtain ⟨A2, x2, hv2, _⟩ := id z2
      subst hv1 hv2
      clear q1 q2 g1 g2 z1 z2 hK
      go_wp2
      go_quiet ((go_at_call 31; exact Calls.quiet_of (HC.out _)))
      go_wp2
      refine ⟨⟨k + 1, _, by omega, by go_num, Lib.hid (by rw [HW.out]; exact World.drewN_drewN _ _ _)⟩, by simp [intOf]; omega⟩
    · have t0 : decide (k < n) = false := by simp; omega
      go_wp2
      go_ret
      exact ⟨rfl, m, HW.out⟩
set_option maxRecDepth 100000 in
set_option maxHeartbeats 4000000 in
theorem esame {ll : List En} (ha : Ex w X va ll) (hb : Ex w Y vb ll) (hl : ll.length ≤ 1048576) (hu : ∀ x ∈ ll, x.u.length ≤ 1048576 ∧ x.ll.length ≤ 4294967296 ∧ ∀ l ∈ x.ll, l.length ≤ 1048576) :
    Calls Tryz.prog 20 #[va, vb] w fun r w' => r = .returned (.bool true) ∧ ∃ n, w' = w.drewN n := by
  obtain ⟨d1, f1, r1, n1⟩ := ha
  obtain ⟨d2, f2, r2, n2⟩ := hb
  obtain ⟨Aa, ca, hva, _⟩ := id r1
  obtain ⟨Ab, cb, hvb, _⟩ := id r2
  subst hva hvb
  have l1 : d1.length = ll.length := by rw [f1]; simp
  have l2 : d2.length = ll.length := by rw [f2]; simp
  have hE : ∀ (k : Nat) (p1 p2 : En × Value × Value), d1[k]? = some p1 → d2[k]? = some p2 → p1.1 = p2.1 ∧ p1.1 ∈ ll ∧ p1 ∈ d1 ∧ p2 ∈ d2 := fun k p1 p2 h1 h2 => by
    have e1 : ll[k]? = some p1.1 := by rw [f1, List.getElem?_map, h1]; rfl
    have e2 : ll[k]? = some p2.1 := by rw [f2, List.getElem?_map, h2]; rfl
    exact ⟨Option.some.inj (e1.symm.trans e2), List.mem_of_getElem? e1, List.mem_of_getElem? h1, List.mem_of_getElem? h2⟩
  have HA := Lib.hid r1
  have HB := Lib.hid r2
  have HE := Lib.hid hE
  have N1 := Lib.hid n1
  have N2 := Lib.hid n2
  have L1 := Lib.hid l1
  have L2 := Lib.hid l2
  have HU := Lib.hid hu
  clear hu
  clear r1 r2 n1 n2 f1 f2 hE
  rw [l1, l2]
  clear l1 l2
  generalize hn : ll.length = n at *
  have HN := Lib.hid hn
  clear hn
  go_enter Tryz.func20, Tryz.ntmps20
  go_wp2
  go_loopw [5] (fun i wr => ∃ k m : Nat, k ≤ n ∧ i = .int .i64 (k : Int) ∧ Hid (wr = w.drewN m)) (fun i _ => n - (intOf i).toNat)
  case atStart => exact ⟨0, 0, Nat.zero_le _, rfl, Lib.hid rfl⟩
  case round =>
    obtain ⟨k, m, hk, rfl, HW⟩ := hrel
    by_cases hkl : k < n
    · have t0 : decide (k < n) = true := by simp; omega
      obtain ⟨b1, o1, c1, p1, e1, g1, _, q1⟩ := Rw.at HA.out (j := k) (by have := L1.out; omega)
      obtain ⟨b2, o2, c2, p2, e2, g2, _, q2⟩ := Rw.at HB.out (j := k) (by have := L2.out; omega)
      obtain ⟨heq, hmem, hm1, hm2⟩ := HE.out k p1 p2 g1 g2
      have z1 := N1.out p1 hm1
      have z2 := N2.out p2 hm2
      injection e1 with e1 _ e1c
      injection e2 with e2 _ e2c
      subst e1 e2 e1c e2c
      have hK : ∀ m', Kp w (wr.drewN m') (fun _ => False) := fun m' => by rw [HW.out]; exact Kp.of_below (below_drewN (below_drewN (Below.refl _ _) _) _)
      obtain ⟨⟨⟨ln, lv⟩, ⟨hn, hv⟩, to, u, lx⟩, v1, x1⟩ := p1
      obtain ⟨en2, v2, x2⟩ := p2
      simp only at heq hmem z1 z2
      subst heq
      obtain ⟨zu1, zl1⟩ := z1
      obtain ⟨zu2, zl2⟩ := z2
      simp only at zu1 zl1 zu2 zl2
      have hbd := HU.out _ hmem
      simp only at hbd
      have y10 : wr.cell? ⟨b1, o1 + k * 7, none⟩ = some (.int .i64 ln) := by rw [HW.out, drewN_cell]; simpa using q1 0 _ rfl
      have y20 : wr.cell? ⟨b2, o2 + k * 7, none⟩ = some (.int .i64 ln) := by rw [HW.out, drewN_cell]; simpa using q2 0 _ rfl
      have y11 : wr.cell? ⟨b1, o1 + k * 7 + 1, none⟩ = some (.int .i64 lv) := by rw [HW.out, drewN_cell]; exact q1 1 _ rfl
      have y21 : wr.cell? ⟨b2, o2 + k * 7 + 1, none⟩ = some (.int .i64 lv) := by rw [HW.out, drewN_cell]; exact q2 1 _ rfl
      have y12 : wr.cell? ⟨b1, o1 + k * 7 + 2, none⟩ = some (.int .i64 hn) := by rw [HW.out, drewN_cell]; exact q1 2 _ rfl
      have y22 : wr.cell? ⟨b2, o2 + k * 7 + 2, none⟩ = some (.int .i64 hn) := by rw [HW.out, drewN_cell]; exact q2 2 _ rfl
      have y13 : wr.cell? ⟨b1, o1 + k * 7 + 3, none⟩ = some (.int .i64 hv) := by rw [HW.out, drewN_cell]; exact q1 3 _ rfl
      have y23 : wr.cell? ⟨b2, o2 + k * 7 + 3, none⟩ = some (.int .i64 hv) := by rw [HW.out, drewN_cell]; exact q2 3 _ rfl
      have y14 : wr.cell? ⟨b1, o1 + k * 7 + 4, none⟩ = some (.int .i64 to) := by rw [HW.out, drewN_cell]; exact q1 4 _ rfl
      have y24 : wr.cell? ⟨b2, o2 + k * 7 + 4, none⟩ = some (.int .i64 to) := by rw [HW.out, drewN_cell]; exact q2 4 _ rfl
      have y15 : wr.cell? ⟨b1, o1 + k * 7 + 5, none⟩ = some v1 := by rw [HW.out, drewN_cell]; exact q1 5 _ rfl
      have y25 : wr.cell? ⟨b2, o2 + k * 7 + 5, none⟩ = some v2 := by rw [HW.out, drewN_cell]; exact q2 5 _ rfl
      have y16 : wr.cell? ⟨b1, o1 + k * 7 + 6, none⟩ = some x1 := by rw [HW.out, drewN_cell]; exact q1 6 _ rfl
      have y26 : wr.cell? ⟨b2, o2 + k * 7 + 6, none⟩ = some x2 := by rw [HW.out, drewN_cell]; exact q2 6 _ rfl
      have HC : Hid (∀ m', Calls Tryz.prog 31 #[v1, v2] (wr.drewN m') fun r w' => r = .returned (.bool true) ∧ ∃ n, w' = (wr.drewN m').drewN n) := Lib.hid (fun m' => usame (zu1.any (hK m')) (zu2.any (hK m')) hbd.1)
      have HC2 : Hid (∀ m', Calls Tryz.prog 32 #[x1, x2] (wr.drewN m') fun r w' => r = .returned (.bool true) ∧ ∃ n, w' = (wr.drewN m').drewN n) := Lib.hid (fun m' => lsame (zl1.any (hK m')) (zl2.any (hK m')) hbd.2.1 hbd.2.2)
      obtain ⟨A1, s1, hv1, _⟩ := id zu1
      obtain ⟨A2, s2, hv2, _⟩ := id zu2
      obtain ⟨A3, n3, s3, hv3⟩ := zl1.shape'
      obtain ⟨A4, n4, s4, hv4⟩ := zl2.shape'
      subst hv1 hv2 hv3 hv4
      clear zu1 zu2 zl1 zl2 hbd
      clear q1 q2 g1 g2 hK
      go_wp2
      go_quiet (first | (go_at_call 31; exact Calls.quiet_of (HC.out _)) | (go_at_call 32; exact Calls.quiet_of (HC2.out _)))
      go_wp2
      refine ⟨⟨k + 1, _, by omega, by go_num, Lib.hid (by rw [HW.out]; exact World.drewN_drewN _ _ _)⟩, by simp [intOf]; omega⟩
    · have t0 : decide (k < n) = false := by simp; omega
      go_wp2
      go_ret
      exact ⟨rfl, m, HW.out⟩
set_option maxRecDepth 100000 in
set_option maxHeartbeats 4000000 in
theorem isame {ll : List Im} (ha : Ix w X va ll) (hb : Ix w Y vb ll) (hl : ll.length ≤ 1048576) (hu : ∀ x ∈ ll, x.ents.length ≤ 1048576 ∧ ∀ y ∈ x.ents, y.u.length ≤ 1048576 ∧ y.ll.length ≤ 4294967296 ∧ ∀ l ∈ y.ll, l.length ≤ 1048576) :
    Calls Tryz.prog 9 #[va, vb] w fun r w' => r = .returned (.bool true) ∧ ∃ n, w' = w.drewN n := by
  obtain ⟨d1, f1, r1, n1⟩ := ha
  obtain ⟨d2, f2, r2, n2⟩ := hb
  obtain ⟨Aa, ca, hva, _⟩ := id r1
  obtain ⟨Ab, cb, hvb, _⟩ := id r2
  subst hva hvb
  have l1 : d1.length = ll.length := by rw [f1]; simp
  have l2 : d2.length = ll.length := by rw [f2]; simp
  have hE : ∀ (k : Nat) (p1 p2 : Im × Value), d1[k]? = some p1 → d2[k]? = some p2 → p1.1 = p2.1 ∧ p1.1 ∈ ll ∧ p1 ∈ d1 ∧ p2 ∈ d2 := fun k p1 p2 h1 h2 => by
    have e1 : ll[k]? = some p1.1 := by rw [f1, List.getElem?_map, h1]; rfl
    have e2 : ll[k]? = some p2.1 := by rw [f2, List.getElem?_map, h2]; rfl
    exact ⟨Option.some.inj (e1.symm.trans e2), List.mem_of_getElem? e1, List.mem_of_getElem? h1, List.mem_of_getElem? h2⟩
  have HA := Lib.hid r1
  have HB := Lib.hid r2
  have HE := Lib.hid hE
  have N1 := Lib.hid n1
  have N2 := Lib.hid n2
  have L1 := Lib.hid l1
  have L2 := Lib.hid l2
  have HU := Lib.hid hu
  clear hu
  clear r1 r2 n1 n2 f1 f2 hE
  rw [l1, l2]
  clear l1 l2
  generalize hn : ll.length = n at *
  have HN := Lib.hid hn
  clear hn
  go_enter Tryz.func9, Tryz.ntmps9
  go_wp2
  go_loopw [5] (fun i wr => ∃ k m : Nat, k ≤ n ∧ i = .int .i64 (k : Int) ∧ Hid (wr = w.drewN m)) (fun i _ => n - (intOf i).toNat)
  case atStart => exact ⟨0, 0, Nat.zero_le _, rfl, Lib.hid rfl⟩
  case round =>
    obtain ⟨k, m, hk, rfl, HW⟩ := hrel
    by_cases hkl : k < n
    · have t0 : decide (k < n) = true := by simp; omega
      obtain ⟨b1, o1, c1, p1, e1, g1, _, q1⟩ := Rw.at HA.out (j := k) (by have := L1.out; omega)
      obtain ⟨b2, o2, c2, p2, e2, g2, _, q2⟩ := Rw.at HB.out (j := k) (by have := L2.out; omega)
      obtain ⟨heq, hmem, hm1, hm2⟩ := HE.out k p1 p2 g1 g2
      have z1 := N1.out p1 hm1
      have z2 := N2.out p2 hm2
      injection e1 with e1 _ e1c
      injection e2 with e2 _ e2c
      subst e1 e2 e1c e2c
      have hK : ∀ m', Kp w (wr.drewN m') (fun _ => False) := fun m' => by rw [HW.out]; exact Kp.of_below (below_drewN (below_drewN (Below.refl _ _) _) _)
      obtain ⟨⟨ik, ia, nm, ⟨tk, tt, tn, ts⟩, es⟩, v1⟩ := p1
      obtain ⟨im2, v2⟩ := p2
      simp only at heq hmem z1 z2
      subst heq
      simp only at z1 z2
      have hbd := HU.out _ hmem
      simp only at hbd
      have y10 : wr.cell? ⟨b1, o1 + k * 8, none⟩ = some (.int .i64 ik) := by rw [HW.out, drewN_cell]; simpa using q1 0 _ rfl
      have y20 : wr.cell? ⟨b2, o2 + k * 8, none⟩ = some (.int .i64 ik) := by rw [HW.out, drewN_cell]; simpa using q2 0 _ rfl
      have y11 : wr.cell? ⟨b1, o1 + k * 8 + 1, none⟩ = some (.int .i64 ia) := by rw [HW.out, drewN_cell]; exact q1 1 _ rfl
      have y21 : wr.cell? ⟨b2, o2 + k * 8 + 1, none⟩ = some (.int .i64 ia) := by rw [HW.out, drewN_cell]; exact q2 1 _ rfl
      have y12 : wr.cell? ⟨b1, o1 + k * 8 + 2, none⟩ = some (.string (str nm)) := by rw [HW.out, drewN_cell]; exact q1 2 _ rfl
      have y22 : wr.cell? ⟨b2, o2 + k * 8 + 2, none⟩ = some (.string (str nm)) := by rw [HW.out, drewN_cell]; exact q2 2 _ rfl
      have y13 : wr.cell? ⟨b1, o1 + k * 8 + 3, none⟩ = some (.int .i64 tk) := by rw [HW.out, drewN_cell]; exact q1 3 _ rfl
      have y23 : wr.cell? ⟨b2, o2 + k * 8 + 3, none⟩ = some (.int .i64 tk) := by rw [HW.out, drewN_cell]; exact q2 3 _ rfl
      have y14 : wr.cell? ⟨b1, o1 + k * 8 + 4, none⟩ = some (.int .i64 tt) := by rw [HW.out, drewN_cell]; exact q1 4 _ rfl
      have y24 : wr.cell? ⟨b2, o2 + k * 8 + 4, none⟩ = some (.int .i64 tt) := by rw [HW.out, drewN_cell]; exact q2 4 _ rfl
      have y15 : wr.cell? ⟨b1, o1 + k * 8 + 5, none⟩ = some (.int .i64 tn) := by rw [HW.out, drewN_cell]; exact q1 5 _ rfl
      have y25 : wr.cell? ⟨b2, o2 + k * 8 + 5, none⟩ = some (.int .i64 tn) := by rw [HW.out, drewN_cell]; exact q2 5 _ rfl
      have y16 : wr.cell? ⟨b1, o1 + k * 8 + 6, none⟩ = some (.string (str ts)) := by rw [HW.out, drewN_cell]; exact q1 6 _ rfl
      have y26 : wr.cell? ⟨b2, o2 + k * 8 + 6, none⟩ = some (.string (str ts)) := by rw [HW.out, drewN_cell]; exact q2 6 _ rfl
      have y17 : wr.cell? ⟨b1, o1 + k * 8 + 7, none⟩ = some v1 := by rw [HW.out, drewN_cell]; exact q1 7 _ rfl
      have y27 : wr.cell? ⟨b2, o2 + k * 8 + 7, none⟩ = some v2 := by rw [HW.out, drewN_cell]; exact q2 7 _ rfl
      have HC : Hid (∀ m', Calls Tryz.prog 20 #[v1, v2] (wr.drewN m') fun r w' => r = .returned (.bool true) ∧ ∃ n, w' = (wr.drewN m').drewN n) := Lib.hid (fun m' => esame (z1.any (hK m')) (z2.any (hK m')) hbd.1 hbd.2)
      obtain ⟨A3, n3, s3, hv3⟩ := z1.shape'
      obtain ⟨A4, n4, s4, hv4⟩ := z2.shape'
      subst hv3 hv4
      clear hbd
      clear q1 q2 g1 g2 z1 z2 hK
      go_wp2
      go_quiet ((go_at_call 20; exact Calls.quiet_of (HC.out _)))
      go_wp2
      refine ⟨⟨k + 1, _, by omega, by go_num, Lib.hid (by rw [HW.out]; exact World.drewN_drewN _ _ _)⟩, by simp [intOf]; omega⟩
    · have t0 : decide (k < n) = false := by simp; omega
      go_wp2
      go_ret
      exact ⟨rfl, m, HW.out⟩
end
end Go.Proofs.YthcnjiigkmljnaaGreatDoor
