/-
  The head of every statement of layer 5: the document's example.
-/
import Derived.Test.YthcnjiigkmljnaaGreatDoorSynEg
import Derived.Test.YthcnjiigkmljnaaGreatDoorSynTs
import Derived.Test.YthcnjiigkmljnaaGreatDoorSynParse
import Derived.Test.YthcnjiigkmljnaaGreatDoorTokAll
namespace Go.Proofs.YthcnjiigkmljnaaGreatDoor
open Go.RowKit

theorem egS_sm : Sm egS := ⟨by decide, by decide⟩
/-- The example's items, in memory. -/
theorem eg_cells {w : World} {X : Nat → Prop} {v : Value} (h : Ix w X v egI) : ∃ b o c be oe ce, v = .slice (some ⟨b, o, none⟩) 2 c ∧ b < w.heap.size ∧ be < w.heap.size ∧
    w.cell? ⟨b, o, none⟩ = some (.int .i64 4) ∧ w.cell? ⟨b, o + 1, none⟩ = some (.int .i64 2) ∧ w.cell? ⟨b, o + 7, none⟩ = some (.slice (some ⟨be, oe, none⟩) 1 ce) ∧
    w.cell? ⟨b, o + 8, none⟩ = some (.int .i64 0) ∧ w.cell? ⟨b, o + 8 + 2, none⟩ = some (.string (str [87])) ∧ w.cell? ⟨b, o + 8 + 5, none⟩ = some (.int .i64 1) ∧
    w.cell? ⟨be, oe, none⟩ = some (.int .i64 1) ∧ w.cell? ⟨be, oe + 1, none⟩ = some (.int .i64 65) ∧ w.cell? ⟨be, oe + 2, none⟩ = some (.int .i64 1) ∧ w.cell? ⟨be, oe + 3, none⟩ = some (.int .i64 65) ∧ w.cell? ⟨be, oe + 4, none⟩ = some (.int .i64 7) := by
  obtain ⟨d, hd, ⟨A, c, hv, _, hcl⟩, hex⟩ := h
  match d, hd with
  | [(i0, e0), (i1, e1)], hd =>
    simp [egI] at hd
    obtain ⟨h0, h1⟩ := hd
    subst h0 h1
    obtain ⟨b, o, hA, hb, _, hc⟩ := hcl (by simp)
    obtain ⟨d2, hd2, ⟨A2, c2, hv2, _, hcl2⟩, _⟩ := hex _ (List.mem_cons_self)
    match d2, hd2 with
    | [(x, vu, vl)], hd2 =>
      simp [egE] at hd2
      subst hd2
      obtain ⟨be, oe, hA2, hbe, _, hc2⟩ := hcl2 (by simp)
      simp only at hv2
      subst hA hA2 hv2
      refine ⟨b, o, c, be, oe, c2, hv, hb, hbe, ?_, ?_, ?_, ?_, ?_, ?_, ?_, ?_, ?_, ?_, ?_⟩
      · exact hc 0 _ rfl 0 _ rfl
      · simpa using hc 0 _ rfl 1 _ rfl
      · simpa using hc 0 _ rfl 7 _ rfl
      · simpa using hc 1 _ rfl 0 _ rfl
      · simpa using hc 1 _ rfl 2 _ rfl
      · simpa using hc 1 _ rfl 5 _ rfl
      · exact hc2 0 _ rfl 0 _ rfl
      · simpa using hc2 0 _ rfl 1 _ rfl
      · simpa using hc2 0 _ rfl 2 _ rfl
      · simpa using hc2 0 _ rfl 3 _ rfl
      · simpa using hc2 0 _ rfl 4 _ rfl
set_option maxRecDepth 100000 in
set_option maxHeartbeats 1000000 in
theorem read_eg (w : World) (hT : Ts w) : Calls Tryz.prog 15 #[.string (ByteArray.mk #[49, 32, 98, 101, 103, 105, 110, 99, 105, 100, 99, 104, 97, 114, 32, 60, 52, 49, 62, 32, 55, 32, 101, 110, 100, 99, 105, 100, 99, 104, 97, 114, 32, 47, 87, 32, 49, 32, 100, 101, 102])] w fun r w' => ∃ A c, r = .returned (.tuple #[.slice A 2 c, .bool true]) ∧ Ix w' (fun _ => False) (.slice A 2 c) egI ∧ Below w.heap.size w w' := by
  have hA : Calls Tryz.prog 13 #[.string (ByteArray.mk #[49, 32, 98, 101, 103, 105, 110, 99, 105, 100, 99, 104, 97, 114, 32, 60, 52, 49, 62, 32, 55, 32, 101, 110, 100, 99, 105, 100, 99, 104, 97, 114, 32, 47, 87, 32, 49, 32, 100, 101, 102])] w fun e w' => RetTk w ⟨egS, 41, 0⟩ e w' := by
    have := All_any egB w hT.tab hT.mks (by decide)
    rw [eg_all5] at this
    exact this
  have HA := Lib.hid hA
  clear hA
  go_enter Tryz.func15, Tryz.ntmps15
  go_wp2_with fail
  refine HA.out.mono ?_
  rintro e w1 ⟨A, c, rfl, hc, hst, hb1⟩
  have hP := Parse_any (en := 41) (c := c) w1 hst (hT.below' hb1).sec (.inl egS_sm)
  have el : egS.length = 8 := rfl
  rw [el] at hP
  have HP := Lib.hid hP
  clear hP HA hst
  go_wp2_with fail
  refine HP.out.mono ?_
  rintro r w2 ⟨hb2, h3⟩
  rw [eg_parse] at h3
  rcases h3 with ⟨a, e', h4, _⟩ | ⟨x, j, A', c', h4, rfl, hix⟩
  · cases h4
  · injection h4 with e1 e2
    subst e1
    have HX := Lib.hid (hix.to (X' := fun _ => False) (Kp.refl _ _) (fun _ _ h => h.elim))
    have el2 : egI.length = 2 := rfl
    rw [el2] at *
    clear hix HP
    go_wp2
    go_ret2
    exact ⟨A', c', rfl, HX.out, hb1.trans (hb2.mono hb1.size)⟩
theorem begin_eight (w : World) (hs : Sec w) : Calls Tryz.prog 11 #[.int .i64 8] w fun r w' => r = .returned (.string (str [98, 101, 103, 105, 110, 98, 102, 99, 104, 97, 114])) ∧ w' = w := by
  have hap : ByteArray.mk #[98, 101, 103, 105, 110] ++ str [98, 102, 99, 104, 97, 114] = str [98, 101, 103, 105, 110, 98, 102, 99, 104, 97, 114] := str_append [98, 101, 103, 105, 110] [98, 102, 99, 104, 97, 114]
  have hc := hs 8 (by decide)
  have e8 : wordL ((8 : Nat) : Int) = [98, 102, 99, 104, 97, 114] := by decide
  rw [e8] at hc
  have hwl : ([98, 102, 99, 104, 97, 114] : List UInt8).length ≤ 14 := by decide
  generalize ([98, 102, 99, 104, 97, 114] : List UInt8) = wd at *
  clear hs
  go_enter Tryz.func11, Tryz.ntmps11
  go_wp2
  go_ret
  exact ⟨rfl, rfl⟩
set_option maxRecDepth 100000 in
set_option maxHeartbeats 2000000 in
theorem awake_any (w : World) (hT : Ts w) : Calls Tryz.prog 5 #[] w fun e w' => e = .returned (.bool true) ∧ Below w.heap.size w w' := by
  go_enter Tryz.func5, Tryz.ntmps5
  go_wp2_with fail
  refine (read_eg w hT).mono ?_
  rintro r w1 ⟨A, c, rfl, hix, hb1⟩
  obtain ⟨b, o, c2, be, oe, ce, hv, hbl, hbel, g0, g1, g7, f0, f2, f5, k0, k1, k2, k3, k4⟩ := eg_cells hix
  injection hv with hA _ _
  subst hA
  have hB : ∀ w', Sec w' → Calls Tryz.prog 11 #[.int .i64 8] w' fun r w'' => r = .returned (.string (str [98, 101, 103, 105, 110, 98, 102, 99, 104, 97, 114])) ∧ w'' = w' := fun w' hs => begin_eight w' hs
  have HB := Lib.hid hB
  have HS := Lib.hid (hT.below' hb1).sec
  have f2' : w1.cell? ⟨b, o + 8 + 2, none⟩ = some (.string (ByteArray.mk #[87])) := f2
  clear hB hix f2
  have nb : w1.heap.size ≠ b := by omega
  have nbe : w1.heap.size ≠ be := by omega
  go_wp2_with fail
  go_quiet ((go_at_call 11; exact Calls.quiet_of_same (HB.out _ ((HS.out.below' ((Below.refl _ _).alloc (Nat.le_refl _) _)).below' (below_drewN (Below.refl _ _) _)))))
  go_wp2
  go_ret
  exact ⟨rfl, hb1.trans ((below_drewN ((Below.refl _ _).alloc (Nat.le_refl _) _) _).mono hb1.size)⟩
end Go.Proofs.YthcnjiigkmljnaaGreatDoor
