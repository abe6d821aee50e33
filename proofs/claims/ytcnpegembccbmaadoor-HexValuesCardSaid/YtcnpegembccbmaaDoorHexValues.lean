/-
  The walk of the statement HexValues.
-/
import Derived.Test.YtcnpegembccbmaaDoorHexAwake
import Derived.Test.YtcnpegembccbmaaDoorHexOrd
import Derived.Test.YtcnpegembccbmaaDoorHexTexts0
import Derived.Test.YtcnpegembccbmaaDoorHexRows
import Derived.Deep.RegionHeld3
import Derived.Deep.RegionWith
namespace Go.Proofs.YtcnpegembccbmaaDoor
open Go.RowKit

/-- The cells of two codes, in a world behind a call. -/
theorem two_cells {w w1 : World} {n m p q : Int} {t : TypeId} (hb : Below ((w.alloc (.cells #[.int .i64 n, .int .i64 m] t)).alloc (.cells #[.int .i64 p, .int .i64 q] t)).heap.size ((w.alloc (.cells #[.int .i64 n, .int .i64 m] t)).alloc (.cells #[.int .i64 p, .int .i64 q] t)) w1) :
    (w1.cell? ⟨w.heap.size, 0, none⟩ = some (.int .i64 n) ∧ w1.cell? ⟨w.heap.size, 1, none⟩ = some (.int .i64 m)) ∧ (w1.cell? ⟨w.heap.size + 1, 0, none⟩ = some (.int .i64 p) ∧ w1.cell? ⟨w.heap.size + 1, 1, none⟩ = some (.int .i64 q)) ∧ w.heap.size + 1 < w1.heap.size := by
  refine ⟨⟨?_, ?_⟩, ⟨?_, ?_⟩, by have := hb.size; simp at this; omega⟩
  · exact (hb.cell (p := ⟨w.heap.size, 0, none⟩) (by simp; omega)).trans (by simp)
  · exact (hb.cell (p := ⟨w.heap.size, 1, none⟩) (by simp; omega)).trans (by simp)
  · exact (hb.cell (p := ⟨w.heap.size + 1, 0, none⟩) (by simp)).trans (by simp)
  · exact (hb.cell (p := ⟨w.heap.size + 1, 1, none⟩) (by simp)).trans (by simp)
theorem two_below {w w1 : World} {o o' : Obj} (hb : Below ((w.alloc o).alloc o').heap.size ((w.alloc o).alloc o') w1) : Below w.heap.size w w1 := code_below ((((Below.refl _ _).alloc (Nat.le_refl _) _)).trans (hb.mono (by simp)))

set_option maxHeartbeats 1000000 in
theorem values_no (n m p q : Int) (w : World) (ht : Tab w) (hs : saneB n m = false) :
    Calls Tryd.prog 6 #[.agg #[.int .i64 n, .int .i64 m], .agg #[.int .i64 p, .int .i64 q]] w fun e w' => e = .returned (.bool true) ∧ Below w.heap.size w w' := by
  have ha := (ht.code (.cells #[.int .i64 n, .int .i64 m] 33)).code (.cells #[.int .i64 p, .int .i64 q] 33)
  have htx : textL n m = [] := by simp [textL, hs]
  have hcl : codeL n m = [] := by simp [codeL, hs]
  have hT : ∀ w, Calls Tryd.prog 25 #[.agg #[.int .i64 n, .int .i64 m]] w fun e w' => e = .returned (.string (str [])) ∧ Below w.heap.size w w' := fun w => by have := Text_any n m w; rwa [htx] at this
  have hB : ∀ w, Calls Tryd.prog 23 #[.agg #[.int .i64 n, .int .i64 m]] w (RetSl w []) := fun w => by have := Bytes_any n m w; rwa [hcl] at this
  have HT := Lib.hid hT
  have HB := Lib.hid hB
  clear hT hB htx hcl
  go_enter Tryd.func6, Tryd.ntmps6
  go_wp2_with fail
  refine (awake_any _ ha).mono ?_
  rintro e w1 ⟨rfl, hb1⟩
  obtain ⟨⟨k0, k1⟩, ⟨k2, k3⟩, kz1⟩ := two_cells hb1
  go_wp2_with fail
  refine (HB.out _).mono ?_
  rintro e w2 ⟨A2, c2, rfl, hc2, hsl2, hb2⟩
  have hb2' := hb1.trans (hb2.mono hb1.size)
  clear k0 k1 k2 k3
  obtain ⟨⟨k0, k1⟩, ⟨k2, k3⟩, kz2⟩ := two_cells hb2'
  go_wp2_with fail
  refine (Bytes_any _ _ _).mono ?_
  rintro e w3 ⟨A3, c3, rfl, hc3, hsl3, hb3⟩
  have hb3' := hb2'.trans (hb3.mono hb2'.size)
  clear k0 k1 k2 k3
  obtain ⟨⟨k0, k1⟩, ⟨k2, k3⟩, kz3⟩ := two_cells hb3'
  go_wp2_with fail
  refine (Sane_any _ _ _).mono ?_
  rintro e w4 ⟨rfl, hb4⟩
  have hb4' := hb3'.trans (hb4.mono hb3'.size)
  clear k0 k1 k2 k3
  obtain ⟨⟨k0, k1⟩, ⟨k2, k3⟩, kz4⟩ := two_cells hb4'
  go_wp2_with fail
  refine (HT.out _).mono ?_
  rintro e w5 ⟨rfl, hb5⟩
  go_wp2
  go_ret
  exact ⟨rfl, two_below (hb4'.trans (hb5.mono hb4'.size))⟩

set_option maxHeartbeats 2000000 in
theorem values_yes (n m p q : Int) (w : World) (ht : Tab w) (hs : saneB n m = true) :
    Calls Tryd.prog 6 #[.agg #[.int .i64 n, .int .i64 m], .agg #[.int .i64 p, .int .i64 q]] w fun e w' => e = .returned (.bool true) ∧ Below w.heap.size w w' := by
  have ha := (ht.code (.cells #[.int .i64 n, .int .i64 m] 33)).code (.cells #[.int .i64 p, .int .i64 q] 33)
  obtain ⟨s1, s2, s3, s4⟩ := (saneB_iff n m).1 hs
  obtain ⟨x, hx⟩ : ∃ x, x = beL n.toNat m := ⟨_, rfl⟩
  obtain ⟨y, hy⟩ : ∃ y, y = codeL p q := ⟨_, rfl⟩
  obtain ⟨t, htt⟩ : ∃ t, t = textL n m := ⟨_, rfl⟩
  obtain ⟨u, huu⟩ : ∃ u, u = textL p q := ⟨_, rfl⟩
  have hcl : codeL n m = x := by simp [codeL, hs, hx]
  have hxl : (x.length : Int) = n := by rw [hx, beL_length]; omega
  have htl : (t.length : Int) = 2 + 2 * n := by
    rw [htt]
    simp only [textL, hs, if_true, List.length_cons, List.length_append, hexL_length, beL_length, List.length_nil]
    omega
  have hT : ∀ w, Calls Tryd.prog 25 #[.agg #[.int .i64 n, .int .i64 m]] w fun e w' => e = .returned (.string (str t)) ∧ Below w.heap.size w w' := fun w => by rw [htt]; exact Text_any n m w
  have hB : ∀ w, Calls Tryd.prog 23 #[.agg #[.int .i64 n, .int .i64 m]] w (RetSl w x) := fun w => by have := Bytes_any n m w; rwa [hcl] at this
  have hB' : ∀ w, Calls Tryd.prog 23 #[.agg #[.int .i64 p, .int .i64 q]] w (RetSl w y) := fun w => by rw [hy]; exact Bytes_any p q w
  have hV : ∀ (A : Option Addr) (c : Nat) w, Sl w w.heap.size A x → Calls Tryd.prog 19 #[.slice A x.length c] w fun e w' => e = .returned (.tuple #[.agg #[.int .i64 n, .int .i64 m], .bool true]) ∧ Below w.heap.size w w' := fun A c w h => by
    have := Val_yes A c x w h (by omega) (by omega)
    rwa [hxl, show num x = m by rw [hx]; exact num_beL _ _ s3 s4] at this
  have HT := Lib.hid hT
  have HB := Lib.hid hB
  have HB' := Lib.hid hB'
  have HV := Lib.hid hV
  have HXL := Lib.hid hxl
  have HTL := Lib.hid htl
  have HX := Lib.hid hx
  have HY := Lib.hid hy
  have HTT := Lib.hid htt
  have HUU := Lib.hid huu
  have S4 := Lib.hid s4
  clear hT hB hB' hV hcl hxl htl hx hy htt huu s4
  go_enter Tryd.func6, Tryd.ntmps6
  go_wp2_with fail
  refine (awake_any _ ha).mono ?_
  rintro e w1 ⟨rfl, hb1⟩
  obtain ⟨⟨k0, k1⟩, ⟨k2, k3⟩, kz1⟩ := two_cells hb1
  go_wp2_with fail
  refine (HB.out _).mono ?_
  rintro e w2 ⟨A2, c2, rfl, hc2, hsl2, hb2⟩
  have hb2' := hb1.trans (hb2.mono hb1.size)
  clear k0 k1 k2 k3
  obtain ⟨⟨k0, k1⟩, ⟨k2, k3⟩, kz2⟩ := two_cells hb2'
  go_wp2_with fail
  refine (HB'.out _).mono ?_
  rintro e w3 ⟨A3, c3, rfl, hc3, hsl3, hb3⟩
  have hb3' := hb2'.trans (hb3.mono hb2'.size)
  clear k0 k1 k2 k3
  obtain ⟨⟨k0, k1⟩, ⟨k2, k3⟩, kz3⟩ := two_cells hb3'
  go_wp2_with fail
  refine (Sane_any _ _ _).mono ?_
  rintro e w4 ⟨rfl, hb4⟩
  have hb4' := hb3'.trans (hb4.mono hb3'.size)
  clear k0 k1 k2 k3
  go_wp2_with fail
  refine (HV.out _ _ _ ((hsl2.over hb3).over hb4)).mono ?_
  rintro e w5 ⟨rfl, hb5⟩
  have hb5' := hb4'.trans (hb5.mono hb4'.size)
  obtain ⟨⟨k0, k1⟩, ⟨k2, k3⟩, kz5⟩ := two_cells hb5'
  have hxn := HXL.out
  have hw2 : IntKind.i64.wrap (2 * n) = 2 * n := IntWalk.i64_in _ (by omega)
  have hw3 : IntKind.i64.wrap (2 + 2 * n) = 2 + 2 * n := IntWalk.i64_in _ (by omega)
  have htn := HTL.out
  have hz5 : w.heap.size < w5.heap.size := by omega
  go_wp2_with fail
  have hb6 : Below ((w.alloc (.cells #[.int .i64 n, .int .i64 m] 33)).alloc (.cells #[.int .i64 p, .int .i64 q] 33)).heap.size ((w.alloc (.cells #[.int .i64 n, .int .i64 m] 33)).alloc (.cells #[.int .i64 p, .int .i64 q] 33)) (w5.alloc (.cells #[.int .i64 n, .int .i64 m] 33)) := hb5'.alloc hb5'.size _
  have g0 : (w5.alloc (.cells #[.int .i64 n, .int .i64 m] 33)).cell? ⟨w5.heap.size, 0, none⟩ = some (.int .i64 n) := by simp
  have g1 : (w5.alloc (.cells #[.int .i64 n, .int .i64 m] 33)).cell? ⟨w5.heap.size, 1, none⟩ = some (.int .i64 m) := by simp
  have gl : w5.heap.size < (w5.alloc (.cells #[.int .i64 n, .int .i64 m] 33)).heap.size := by simp
  have hx6 : Sl (w5.alloc (.cells #[.int .i64 n, .int .i64 m] 33)) (w5.alloc (.cells #[.int .i64 n, .int .i64 m] 33)).heap.size A2 x := (((((hsl2.over hb3).over hb4).over hb5)).alloc (Nat.le_refl _) _).more (by simp)
  have hy6 : Sl (w5.alloc (.cells #[.int .i64 n, .int .i64 m] 33)) (w5.alloc (.cells #[.int .i64 n, .int .i64 m] 33)).heap.size A3 y := ((((hsl3.over hb4).over hb5)).alloc (Nat.le_refl _) _).more (by simp)
  clear k0 k1 k2 k3 hb5 hb5' hb4 hb4' hb3 hb3' hb2 hb2' hb1 hsl2 hsl3 kz1 kz2 kz3 kz5 hz5 hc2 hc3
  generalize w5.alloc (.cells #[.int .i64 n, .int .i64 m] 33) = w6 at *
  generalize w5.heap.size = g at *
  obtain ⟨⟨k0, k1⟩, ⟨k2, k3⟩, kz6⟩ := two_cells hb6
  go_region_held3 (fun w' => w'.cell? ⟨w.heap.size, 0, none⟩ = some (.int .i64 n) ∧ w'.cell? ⟨w.heap.size, 1, none⟩ = some (.int .i64 m) ∧ w'.cell? ⟨g, 0, none⟩ = some (.int .i64 n) ∧ w'.cell? ⟨g, 1, none⟩ = some (.int .i64 m))
    (first | exact ⟨k0, k1, g0, g1⟩ | exact ⟨k07, k17, g07, g17⟩)
    (first | (go_at_call 25; refine (HT.out _).mono ?_; rintro e w7 ⟨rfl, hb7⟩; have hb7' := hb6.drew.trans (hb7.mono hb6.size); obtain ⟨⟨k07, k17⟩, ⟨k27, k37⟩, kz7⟩ := two_cells hb7'; have g07 : w7.cell? ⟨g, 0, none⟩ = some (.int .i64 n) := (hb7.cell (p := ⟨g, 0, none⟩) gl).trans g0; have g17 : w7.cell? ⟨g, 1, none⟩ = some (.int .i64 m) := (hb7.cell (p := ⟨g, 1, none⟩) gl).trans g1))
  have gl7 : w6.heap.size ≤ w7.heap.size := hb7.size
  have hx7 := hx6.drew.over hb7
  have hy7 := hy6.drew.over hb7
  clear k0 k1 k2 k3 g0 g1 g07 g17 hxn htn hw2 hw3 hx6 hy6
  go_wp2_with fail
  refine (Sane_any _ _ _).mono ?_
  rintro e w8 ⟨rfl, hb8⟩
  have hb8' := hb7'.trans (hb8.mono hb7'.size)
  clear k07 k17 k27 k37
  obtain ⟨⟨k0, k1⟩, ⟨k2, k3⟩, kz8⟩ := two_cells hb8'
  have hx8 := hx7.over hb8
  have hy8 := hy7.over hb8
  have cx := conv8 hx8 c2
  have cy := conv8 hy8 c3
  cases hsb : saneB p q
  · have hne : (x == y) = false := by
      have e : y = [] := by rw [HY.out]; simp [codeL, hsb]
      rw [e, beq_eq_false_iff_ne]
      intro hh
      have := HXL.out
      rw [hh] at this
      simp at this
      omega
    go_wp2
    go_ret
    exact ⟨rfl, two_below hb8'⟩
  · by_cases hnp : n = p
    · obtain ⟨r1, r2, r3, r4⟩ := (saneB_iff p q).1 hsb
      subst hnp
      have ex := HX.out
      have ey : y = beL n.toNat q := by rw [HY.out]; simp [codeL, hsb]
      have et : t = 60 :: (hexL x ++ [62]) := by rw [HTT.out, HX.out]; simp [textL, hs]
      have eu : u = 60 :: (hexL y ++ [62]) := by rw [HUU.out, ey]; simp [textL, hsb]
      have hless : Op.bytesLess x y = decide (m < q) := by rw [ex, ey]; exact less_be s3 S4.out r3 r4
      have heq : (x == y) = (m == q) := by rw [ex, ey]; exact eq_be s3 S4.out r3 r4
      have htu : (t == u) = (m == q) := by rw [et, eu, eq_text]; exact heq
      have hnn : (n == n) = true := by simp
      have hnn' : (n != n) = false := by simp
      have hU : ∀ w, Calls Tryd.prog 25 #[.agg #[.int .i64 n, .int .i64 q]] w fun e w' => e = .returned (.string (str u)) ∧ Below w.heap.size w w' := fun w => by rw [HUU.out]; exact Text_any n q w
      have HU := Lib.hid hU
      clear ex ey et eu hU r4
      cases hmq : (m == q)
      all_goals
        rw [hmq] at heq htu
        go_wp2_with fail
        have cx' := conv8 hx8.drew c2
        have cy' := conv8 hy8.drew c3
        go_region_held3 (fun w' => w'.cell? ⟨w.heap.size, 0, none⟩ = some (.int .i64 n) ∧ w'.cell? ⟨w.heap.size, 1, none⟩ = some (.int .i64 m) ∧ w'.cell? ⟨w.heap.size + 1, 0, none⟩ = some (.int .i64 n) ∧ w'.cell? ⟨w.heap.size + 1, 1, none⟩ = some (.int .i64 q) ∧ (convert 22 9 (.slice A2 x.length c2)).run Tryd.prog w' = .ok (.string (str x)) w' ∧ (convert 22 9 (.slice A3 y.length c3)).run Tryd.prog w' = .ok (.string (str y)) w')
          (first | exact ⟨k0, k1, k2, k3, cx', cy'⟩ | exact ⟨k09, k19, k29, k39, cx9, cy9⟩ | exact ⟨k0a, k1a, k2a, k3a, cxa, cya⟩)
          (first
            | (go_at_call 25; (with_reducible refine (HT.out _).mono ?_); rintro e w9 ⟨rfl, hb9⟩; have hb9' := hb8'.drew.trans (hb9.mono hb8'.size); obtain ⟨⟨k09, k19⟩, ⟨k29, k39⟩, kz9⟩ := two_cells hb9'; have hx9 := hx8.drew.over hb9; have hy9 := hy8.drew.over hb9; have cx9 := conv8 hx9 c2; have cy9 := conv8 hy9 c3)
            | (go_at_call 25; (with_reducible refine (HU.out _).mono ?_); rintro e wa ⟨rfl, hba⟩; have hba' := hb9'.trans (hba.mono hb9'.size); obtain ⟨⟨k0a, k1a⟩, ⟨k2a, k3a⟩, kza⟩ := two_cells hba'; have cxa := conv8 (hx9.over hba) c2; have cya := conv8 (hy9.over hba) c3))
        go_wp2
        go_ret
        exact ⟨rfl, two_below hba'⟩
    · have hnp' : (n != p) = true := by simpa using hnp
      have hne : (x == y) = false := by
        have e : y = beL p.toNat q := by rw [HY.out]; simp [codeL, hsb]
        rw [beq_eq_false_iff_ne]
        intro hh
        have h1 := HXL.out
        obtain ⟨r1, r2, r3, r4⟩ := (saneB_iff p q).1 hsb
        rw [hh, e, beL_length] at h1
        omega
      go_wp2
      go_ret
      exact ⟨rfl, two_below hb8'⟩
end Go.Proofs.YtcnpegembccbmaaDoor
