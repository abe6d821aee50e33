/-
  The walk of the statement TokBack: what is shown of tokens that were read is read as the same.
-/
import Derived.Test.YtjlecollphgmcaaDoorTokAwake
import Derived.Test.YtjlecollphgmcaaDoorTokAlike
namespace Go.Proofs.YtjlecollphgmcaaDoor
open Go.RowKit

theorem gd_kd {t : Tk} (h : Gd t.kind t.n t.s) : Kd t := by
  rcases h with ⟨h, _⟩ | ⟨h, _⟩ | ⟨h, _⟩ | ⟨h, _⟩ | ⟨h, _⟩ | ⟨m, hm, h, _⟩
  · exact .inl h
  · exact .inr (.inl h)
  · exact .inr (.inr (.inl h))
  · exact .inr (.inr (.inr (.inl h)))
  · exact .inr (.inr (.inr (.inr (.inl h))))
  · exact .inr (.inr (.inr (.inr (.inr ⟨m, hm, h⟩))))
theorem gd_sw {t : Tk} (h : Gd t.kind t.n t.s) (hs : t.s.length ≤ 65536) : Sw t := by
  refine ⟨hs, ?_⟩
  rcases h with ⟨_, h, _⟩ | ⟨_, h⟩ | ⟨_, h, _⟩ | ⟨_, h⟩ | ⟨_, h⟩ | ⟨_, _, _, h, _⟩
  · simp only [inR, Bool.and_eq_true, decide_eq_true_eq] at h; omega
  all_goals rw [h]; omega

set_option maxHeartbeats 1000000 in
theorem tokBack_long (l : List UInt8) (w : World) (hT : Tb w) (hm : l.length ≤ maxLen) (h : 600 < l.length) :
    Calls Tryd.prog 3 #[.string (str l)] w fun e w' => e = .returned (.bool true) ∧ Below w.heap.size w w' := by
  unfold maxLen at hm
  have d1 : decide ((600 : Int) < (l.length : Int)) = true := by simp; omega
  go_enter Tryd.func3, Tryd.ntmps3
  go_wp2_with fail
  refine (awake_any _ hT).mono ?_
  rintro e w1 ⟨rfl, hb1⟩
  go_wp2
  go_ret
  exact ⟨rfl, hb1⟩

set_option maxRecDepth 100000 in
set_option maxHeartbeats 4000000 in
theorem tokBack_any (l : List UInt8) (w : World) (hT : Tb w) (hm : l.length ≤ maxLen) :
    Calls Tryd.prog 3 #[.string (str l)] w fun e w' => e = .returned (.bool true) ∧ Below w.heap.size w w' := by
  by_cases hlong : 600 < l.length
  · exact tokBack_long l w hT hm hlong
  have d1 : decide ((600 : Int) < (l.length : Int)) = false := by simp; omega
  have hl : l.length ≤ 600 := by omega
  have hAll : ∀ w, Tb w → Calls Tryd.prog 9 #[.string (str l)] w fun e w' => RetTk w (all 0 l) e w' := fun w hT => All_any l w hT.tab hT.mks (by omega)
  have hk := all_k _ 0 l (Nat.le_refl _)
  have hsum := all_shS _ 0 l (Nat.le_refl _)
  have HA := Lib.hid hAll
  clear hAll hlong hm
  by_cases he : (all 0 l).e = 0
  · have hkk := hk.ok he
    have hgd := hk.gd
    have hcount := hk.count
    clear hk
    have hal : all 0 l = ⟨(all 0 l).l, (all 0 l).k, 0⟩ := by conv => lhs; rw [show all 0 l = ⟨(all 0 l).l, (all 0 l).k, (all 0 l).e⟩ from rfl]; rw [he]
    rw [hal] at HA
    generalize (all 0 l).l = L at *
    generalize (all 0 l).k = K at *
    clear hal he
    have htl := txL_len L
    have hTx : ∀ (A : Option Addr) (c : Nat) (w : World), Tb w → St w w.heap.size A L → Calls Tryd.prog 10 #[.slice A L.length c] w fun e w' => e = .returned (.string (str (txL L))) ∧ Below w.heap.size w w' := fun A c w hT hA => Text_any L A c w hT hA (fun t ht => gd_kd (hgd t ht).1) (fun t ht => gd_sw (hgd t ht).1 (by have := (hgd t ht).2; omega)) (by omega) (by omega)
    obtain ⟨M, hM, hkey⟩ := all_text L 0 fun t ht => (hgd t ht).1
    have hlen : M.length = L.length := by simpa using congrArg List.length hkey
    have hA2 : ∀ w, Tb w → Calls Tryd.prog 9 #[.string (str (txL L))] w fun e w' => RetTk w ⟨M, 0 + (txL L).length, 0⟩ e w' := fun w hT => by rw [← hM]; exact All_any _ w hT.tab hT.mks (by omega)
    rw [Nat.zero_add] at hA2
    have hk2 : ∀ t ∈ M, Gd t.kind t.n t.s ∧ t.s.length ≤ (txL L).length := by
      have := (all_k _ 0 (txL L) (Nat.le_refl _)).gd
      rw [hM] at this
      exact this
    have htx2 := tx_key hkey
    have hTy : ∀ (A : Option Addr) (c : Nat) (w : World), Tb w → St w w.heap.size A M → Calls Tryd.prog 10 #[.slice A M.length c] w fun e w' => e = .returned (.string (str (txL L))) ∧ Below w.heap.size w w' := fun A c w hT hA => by
      have := Text_any M A c w hT hA (fun t ht => gd_kd (hk2 t ht).1) (fun t ht => gd_sw (hk2 t ht).1 (by have := (hk2 t ht).2; omega)) (by omega) (by rw [htx2]; omega)
      rw [htx2] at this
      exact this
    have hAl : ∀ (A B : Option Addr) (c d : Nat) (w : World), St w w.heap.size A L → St w w.heap.size B M → Calls Tryd.prog 11 #[.slice A L.length c, .slice B M.length d] w fun e w' => e = .returned (.bool true) ∧ Below w.heap.size w w' := fun A B c d w hA hB => Alike_yes L M A B c d w hA hB hkey.symm (by omega)
    have htl2 : (txL L).length ≤ 7200 := by omega
    have HX := Lib.hid hTx
    have HY := Lib.hid hTy
    have HB := Lib.hid hA2
    have HL := Lib.hid hAl
    have hml : M.length ≤ 600 := by omega
    clear hTx hTy hA2 hAl hM hkey hk2 htx2 htl hsum hgd hlen hkk
    generalize txL L = tx at *
    go_enter Tryd.func3, Tryd.ntmps3
    go_wp2_with fail
    refine (awake_any _ hT).mono ?_
    rintro e w1 ⟨rfl, hb1⟩
    have hT1 := hT.below' hb1
    go_wp2_with fail
    refine (HA.out _ hT1).mono ?_
    rintro e w2 ⟨A, c, rfl, hc, hst, hb2⟩
    simp only at hst hc ⊢
    have hT2 := hT1.below' hb2
    have hb2' := hb1.trans (hb2.mono hb1.size)
    go_wp2_with fail
    refine (HX.out A c _ hT2 hst).mono ?_
    rintro e w3 ⟨rfl, hb3⟩
    have hT3 := hT2.below' hb3
    have hst3 := hst.over hb3
    have hb3' := hb2'.trans (hb3.mono hb2'.size)
    go_wp2_with fail
    refine (HB.out _ hT3).mono ?_
    rintro e w4 ⟨A2, c2, rfl, hc2, hst2, hb4⟩
    simp only at hst2 hc2 ⊢
    have hT4 := hT3.below' hb4
    have hst4 := hst3.over hb4
    have hb4' := hb3'.trans (hb4.mono hb3'.size)
    go_wp2_with fail
    refine (HL.out A A2 c c2 _ hst4 hst2).mono ?_
    rintro e w5 ⟨rfl, hb5⟩
    have hT5 := hT4.below' hb5
    have hst5 := hst2.over hb5
    have hb5' := hb4'.trans (hb5.mono hb4'.size)
    go_wp2_with fail
    refine (HY.out A2 c2 _ hT5 hst5).mono ?_
    rintro e w6 ⟨rfl, hb6⟩
    go_wp2
    go_ret
    exact ⟨by simp, hb5'.trans (hb6.mono hb5'.size)⟩
  · have hn := hk.none he
    have hal : all 0 l = ⟨[], (all 0 l).k, (all 0 l).e⟩ := by conv => lhs; rw [show all 0 l = ⟨(all 0 l).l, (all 0 l).k, (all 0 l).e⟩ from rfl]; rw [hn]
    rw [hal] at HA
    have te : ((all 0 l).e != 0) = true := by rw [bne_iff_ne]; exact he
    clear hal hk hsum he hn
    generalize (all 0 l).k = K at *
    generalize (all 0 l).e = E at *
    go_enter Tryd.func3, Tryd.ntmps3
    go_wp2_with fail
    refine (awake_any _ hT).mono ?_
    rintro e w1 ⟨rfl, hb1⟩
    have hT1 := hT.below' hb1
    go_wp2_with fail
    refine (HA.out _ hT1).mono ?_
    rintro e w2 ⟨A, c, rfl, hc, hst, hb2⟩
    go_wp2
    go_ret
    exact ⟨by simp, hb1.trans (hb2.mono hb1.size)⟩
end Go.Proofs.YtjlecollphgmcaaDoor
