/-
  tok.Show: a token, written.
-/
import Derived.Test.YtjlecollphgmcaaDoorTokVal
import Derived.Test.YtjlecollphgmcaaDoorTokMark
import Derived.Test.YtjlecollphgmcaaDoorTokShowS
import Derived.Test.YtjlecollphgmcaaDoorShelfItoa
import Derived.Lib.SmallJoins
namespace Go.Proofs.YtjlecollphgmcaaDoor
open Go.RowKit Go.Joins

/-- The world holds the tables: of blanks and digits, of marks, of powers of ten. -/
structure Tb (w : World) : Prop where
  tab : Tab w
  mks : Mks w
  pow : Lib.TabIs Tryd.prog w "internal/strconv.uint64pow10" .u64 Lib.pow10Tab
theorem gPow : Tryd.prog.globalNamed "internal/strconv.uint64pow10" = some 3 := by kernel_rfl
theorem Tb.below' {w w' : World} (h : Tb w) (hb : Below w.heap.size w w') : Tb w' := ⟨h.tab.below' hb, h.mks.below' hb, tab_stays gPow h.pow hb (Nat.le_refl _)⟩

/-- A token that may be shown: its text is short, and its number is one of 64 bits. -/
def Sw (t : Tk) : Prop := t.s.length ≤ 65536 ∧ -9223372036854775808 ≤ t.n ∧ t.n ≤ 9223372036854775807
theorem sh_1 {t : Tk} (h : t.kind = 1) : sh t = Lib.itoa t.n := by unfold sh; rw [if_pos h]
theorem sh_2 {t : Tk} (h : t.kind = 2) : sh t = 47 :: wrL t.s := by unfold sh; rw [if_neg (by omega), if_pos h]
theorem sh_3 {t : Tk} (h : t.kind = 3) : sh t = t.s := by unfold sh; rw [if_neg (by omega), if_neg (by omega), if_pos h]
theorem sh_4 {t : Tk} (h : t.kind = 4) : sh t = 60 :: (hexL t.s ++ [62]) := by unfold sh; rw [if_neg (by omega), if_neg (by omega), if_neg (by omega), if_pos h]
theorem sh_5 {t : Tk} (h : t.kind = 5) : sh t = 40 :: (qL t.s ++ [41]) := by unfold sh; rw [if_neg (by omega), if_neg (by omega), if_neg (by omega), if_neg (by omega), if_pos h]
theorem sh_m {t : Tk} {m : Nat} (h : t.kind = m) (hm : 6 ≤ m) : sh t = mkL m := by
  unfold sh; rw [if_neg (by omega), if_neg (by omega), if_neg (by omega), if_neg (by omega), if_neg (by omega), h]; rfl
/-- A token's kind. -/
def Kd (t : Tk) : Prop := t.kind = 1 ∨ t.kind = 2 ∨ t.kind = 3 ∨ t.kind = 4 ∨ t.kind = 5 ∨ ∃ m : Nat, (6 ≤ m ∧ m ≤ 11) ∧ t.kind = m

set_option maxRecDepth 100000 in
set_option maxHeartbeats 4000000 in
theorem Show_any (t : Tk) (w : World) (hT : Tb w) (hk : Kd t) (hs : Sw t) :
    Calls Tryd.prog 14 #[tv t] w fun e w' => e = .returned (.string (str (sh t))) ∧ Below w.heap.size w w' := by
  obtain ⟨hs1, hn0, hn1⟩ := hs
  obtain ⟨kind, at_, n, s⟩ := t
  simp only at hs1 hn0 hn1
  have hb0 : Below w.heap.size w (w.alloc (.cells #[.int .i64 kind, .int .i64 at_, .int .i64 n, .string (str s)] 31)) := (Below.refl _ _).alloc (Nat.le_refl _) _
  have hTa := hT.below' hb0
  unfold tv
  simp only
  rcases hk with h | h | h | h | h | ⟨m, hm, h⟩
  · rw [sh_1 h]
    simp only at h ⊢
    subst h
    have hI : ∀ w, Tb w → Calls Tryd.prog 24 #[.int .i64 n] w fun e w' => e = .returned (.string (str (Lib.itoa n))) ∧ Below w.heap.size w w' := fun w hT => Itoa_any n hn0 hn1 w hT.pow
    have HI := Lib.hid hI
    clear hI
    go_enter Tryd.func14, Tryd.ntmps14
    go_wp2_with (go_at_call 24; refine (HI.out _ hTa).mono ?_; rintro e w2 ⟨rfl, hb2⟩)
    go_ret
    exact ⟨rfl, hb0.trans (hb2.mono hb0.size)⟩
  · rw [sh_2 h]
    simp only at h ⊢
    subst h
    have hI : ∀ w, Tb w → Calls Tryd.prog 25 #[.string (str s)] w fun e w' => e = .returned (.string (str (wrL s))) ∧ Below w.heap.size w w' := fun w hT => Write_any s w hT.tab hs1
    have HI := Lib.hid hI
    have hap : ByteArray.mk #[47] ++ str (wrL s) = str (47 :: wrL s) := str_append [47] (wrL s)
    have hwl := wrL_length s
    clear hI
    generalize 47 :: wrL s = q at *
    generalize wrL s = q0 at *
    go_enter Tryd.func14, Tryd.ntmps14
    go_wp2_with (go_at_call 25; refine (HI.out _ hTa).mono ?_; rintro e w2 ⟨rfl, hb2⟩)
    go_ret
    exact ⟨rfl, hb0.trans (hb2.mono hb0.size)⟩
  · rw [sh_3 h]
    simp only at h ⊢
    subst h
    go_enter Tryd.func14, Tryd.ntmps14
    go_wp2
    go_ret
    exact ⟨rfl, hb0⟩
  · rw [sh_4 h]
    simp only at h ⊢
    subst h
    obtain ⟨cap, w2, hcv, hcell, _, hb2, hsz2, hcap⟩ := run_bytes (P := Tryd.prog) (w.alloc (.cells #[.int .i64 4, .int .i64 at_, .int .i64 n, .string (str s)] 31)) 9 35 5 s Tryd.underlying9 Tryd.underlying35 Tryd.underlying5
    have hsl : Sl w2 w2.heap.size (some ⟨(w.alloc (.cells #[.int .i64 4, .int .i64 at_, .int .i64 n, .string (str s)] 31)).heap.size, 0, none⟩) s := fun _ => ⟨_, 0, rfl, hsz2, fun j hj => by rw [Nat.zero_add]; exact hcell j hj⟩
    have hI := Hex_any _ cap s w2 hsl (by omega)
    have hbw := hb0.trans (hb2.mono hb0.size)
    have hSs : (w.alloc (.cells #[.int .i64 4, .int .i64 at_, .int .i64 n, .string (str s)] 31)).heap.size = w.heap.size + 1 := by simp
    rw [hSs] at hcv hI
    have HI := Lib.hid hI
    have hap : ByteArray.mk #[60] ++ str (hexL s) = str (60 :: hexL s) := str_append [60] (hexL s)
    have hap2 : str (60 :: hexL s) ++ ByteArray.mk #[62] = str (60 :: (hexL s ++ [62])) := str_append (60 :: hexL s) [62]
    have hhl := hexL_length s
    have hq1l : (60 :: hexL s).length = 2 * s.length + 1 := by simp [hhl]
    clear hI hcell hsl hb2 hSs
    generalize 60 :: (hexL s ++ [62]) = q2 at *
    generalize 60 :: hexL s = q1 at *
    have hhl2 : (hexL s).length ≤ 131072 := by omega
    clear hhl
    generalize hexL s = q0 at *
    go_enter Tryd.func14, Tryd.ntmps14
    go_wp2_with (go_at_call 26; refine HI.out.mono ?_; rintro e w3 ⟨rfl, hb3⟩)
    go_ret
    exact ⟨rfl, hbw.trans (hb3.mono hbw.size)⟩
  · rw [sh_5 h]
    simp only at h ⊢
    subst h
    have hI : ∀ w, Calls Tryd.prog 27 #[.string (str s)] w fun e w' => e = .returned (.string (str (40 :: (qL s ++ [41])))) ∧ Below w.heap.size w w' := fun w => showStr_any s w hs1
    have HI := Lib.hid hI
    clear hI
    generalize 40 :: (qL s ++ [41]) = q at *
    go_enter Tryd.func14, Tryd.ntmps14
    go_wp2_with (go_at_call 27; refine (HI.out _).mono ?_; rintro e w2 ⟨rfl, hb2⟩)
    go_ret
    exact ⟨rfl, hb0.trans (hb2.mono hb0.size)⟩
  · rw [sh_m h hm.1]
    simp only at h ⊢
    have hcell := hTa.mks m (by omega)
    have hcell0 := hT.mks m (by omega)
    have hpos := hT.mks.pos
    generalize hq : mkL m = q at *
    rcases (show m = 6 ∨ m = 7 ∨ m = 8 ∨ m = 9 ∨ m = 10 ∨ m = 11 by omega) with rfl | rfl | rfl | rfl | rfl | rfl
    all_goals
      subst h
      clear hm hq
      go_enter Tryd.func14, Tryd.ntmps14
      go_wp2
      go_ret
      exact ⟨rfl, hb0⟩
end Go.Proofs.YtjlecollphgmcaaDoor
