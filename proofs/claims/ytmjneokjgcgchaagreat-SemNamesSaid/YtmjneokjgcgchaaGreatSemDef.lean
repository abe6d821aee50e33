/-
  What a definition does to a table; the closure of definitions; those that do nothing; which mode may be.
-/
import Derived.Test.YtmjneokjgcgchaaGreatSemJn
namespace Go.Proofs.YtmjneokjgcgchaaGreat
open Go.RowKit

theorem str_eq_iff (a b : List UInt8) : str a = str b ↔ a = b := ⟨fun h => by
  have := congrArg (fun s : ByteArray => s.data.toList) h
  simpa [str_data] using this, fun h => by rw [h]⟩
set_option maxRecDepth 100000 in
theorem saneMode_any (n : Int) (w : World) : Calls Tryz.prog 44 #[.int .i64 n] w fun e w' => e = .returned (.bool (decide (n = 0 ∨ n = 1))) ∧ w' = w := by
  by_cases h0 : n = 0
  · subst h0
    go_enter Tryz.func44, Tryz.ntmps44
    go_wp2
    go_ret
    exact ⟨rfl, rfl⟩
  · by_cases h1 : n = 1
    · subst h1
      go_enter Tryz.func44, Tryz.ntmps44
      go_wp2
      go_ret
      exact ⟨rfl, rfl⟩
    · have hd : decide (n = 0 ∨ n = 1) = false := by simp [h0, h1]
      rw [hd]
      have b0 : (n == 0) = false := by simpa using h0
      have b1 : (n == 1) = false := by simpa using h1
      clear hd h0 h1
      go_enter Tryz.func44, Tryz.ntmps44
      go_wp2
      go_ret
      exact ⟨rfl, rfl⟩
/-- What a definition says. -/
def defI (p : Pg) (nm : List UInt8) (v : Tk) : Pg := { p with nm := if nm = cmN ∧ v.kind = 2 then v.s else p.nm, wm := if nm = wmN ∧ v.kind = 1 ∧ (v.n = 0 ∨ v.n = 1) then v.n else p.wm }
theorem cmw : cmN ≠ wmN := by decide
/-- As Lsd, and the four lists are as they were, at their places. -/
def Lsd1 (w0 w : World) (T : Nat) (t : Tb) (a : Ta) (o : To) (G : Pg) (e : Ending) (w' : World) : Prop := e = .returned (.tuple #[]) ∧ ∃ t', Tp t' = G ∧ (t'.sp = t.sp ∧ t'.ci = t.ci ∧ t'.no = t.no ∧ t'.bf = t.bf) ∧ St w0 w' T t' a o ∧ Fr w w' T o
theorem Lsd1.lsd {w0 w w' : World} {T : Nat} {t : Tb} {a : Ta} {o : To} {G : Pg} {e : Ending} (h : Lsd1 w0 w T t a o G e w') : Lsd w0 w T o G e w' := by
  obtain ⟨h1, t', h2, _, h3, h4⟩ := h
  exact ⟨h1, t', a, o, h2, h3, h4⟩
set_option maxRecDepth 100000 in
set_option maxHeartbeats 4000000 in
theorem define_same {w0 w : World} {T : Nat} {t : Tb} {a : Ta} {o : To} (h : St w0 w T t a o) (nm : List UInt8) (v : Tk) :
    Calls Tryz.prog 68 #[.pointer (some ⟨T, 0, none⟩), .string (str nm), .agg #[.int .i64 v.kind, .int .i64 v.at_, .int .i64 v.n, .string (str v.s)]] w (Lsd1 w0 w T t a o (defI (Tp t) nm v)) := by
  have hb1 : Below w.heap.size w (w.alloc (.cells #[.int .i64 v.kind, .int .i64 v.at_, .int .i64 v.n, .string (str v.s)] 37)) := (Below.refl _ _).alloc (Nat.le_refl _) _
  have h1 := h.below hb1
  have HN := Lib.hid (h.setnm hb1 v.s)
  have HW := Lib.hid (h.setwm hb1 v.n)
  have HS := Lib.hid (And.intro h1 (show Fr w (w.alloc (.cells #[.int .i64 v.kind, .int .i64 v.at_, .int .i64 v.n, .string (str v.s)] 37)) T o from fun k hk _ _ _ _ _ => hb1.block k hk))
  have HM := Lib.hid (fun n W => saneMode_any n W)
  obtain ⟨c0, c1, _⟩ := h1.tb.cells
  have f0 := h1.tb.frozen 0
  have f1 := h1.tb.frozen 1
  clear h h1 hb1
  obtain ⟨kd, at_, n, s⟩ := v
  simp only at *
  have ce : cmN = [67, 77, 97, 112, 78, 97, 109, 101] := rfl
  have we : wmN = [87, 77, 111, 100, 101] := rfl
  have HCE := Lib.hid (And.intro ce we)
  clear ce we
  by_cases hc : nm = cmN
  · subst hc
    have hg : ∀ x : Tk, defI (Tp t) cmN x = { Tp t with nm := if x.kind = 2 then x.s else t.nm } := fun x => by
      unfold defI
      rw [if_neg (fun k : _ ∧ _ => cmw k.1)]
      simp only [true_and]
      rfl
    rw [hg]
    have HG := Lib.hid hg
    clear hg
    by_cases hk : kd = 2
    · subst hk
      rw [if_pos rfl]
      rw [HCE.out.1]
      go_enter Tryz.func68, Tryz.ntmps68
      go_wp2
      go_end0
      exact ⟨rfl, { t with nm := s }, rfl, ⟨rfl, rfl, rfl, rfl⟩, HN.out⟩
    · rw [if_neg hk]
      rw [HCE.out.1]
      have bk : (kd == 2) = false := by simpa using hk
      clear hk
      go_enter Tryz.func68, Tryz.ntmps68
      go_wp2
      go_end0
      exact ⟨rfl, _, rfl, ⟨rfl, rfl, rfl, rfl⟩, HS.out⟩
  · by_cases hw : nm = wmN
    · subst hw
      have hg : ∀ x : Tk, defI (Tp t) wmN x = { Tp t with wm := if x.kind = 1 ∧ (x.n = 0 ∨ x.n = 1) then x.n else t.wm } := fun x => by
        unfold defI
        rw [if_neg (fun k : _ ∧ _ => cmw k.1.symm)]
        simp only [true_and]
        rfl
      rw [hg]
      clear hg hc
      rw [HCE.out.2]
      by_cases hk : kd = 1
      · subst hk
        by_cases hn : n = 0 ∨ n = 1
        · rw [if_pos ⟨rfl, hn⟩]
          have K := HM.out n
          rw [decide_eq_true hn] at K
          have HK := Lib.hid K
          clear hn K
          go_enter Tryz.func68, Tryz.ntmps68
          go_wp2_with (go_at_call 44; (with_reducible refine (HK.out _).mono ?_); rintro e w2 ⟨rfl, rfl⟩)
          go_end0
          exact ⟨rfl, { t with wm := n }, rfl, ⟨rfl, rfl, rfl, rfl⟩, HW.out⟩
        · rw [if_neg (fun k : _ ∧ _ => hn k.2)]
          have K := HM.out n
          rw [decide_eq_false hn] at K
          have HK := Lib.hid K
          clear hn K
          go_enter Tryz.func68, Tryz.ntmps68
          go_wp2_with (go_at_call 44; (with_reducible refine (HK.out _).mono ?_); rintro e w2 ⟨rfl, rfl⟩)
          go_end0
          exact ⟨rfl, _, rfl, ⟨rfl, rfl, rfl, rfl⟩, HS.out⟩
      · rw [if_neg (fun k : _ ∧ _ => hk k.1)]
        have bk : (kd == 1) = false := by simpa using hk
        clear hk
        go_enter Tryz.func68, Tryz.ntmps68
        go_wp2
        go_end0
        exact ⟨rfl, _, rfl, ⟨rfl, rfl, rfl, rfl⟩, HS.out⟩
    · have hg : ∀ x : Tk, defI (Tp t) nm x = Tp t := fun x => by
        unfold defI
        rw [if_neg (fun k : _ ∧ _ => hc k.1), if_neg (fun k : _ ∧ _ => hw k.1)]
      rw [hg]
      rw [HCE.out.1] at hc
      rw [HCE.out.2] at hw
      have b0 : (nm == [67, 77, 97, 112, 78, 97, 109, 101]) = false := by simpa using hc
      have b1 : (nm == [87, 77, 111, 100, 101]) = false := by simpa using hw
      clear hg
      go_enter Tryz.func68, Tryz.ntmps68
      go_wp2
      go_end0
      exact ⟨rfl, _, rfl, ⟨rfl, rfl, rfl, rfl⟩, HS.out⟩
theorem define_any {w0 w : World} {T : Nat} {t : Tb} {a : Ta} {o : To} (h : St w0 w T t a o) (nm : List UInt8) (v : Tk) :
    Calls Tryz.prog 68 #[.pointer (some ⟨T, 0, none⟩), .string (str nm), .agg #[.int .i64 v.kind, .int .i64 v.at_, .int .i64 v.n, .string (str v.s)]] w (Lsd w0 w T o (defI (Tp t) nm v)) :=
  (define_same h nm v).mono fun _ _ q => q.lsd
end Go.Proofs.YtmjneokjgcgchaaGreat
