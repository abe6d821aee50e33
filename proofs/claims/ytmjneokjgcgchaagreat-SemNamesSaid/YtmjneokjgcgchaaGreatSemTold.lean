/-
  Tables from, and as, the document's; its own 'the same', at tables that are; its own 'is one small'.
-/
import Derived.Test.YtmjneokjgcgchaaGreatSemTab
import Derived.Test.YtmjneokjgcgchaaGreatPart2
import Derived.Test.YtmjneokjgcgchaaGreatDestSame
namespace Go.Proofs.YtmjneokjgcgchaaGreat
open Go.RowKit

@[go_sem] theorem bldT1 (s : ByteArray) (wm : Int) (A0 A1 A2 A3 : Option Addr) (n0 n1 n2 n3 c0 c1 c2 c3 : Nat) (w : World) : (Instr.build 33 #[(0, .string s), (1, .int .i64 wm), (2, .slice A0 n0 c0), (3, .slice A1 n1 c1), (4, .slice A2 n2 c2), (5, .slice A3 n3 c3)]).run Tryz.prog w = .ok (.agg #[.string s, .int .i64 wm, .slice A0 n0 c0, .slice A1 n1 c1, .slice A2 n2 c2, .slice A3 n3 c3]) w := run_build w 33 _ _ (by kernel_rfl)
@[go_sem] theorem bldT2 (s : ByteArray) (wm : Int) (A0 A1 A2 A3 : Option Addr) (n0 n1 n2 n3 c0 c1 c2 c3 : Nat) (w : World) : (Instr.build 27 #[(0, .string s), (1, .int .i64 wm), (2, .slice A0 n0 c0), (3, .slice A1 n1 c1), (4, .slice A2 n2 c2), (5, .slice A3 n3 c3)]).run Tryz.prog w = .ok (.agg #[.string s, .int .i64 wm, .slice A0 n0 c0, .slice A1 n1 c1, .slice A2 n2 c2, .slice A3 n3 c3]) w := run_build w 27 _ _ (by kernel_rfl)
set_option maxRecDepth 100000 in
set_option maxHeartbeats 1000000 in
theorem table_any (t : Tb) (a : Ta) (w : World) : Calls Tryz.prog 15 #[tbv t a] w fun e w' => e = .returned (tbv t a) ∧ Below w.heap.size w w' := by
  have HB : Hid (∀ c1 c2 t1 t2, Below w.heap.size w ((w.alloc (.cells c1 t1)).alloc (.cells c2 t2))) := Lib.hid fun _ _ _ _ => ((Below.refl _ _).alloc (Nat.le_refl _) _).alloc (by simp) _
  unfold tbv
  go_enter Tryz.func15, Tryz.ntmps15
  go_wp2
  refine bodyPost_ret (v := _) (by simp [results, Tryz.results15, go_sem]; try rfl) rfl ⟨rfl, HB.out _ _ _ _⟩
set_option maxRecDepth 100000 in
set_option maxHeartbeats 1000000 in
theorem told_any (t : Tb) (a : Ta) (w : World) : Calls Tryz.prog 13 #[tbv t a] w fun e w' => e = .returned (tbv t a) ∧ Below w.heap.size w w' := by
  have HB : Hid (∀ c1 c2 t1 t2, Below w.heap.size w ((w.alloc (.cells c1 t1)).alloc (.cells c2 t2))) := Lib.hid fun _ _ _ _ => ((Below.refl _ _).alloc (Nat.le_refl _) _).alloc (by simp) _
  unfold tbv
  go_enter Tryz.func13, Tryz.ntmps13
  go_wp2
  refine bodyPost_ret (v := _) (by simp [results, Tryz.results13, go_sem]; try rfl) rfl ⟨rfl, HB.out _ _ _ _⟩
/-- Few enough for 'the same'. -/
def Tq9 (t : Tb) : Prop := t.sp.length ≤ 1048576 ∧ t.ci.length ≤ 1048576 ∧ t.no.length ≤ 1048576 ∧ t.bf.length ≤ 1048576 ∧ ∀ m ∈ t.bf, m.b.u.length ≤ 9223372036854775807
set_option maxRecDepth 100000 in
set_option maxHeartbeats 4000000 in
theorem rSame9_yes {w : World} {t u : Tb} {a b : Ta} (h : Tm w t a) (k : Tm w u b) (e : Tp t = Tp u) (hq : Tq9 t) :
    Calls Tryz.prog 12 #[tbv t a, tbv u b] w fun r w' => r = .returned (.bool true) ∧ Below w.heap.size w w' := by
  obtain ⟨nm, wm, sp, ci, no, bf⟩ := t
  obtain ⟨nm', wm', sp', ci', no', bf'⟩ := u
  simp only [Tp, Pg.mk.injEq] at e
  obtain ⟨rfl, rfl, rfl, rfl, rfl, eb⟩ := e
  obtain ⟨q0, q1, q2, q3, q4⟩ := hq
  simp only at q0 q1 q2 q3 q4
  have hb1 : Below w.heap.size w ((w.alloc (.cells #[.string (str nm), .int .i64 wm, .slice a.a0 sp.length a.c0, .slice a.a1 ci.length a.c1, .slice a.a2 no.length a.c2, .slice a.a3 bf.length a.c3] 27)).alloc (.cells #[.string (str nm), .int .i64 wm, .slice b.a0 sp.length b.c0, .slice b.a1 ci.length b.c1, .slice b.a2 no.length b.c2, .slice b.a3 bf'.length b.c3] 27)) := ((Below.refl _ _).alloc (Nat.le_refl _) _).alloc (by simp) _
  have x1 : ((w.alloc (.cells #[.string (str nm), .int .i64 wm, .slice a.a0 sp.length a.c0, .slice a.a1 ci.length a.c1, .slice a.a2 no.length a.c2, .slice a.a3 bf.length a.c3] 27)).alloc (.cells #[.string (str nm), .int .i64 wm, .slice b.a0 sp.length b.c0, .slice b.a1 ci.length b.c1, .slice b.a2 no.length b.c2, .slice b.a3 bf'.length b.c3] 27)).heap[w.heap.size]? = some (.cells #[.string (str nm), .int .i64 wm, .slice a.a0 sp.length a.c0, .slice a.a1 ci.length a.c1, .slice a.a2 no.length a.c2, .slice a.a3 bf.length a.c3] 27 (0, 0)) := (Below.heap_alloc _ _ _ (by simp)).trans (heap_alloc_new w _)
  have x2 : ((w.alloc (.cells #[.string (str nm), .int .i64 wm, .slice a.a0 sp.length a.c0, .slice a.a1 ci.length a.c1, .slice a.a2 no.length a.c2, .slice a.a3 bf.length a.c3] 27)).alloc (.cells #[.string (str nm), .int .i64 wm, .slice b.a0 sp.length b.c0, .slice b.a1 ci.length b.c1, .slice b.a2 no.length b.c2, .slice b.a3 bf'.length b.c3] 27)).heap[w.heap.size + 1]? = some (.cells #[.string (str nm), .int .i64 wm, .slice b.a0 sp.length b.c0, .slice b.a1 ci.length b.c1, .slice b.a2 no.length b.c2, .slice b.a3 bf'.length b.c3] 27 (0, 0)) := by
    have := heap_alloc_new (w.alloc (.cells #[.string (str nm), .int .i64 wm, .slice a.a0 sp.length a.c0, .slice a.a1 ci.length a.c1, .slice a.a2 no.length a.c2, .slice a.a3 bf.length a.c3] 27)) (.cells #[.string (str nm), .int .i64 wm, .slice b.a0 sp.length b.c0, .slice b.a1 ci.length b.c1, .slice b.a2 no.length b.c2, .slice b.a3 bf'.length b.c3] 27)
    rwa [show (w.alloc (.cells #[.string (str nm), .int .i64 wm, .slice a.a0 sp.length a.c0, .slice a.a1 ci.length a.c1, .slice a.a2 no.length a.c2, .slice a.a3 bf.length a.c3] 27)).heap.size = w.heap.size + 1 by simp] at this
  have HX : Hid (∀ W, Below w.heap.size w W → ((w.alloc (.cells #[.string (str nm), .int .i64 wm, .slice a.a0 sp.length a.c0, .slice a.a1 ci.length a.c1, .slice a.a2 no.length a.c2, .slice a.a3 bf.length a.c3] 27)).alloc (.cells #[.string (str nm), .int .i64 wm, .slice b.a0 sp.length b.c0, .slice b.a1 ci.length b.c1, .slice b.a2 no.length b.c2, .slice b.a3 bf'.length b.c3] 27)).heap.size ≤ W.heap.size → True) := Lib.hid fun _ _ _ => trivial
  have HC : Hid (∀ W, Below ((w.alloc (.cells #[.string (str nm), .int .i64 wm, .slice a.a0 sp.length a.c0, .slice a.a1 ci.length a.c1, .slice a.a2 no.length a.c2, .slice a.a3 bf.length a.c3] 27)).alloc (.cells #[.string (str nm), .int .i64 wm, .slice b.a0 sp.length b.c0, .slice b.a1 ci.length b.c1, .slice b.a2 no.length b.c2, .slice b.a3 bf'.length b.c3] 27)).heap.size ((w.alloc (.cells #[.string (str nm), .int .i64 wm, .slice a.a0 sp.length a.c0, .slice a.a1 ci.length a.c1, .slice a.a2 no.length a.c2, .slice a.a3 bf.length a.c3] 27)).alloc (.cells #[.string (str nm), .int .i64 wm, .slice b.a0 sp.length b.c0, .slice b.a1 ci.length b.c1, .slice b.a2 no.length b.c2, .slice b.a3 bf'.length b.c3] 27)) W → (W.cell? ⟨w.heap.size, 0, none⟩ = some (.string (str nm)) ∧ W.cell? ⟨w.heap.size, 1, none⟩ = some (.int .i64 wm) ∧ W.cell? ⟨w.heap.size, 2, none⟩ = some (.slice a.a0 sp.length a.c0) ∧ W.cell? ⟨w.heap.size, 3, none⟩ = some (.slice a.a1 ci.length a.c1) ∧ W.cell? ⟨w.heap.size, 4, none⟩ = some (.slice a.a2 no.length a.c2) ∧ W.cell? ⟨w.heap.size, 5, none⟩ = some (.slice a.a3 bf.length a.c3)) ∧ (W.cell? ⟨w.heap.size + 1, 0, none⟩ = some (.string (str nm)) ∧ W.cell? ⟨w.heap.size + 1, 1, none⟩ = some (.int .i64 wm) ∧ W.cell? ⟨w.heap.size + 1, 2, none⟩ = some (.slice b.a0 sp.length b.c0) ∧ W.cell? ⟨w.heap.size + 1, 3, none⟩ = some (.slice b.a1 ci.length b.c1) ∧ W.cell? ⟨w.heap.size + 1, 4, none⟩ = some (.slice b.a2 no.length b.c2) ∧ W.cell? ⟨w.heap.size + 1, 5, none⟩ = some (.slice b.a3 bf'.length b.c3)) ∧ Below w.heap.size w W) := Lib.hid fun W hW => ⟨cells6 ((hW.block _ (by simp; omega)).trans x1), cells6 ((hW.block _ (by simp)).trans x2), hb1.trans (hW.mono (by simp; omega))⟩
  have K0 := Lib.hid (fun W (hW : Below w.heap.size w W) => rSame_yes (A1 := a.a0) (A2 := b.a0) (c1 := a.c0) (c2 := b.c0) (h.over hW).sp (k.over hW).sp q0)
  have K1 := Lib.hid (fun W (hW : Below w.heap.size w W) => rSSame_yes (A1 := a.a1) (A2 := b.a1) (c1 := a.c1) (c2 := b.c1) (h.over hW).ci (k.over hW).ci q1)
  have K2 := Lib.hid (fun W (hW : Below w.heap.size w W) => rSSame_yes (A1 := a.a2) (A2 := b.a2) (c1 := a.c2) (c2 := b.c2) (h.over hW).no (k.over hW).no q2)
  have K3 := Lib.hid (fun W (hW : Below w.heap.size w W) => dSame_big (A1 := a.a3) (A2 := b.a3) (c1 := a.c3) (c2 := b.c3) (h.over hW).bf (k.over hW).bf eb q3 q4)
  clear hb1 x1 x2 HX h k eb q0 q1 q2 q3 q4
  unfold tbv
  try dsimp only at K0 K1 K2 K3 ⊢
  generalize str nm = snm at *
  generalize sp.length = n0 at *
  generalize ci.length = n1 at *
  generalize no.length = n2 at *
  generalize bf.length = n3 at *
  generalize bf'.length = n4 at *
  go_enter Tryz.func12, Tryz.ntmps12
  obtain ⟨⟨y0, y1, y2, y3, y4, y5⟩, ⟨x0, x1, x2, x3, x4, x5⟩, hbw⟩ := HC.out _ (Below.refl _ _)
  have HB1 := Lib.hid hbw
  clear hbw
  go_wp2_with fail
  refine (K0.out _ HB1.out).mono ?_
  rintro e w1 ⟨rfl, hb1⟩
  have HC1 := Lib.hid hb1
  clear y0 y1 y2 y3 y4 y5 x0 x1 x2 x3 x4 x5 hb1
  obtain ⟨⟨y0, y1, y2, y3, y4, y5⟩, ⟨x0, x1, x2, x3, x4, x5⟩, hbw⟩ := HC.out _ HC1.out
  have HB2 := Lib.hid hbw
  clear hbw
  go_wp2_with fail
  refine (K1.out _ HB2.out).mono ?_
  rintro e w2 ⟨rfl, hb2⟩
  have HC2 := Lib.hid (HC1.out.trans (hb2.mono HC1.out.size))
  clear y0 y1 y2 y3 y4 y5 x0 x1 x2 x3 x4 x5 hb2
  obtain ⟨⟨y0, y1, y2, y3, y4, y5⟩, ⟨x0, x1, x2, x3, x4, x5⟩, hbw⟩ := HC.out _ HC2.out
  have HB3 := Lib.hid hbw
  clear hbw
  go_wp2_with fail
  refine (K2.out _ HB3.out).mono ?_
  rintro e w3 ⟨rfl, hb3⟩
  have HC3 := Lib.hid (HC2.out.trans (hb3.mono HC2.out.size))
  clear y0 y1 y2 y3 y4 y5 x0 x1 x2 x3 x4 x5 hb3
  obtain ⟨⟨y0, y1, y2, y3, y4, y5⟩, ⟨x0, x1, x2, x3, x4, x5⟩, hbw⟩ := HC.out _ HC3.out
  have HB4 := Lib.hid hbw
  clear hbw
  go_wp2_with fail
  refine (K3.out _ HB4.out).mono ?_
  rintro e w4 ⟨rfl, hb4⟩
  have HC4 := Lib.hid (HC3.out.trans (hb4.mono HC3.out.size))
  clear y0 y1 y2 y3 y4 y5 x0 x1 x2 x3 x4 x5 hb4
  obtain ⟨⟨y0, y1, y2, y3, y4, y5⟩, ⟨x0, x1, x2, x3, x4, x5⟩, hbw⟩ := HC.out _ HC4.out
  have HB5 := Lib.hid hbw
  clear hbw
  go_wp2
  go_ret
  exact ⟨rfl, HB5.out⟩
/-- What a small table holds at most. -/
def few9 (t : Tb) : Prop := t.nm.length ≤ 200 ∧ t.sp.length ≤ 60 ∧ t.ci.length ≤ 60 ∧ t.no.length ≤ 60 ∧ fewB (pl t.bf)
set_option maxRecDepth 100000 in
set_option maxHeartbeats 4000000 in
theorem rFew9_any {w : World} {t : Tb} {a : Ta} (h : Tm w t a) (hl : Tl t) :
    Calls Tryz.prog 11 #[tbv t a] w fun r w' => ∃ b, r = .returned (.bool b) ∧ (b = true → few9 t) ∧ Below w.heap.size w w' := by
  have hb1 : Below w.heap.size w (w.alloc (.cells #[.string (str t.nm), .int .i64 t.wm, .slice a.a0 t.sp.length a.c0, .slice a.a1 t.ci.length a.c1, .slice a.a2 t.no.length a.c2, .slice a.a3 t.bf.length a.c3] 27)) := (Below.refl _ _).alloc (Nat.le_refl _) _
  have K := Lib.hid (Few_any a.a3 a.c3 t.bf (w.alloc (.cells #[.string (str t.nm), .int .i64 t.wm, .slice a.a0 t.sp.length a.c0, .slice a.a1 t.ci.length a.c1, .slice a.a2 t.no.length a.c2, .slice a.a3 t.bf.length a.c3] 27)) (h.over hb1).bf (by have := hl.bf; unfold maxLen at this; omega) (fun m hm => by have := hl.un m hm; unfold maxLen at this; omega))
  have HB := Lib.hid hb1
  have HF : Hid (∀ b : Bool, b = true → b = true) := Lib.hid fun _ h => h
  have h0 := hl.nm
  have h1 := hl.sp
  have h2 := hl.ci
  have h3 := hl.no
  unfold maxLen at h0 h1 h2 h3
  have HD : Hid (t.nm.length ≤ 200 → t.sp.length ≤ 60 → t.ci.length ≤ 60 → t.no.length ≤ 60 → fewB (pl t.bf) → few9 t) := Lib.hid fun a b c d e => ⟨a, b, c, d, e⟩
  clear h hl hb1
  unfold tbv
  rw [← str_size t.nm] at h0 HD
  generalize str t.nm = snm at *
  generalize t.sp.length = n0 at *
  generalize t.ci.length = n1 at *
  generalize t.no.length = n2 at *
  generalize t.bf.length = n3 at *
  by_cases g0 : snm.size ≤ 200
  · have b0 : decide ((snm.size : Int) ≤ 200) = true := by simp; omega
    by_cases g1 : n0 ≤ 60
    · have b1 : decide ((n0 : Int) ≤ 60) = true := by simp; omega
      by_cases g2 : n1 ≤ 60
      · have b2 : decide ((n1 : Int) ≤ 60) = true := by simp; omega
        by_cases g3 : n2 ≤ 60
        · have b3 : decide ((n2 : Int) ≤ 60) = true := by simp; omega
          go_enter Tryz.func11, Tryz.ntmps11
          go_wp2_with fail
          refine K.out.mono ?_
          rintro e w2 ⟨rfl, hb2⟩
          go_wp2
          go_ret
          exact ⟨_, rfl, fun e => HD.out (by omega) (by omega) (by omega) (by omega) (by simpa using e), HB.out.trans (hb2.mono HB.out.size)⟩
        · have b3 : decide ((n2 : Int) ≤ 60) = false := by simp; omega
          go_enter Tryz.func11, Tryz.ntmps11
          go_wp2
          go_ret
          exact ⟨_, rfl, (fun e => by cases e), HB.out⟩
      · have b2 : decide ((n1 : Int) ≤ 60) = false := by simp; omega
        go_enter Tryz.func11, Tryz.ntmps11
        go_wp2
        go_ret
        exact ⟨_, rfl, (fun e => by cases e), HB.out⟩
    · have b1 : decide ((n0 : Int) ≤ 60) = false := by simp; omega
      go_enter Tryz.func11, Tryz.ntmps11
      go_wp2
      go_ret
      exact ⟨_, rfl, (fun e => by cases e), HB.out⟩
  · have b0 : decide ((snm.size : Int) ≤ 200) = false := by simp; omega
    go_enter Tryz.func11, Tryz.ntmps11
    go_wp2
    go_ret
    exact ⟨_, rfl, (fun e => by cases e), HB.out⟩
end Go.Proofs.YtmjneokjgcgchaaGreat
