/-
  The document's own parser: bfRange.
-/
import Derived.Test.YthcnjiigkmljnaaGreatDoorSynRef8
import Derived.Test.YthcnjiigkmljnaaGreatDoorSynEnt1
namespace Go.Proofs.YthcnjiigkmljnaaGreatDoor
open Go.RowKit

/-- What a method of the document's own parser that takes an entry leaves. -/
def Pe (w : World) (P : Nat) (A : Option Addr) (c : Nat) (L : List Tk) (en : Int) (kind : Int) (i : Nat) (a e : Int) (r : Ending) (w' : World) : Prop :=
  ∃ (p : En × Value × Value) (i' : Nat) (a' e' : Int), r = .returned (entV p) ∧ Eo w' (fun b => b < w.heap.size) p ∧ Ps w' P A c L i' en a' e' ∧ i' ≤ L.length ∧ Fr w w' P ∧ Oc (entT L en kind i) (fun _ => True) i a e p.1 i' a' e'
@[go_sem] theorem bldR2 (ln lv hn hv : Int) (w : World) : (Instr.build 75 #[(0, .agg #[.int .i64 ln, .int .i64 lv]), (1, .agg #[.int .i64 hn, .int .i64 hv])]).run Tryz.prog w = .ok (.agg #[.int .i64 ln, .int .i64 lv, .int .i64 hn, .int .i64 hv, .int .i64 0, .slice none 0 0, .slice none 0 0]) w := run_build w 75 _ _ (by kernel_rfl)
@[go_sem] theorem bldR3 (ln lv hn hv t : Int) (w : World) : (Instr.build 75 #[(0, .agg #[.int .i64 ln, .int .i64 lv]), (1, .agg #[.int .i64 hn, .int .i64 hv]), (2, .int .i64 t)]).run Tryz.prog w = .ok (.agg #[.int .i64 ln, .int .i64 lv, .int .i64 hn, .int .i64 hv, .int .i64 t, .slice none 0 0, .slice none 0 0]) w := run_build w 75 _ _ (by kernel_rfl)
@[go_sem] theorem bldR4 (ln lv hn hv : Int) (A : Option Addr) (n c : Nat) (w : World) : (Instr.build 75 #[(0, .agg #[.int .i64 ln, .int .i64 lv]), (1, .agg #[.int .i64 hn, .int .i64 hv]), (3, .slice A n c)]).run Tryz.prog w = .ok (.agg #[.int .i64 ln, .int .i64 lv, .int .i64 hn, .int .i64 hv, .int .i64 0, .slice A n c, .slice none 0 0]) w := run_build w 75 _ _ (by kernel_rfl)
/-- A block of seven cells: an entry. -/
structure Eb (w : World) (S : Nat) (x0 x1 x2 x3 x4 x5 x6 : Value) : Prop where
  c0 : w.cell? ⟨S, 0, none⟩ = some x0
  c1 : w.cell? ⟨S, 1, none⟩ = some x1
  c2 : w.cell? ⟨S, 2, none⟩ = some x2
  c3 : w.cell? ⟨S, 3, none⟩ = some x3
  c4 : w.cell? ⟨S, 4, none⟩ = some x4
  c5 : w.cell? ⟨S, 5, none⟩ = some x5
  c6 : w.cell? ⟨S, 6, none⟩ = some x6
  z : ∀ j : Nat, j < 7 → w.frozen? ⟨S, j, none⟩ = false
  lt : S < w.heap.size
section
variable {w w' : World} {S P : Nat} {x0 x1 x2 x3 x4 x5 x6 : Value}
theorem Eb.keep (h : Eb w S x0 x1 x2 x3 x4 x5 x6) (hk : ∀ j, w'.cell? ⟨S, j, none⟩ = w.cell? ⟨S, j, none⟩ ∧ w'.frozen? ⟨S, j, none⟩ = w.frozen? ⟨S, j, none⟩) (hs : w.heap.size ≤ w'.heap.size) : Eb w' S x0 x1 x2 x3 x4 x5 x6 :=
  ⟨(hk 0).1.trans h.c0, (hk 1).1.trans h.c1, (hk 2).1.trans h.c2, (hk 3).1.trans h.c3, (hk 4).1.trans h.c4, (hk 5).1.trans h.c5, (hk 6).1.trans h.c6, fun j hj => (hk j).2.trans (h.z j hj), Nat.lt_of_lt_of_le h.lt hs⟩
theorem Eb.fr (h : Eb w S x0 x1 x2 x3 x4 x5 x6) (hf : Fr w w' P) (hne : S ≠ P) : Eb w' S x0 x1 x2 x3 x4 x5 x6 :=
  h.keep (fun j => ⟨hf.cell ⟨S, j, none⟩ h.lt hne, World.grownBy.frozen_far hf ⟨S, j, none⟩ h.lt (by simpa using hne)⟩) hf.size
theorem Eb.over (h : Eb w S x0 x1 x2 x3 x4 x5 x6) (hb : Below w.heap.size w w') : Eb w' S x0 x1 x2 x3 x4 x5 x6 :=
  h.keep (fun j => ⟨hb.cell (p := ⟨S, j, none⟩) h.lt, hb.frozen (p := ⟨S, j, none⟩) h.lt⟩) hb.size
theorem Eb.other (h : Eb w S x0 x1 x2 x3 x4 x5 x6) {Y : Nat} (hne : S ≠ Y) (k : Nat) (v : Value) : Eb (w.setCell ⟨Y, k, none⟩ v) S x0 x1 x2 x3 x4 x5 x6 :=
  h.fr (P := Y) ((Fr.refl w Y).set k v) hne
theorem Eb.new (w : World) (x0 x1 x2 x3 x4 x5 x6 : Value) (t : TypeId) : Eb (w.alloc (.cells #[x0, x1, x2, x3, x4, x5, x6] t)) w.heap.size x0 x1 x2 x3 x4 x5 x6 :=
  ⟨by simp, by simp, by simp, by simp, by simp, by simp, by simp, fun j hj => by rcases (show j = 0 ∨ j = 1 ∨ j = 2 ∨ j = 3 ∨ j = 4 ∨ j = 5 ∨ j = 6 by omega) with rfl | rfl | rfl | rfl | rfl | rfl | rfl <;> simp, by simp⟩
theorem Eb.put5 (h : Eb w S x0 x1 x2 x3 x4 x5 x6) (v : Value) : Eb (w.setCell ⟨S, 5, none⟩ v) S x0 x1 x2 x3 x4 v x6 :=
  ⟨(set_other (by decide)).trans h.c0, (set_other (by decide)).trans h.c1, (set_other (by decide)).trans h.c2, (set_other (by decide)).trans h.c3, (set_other (by decide)).trans h.c4, set_same h.c5, (set_other (by decide)).trans h.c6, fun j hj => by simp [h.z j hj], by simpa using h.lt⟩
theorem Eb.put6 (h : Eb w S x0 x1 x2 x3 x4 x5 x6) (v : Value) : Eb (w.setCell ⟨S, 6, none⟩ v) S x0 x1 x2 x3 x4 x5 v :=
  ⟨(set_other (by decide)).trans h.c0, (set_other (by decide)).trans h.c1, (set_other (by decide)).trans h.c2, (set_other (by decide)).trans h.c3, (set_other (by decide)).trans h.c4, (set_other (by decide)).trans h.c5, set_same h.c6, fun j hj => by simp [h.z j hj], by simpa using h.lt⟩
end
/-- Seven stores into a block. -/
abbrev put7 (w : World) (S : Nat) (x0 x1 x2 x3 x4 x5 x6 : Value) : World := (((((((w.setCell ⟨S, 0, none⟩ x0).setCell ⟨S, 1, none⟩ x1).setCell ⟨S, 2, none⟩ x2).setCell ⟨S, 3, none⟩ x3).setCell ⟨S, 4, none⟩ x4).setCell ⟨S, 5, none⟩ x5).setCell ⟨S, 6, none⟩ x6)
theorem put7_fr (w : World) (S : Nat) (x0 x1 x2 x3 x4 x5 x6 : Value) : Fr w (put7 w S x0 x1 x2 x3 x4 x5 x6) S := (((((((Fr.refl w S).set 0 x0).set 1 x1).set 2 x2).set 3 x3).set 4 x4).set 5 x5).set 6 x6
theorem Fr.put7 {a w : World} {P S : Nat} (h : Fr a w P) (hS : a.heap.size ≤ S) (x0 x1 x2 x3 x4 x5 x6 : Value) : Fr a (put7 w S x0 x1 x2 x3 x4 x5 x6) P := ((((((h.far hS 0 x0).far hS 1 x1).far hS 2 x2).far hS 3 x3).far hS 4 x4).far hS 5 x5).far hS 6 x6
theorem Ps.put7 {w : World} {P S : Nat} {A : Option Addr} {c : Nat} {L : List Tk} {i : Nat} {en a e : Int} (h : Ps w P A c L i en a e) (hS : P < S) (x0 x1 x2 x3 x4 x5 x6 : Value) : Ps (put7 w S x0 x1 x2 x3 x4 x5 x6) P A c L i en a e := ((((((h.far hS 0 x0).far hS 1 x1).far hS 2 x2).far hS 3 x3).far hS 4 x4).far hS 5 x5).far hS 6 x6
/-- A call that hands back an entry, out of its result's block. -/
theorem pent_ret {W : World} {fn : Func} {R : Ending → World → Prop} {act : Act} {S k : Nat} {x0 x1 x2 x3 x4 x5 x6 y0 y1 y2 y3 y4 y5 y6 : Value} (hres : fn.results = #[.cell k 75]) (hd : act.defers = []) (h2 : act.tmps[k]?.getD undef = .pointer (some ⟨S, 0, none⟩))
    (hb : Eb W S y0 y1 y2 y3 y4 y5 y6) (hR : R (.returned (.agg #[x0, x1, x2, x3, x4, x5, x6])) (put7 W S x0 x1 x2 x3 x4 x5 x6)) : bodyPost Tryz.prog fn R .ret act (put7 W S x0 x1 x2 x3 x4 x5 x6) := by
  obtain ⟨g0, g1, g2, g3, g4, g5, g6⟩ := set7 hb.c0 hb.c1 hb.c2 hb.c3 hb.c4 hb.c5 hb.c6 x0 x1 x2 x3 x4 x5 x6
  exact bodyPost_ret (v := _) (by simp [results, hres, go_sem, h2, put7, g0, g1, g2, g3, g4, g5, g6]; try rfl) hd hR

theorem pe_put {w wE : World} {P N : Nat} {A : Option Addr} {c : Nat} {L : List Tk} {en kind : Int} {i i' : Nat} {a e a' e' : Int} {vu vl : Value} {lo hi : Cd} {to : Int} {u : List Int} {ll : List (List Int)}
    (hP : Ps wE P A c L i' en a' e') (hi' : i' ≤ L.length) (hF : Fr w wE P) (hlt : P < w.heap.size) (hN : w.heap.size < N) (hU : Ux wE (fun b => b < N) vu u) (hL : Lx wE (fun b => b < N) vl ll) (ho : Oc (entT L en kind i) (fun _ => True) i a e (⟨lo, hi, to, u, ll⟩ : En) i' a' e') :
    Pe w P A c L en kind i a e (.returned (.agg #[.int .i64 lo.n, .int .i64 lo.v, .int .i64 hi.n, .int .i64 hi.v, .int .i64 to, vu, vl])) (put7 wE w.heap.size (.int .i64 lo.n) (.int .i64 lo.v) (.int .i64 hi.n) (.int .i64 hi.v) (.int .i64 to) vu vl) :=
  ⟨(⟨lo, hi, to, u, ll⟩, vu, vl), i', a', e', rfl, ⟨hU.to (Kp.of_fr (put7_fr _ _ _ _ _ _ _ _ _) (fun _ => hN)) (fun _ _ h => Nat.lt_trans h hN), hL.to (Kp.of_fr (put7_fr _ _ _ _ _ _ _ _ _) (fun _ => hN)) (fun _ _ h => Nat.lt_trans h hN)⟩, hP.put7 hlt _ _ _ _ _ _ _, hi', hF.put7 (Nat.le_refl _) _ _ _ _ _ _ _, ho⟩
theorem units_low : ∀ (s : List UInt8), ∀ u ∈ units s, 0 ≤ u
  | [], u, h => by simp [units] at h
  | [_], u, h => by simp [units] at h
  | a :: b :: r, u, h => by
    rw [units] at h
    rcases List.mem_cons.1 h with rfl | h
    · omega
    · exact units_low r u h
theorem lastU_low (s : List UInt8) : 0 ≤ lastU (units s) := by
  unfold lastU
  cases h : (units s).getLast? with
  | none => simp
  | some u => exact units_low s u (List.mem_of_getLast? h)
section
variable {L : List Tk} {en : Int} {i i1 i2 : Nat} {a e a1 e1 a2 e2 : Int} {lo hi : Cd}
theorem bf_list_oc {x : List (List Int)} (hoc : Oc (pairT L en false i) (fun _ => True) i a e (lo, hi) i1 a1 e1) (hat : atB L i1 6 = true) (h2 : Oc (listOT L en (hi.v - lo.v + 1) i1) (fun _ => True) i1 a1 e1 x i2 a2 e2) :
    Oc (entT L en 7 i) (fun _ => True) i a e (⟨lo, hi, 0, [], x⟩ : En) i2 a2 e2 := by
  unfold entT
  rw [if_neg (by decide), if_neg (by decide), if_neg (by decide), if_neg (by decide), if_pos rfl]
  unfold bfT
  refine Oc.bind hoc ?_
  have ha2 := hat
  simp [atB] at ha2
  simp only
  rw [if_pos ha2, ← listO_at hat]
  exact h2.map (fun t => (⟨lo, hi, 0, [], t⟩ : En))
/-- Is the last unit, with the codes behind the first, more than may be? -/
def bfB (lo hi : Cd) (u : List Int) : Bool := decide (0 < u.length) && decide (65535 < lastU u + hi.v - lo.v)
theorem bf_unit_oc {t : Tk} (hoc : Oc (pairT L en false i) (fun _ => True) i a e (lo, hi) i1 a1 e1) (hat : e1 = 0 → atB L i1 6 = false) (h2 : Oc (takeT L en 4 i1) (fun x => x = noT) i1 a1 e1 t i2 a2 e2) :
    Oc (entT L en 7 i) (fun _ => True) i a e (⟨lo, hi, 0, units t.s, []⟩ : En) i2 (fA (bfB lo hi (units t.s)) t.at_ (if unitsT t = none ∧ e2 = 0 then t.at_ else a2) (if unitsT t = none ∧ e2 = 0 then 3 else e2)) (fE (bfB lo hi (units t.s)) 7 (if unitsT t = none ∧ e2 = 0 then 3 else e2)) := by
  unfold entT
  rw [if_neg (by decide), if_neg (by decide), if_neg (by decide), if_neg (by decide), if_pos rfl]
  unfold bfT
  refine Oc.bind hoc ?_
  simp only
  rcases h2 with ⟨h1, h3, h4, h5, _⟩ | ⟨h1, h3, h4, _⟩ | ⟨h1, h3, h4, h5⟩
  · have hn : ¬ (unitsT t = none ∧ e2 = 0) := by rintro ⟨_, h⟩; exact h1 (h5 ▸ h)
    rw [if_neg hn, if_neg hn, fA_err (h5 ▸ h1), fE_err (h5 ▸ h1)]
    exact .inl ⟨h1, h3, h4, h5, trivial⟩
  · have ha := hat h1
    rw [if_neg (by rintro ⟨q1, q2⟩; simp [atB, q1, q2] at ha), if_neg (by rintro ⟨_, h⟩; exact h4 h), if_neg (by rintro ⟨_, h⟩; exact h4 h), fA_err h4, fE_err h4]
    exact .inr (.inl ⟨h1, by unfold unitT; rw [h3, then_no, then_no], h4, trivial⟩)
  · have ha := hat h1
    rw [if_neg (by rintro ⟨q1, q2⟩; simp [atB, q1, q2] at ha)]
    cases hu : unitsT t with
    | none =>
      rw [if_pos ⟨rfl, h5⟩, if_pos ⟨rfl, h5⟩, fA_err (by decide), fE_err (by decide)]
      exact .inr (.inl ⟨h1, by unfold unitT; rw [h3, then_ok, hu]; rfl, by decide, trivial⟩)
    | some u =>
      have hu2 := hu
      unfold unitsT at hu2
      by_cases hc : oddB t.s = false ∧ 1 ≤ (units t.s).length ∧ (units t.s).length ≤ 64
      · rw [if_pos hc] at hu2
        obtain rfl := Option.some.inj hu2
        rw [if_neg (by rintro ⟨h, _⟩; cases h), if_neg (by rintro ⟨h, _⟩; cases h)]
        have hl : decide (0 < (units t.s).length) = true := by simp; omega
        have hun : unitT L en i1 = .ok (units t.s, t.at_) i2 := by unfold unitT; rw [h3, then_ok, hu]
        by_cases hv : 65535 < lastU (units t.s) + hi.v - lo.v
        · have hb : bfB lo hi (units t.s) = true := by unfold bfB; rw [hl]; simpa using hv
          rw [hb, h5, fA_yes, fE_yes]
          exact .inr (.inl ⟨h1, by rw [hun, then_ok]; simp only; rw [if_pos (show 65535 < (units t.s).getLast?.getD 0 + hi.v - lo.v from hv)], by decide, trivial⟩)
        · have hb : bfB lo hi (units t.s) = false := by unfold bfB; rw [hl]; simpa using hv
          rw [hb, fA_no, fE_no]
          exact .inr (.inr ⟨h1, by rw [hun, then_ok]; simp only; rw [if_neg (show ¬ 65535 < (units t.s).getLast?.getD 0 + hi.v - lo.v from hv)], h4, h5⟩)
      · rw [if_neg hc] at hu2; cases hu2
end
section
variable {w : World} {P : Nat} {A : Option Addr} {c : Nat} {L : List Tk} {i : Nat} {en a e : Int}
set_option maxRecDepth 100000 in
set_option maxHeartbeats 2000000 in
theorem pbfRange_any (h : Ps w P A c L i en a e) (hi : i ≤ L.length) (hL : Sm L) :
    Calls Tryz.prog 77 #[.pointer (some ⟨P, 0, none⟩)] w (Pe w P A c L en 7 i a e) := by
  have hlt := h.lt
  have hT := ppair_any (h.alloc (.cells #[.int .i64 0, .int .i64 0, .int .i64 0, .int .i64 0, .int .i64 0, .slice none 0 0, .slice none 0 0] 75)) hi hL false
  have HT := Lib.hid hT
  have hL1 := hL.1
  have hS0 := Eb.new w (.int .i64 0) (.int .i64 0) (.int .i64 0) (.int .i64 0) (.int .i64 0) (.slice none 0 0) (.slice none 0 0) 75
  have hF0 : Fr w (w.alloc (.cells #[.int .i64 0, .int .i64 0, .int .i64 0, .int .i64 0, .int .i64 0, .slice none 0 0, .slice none 0 0] 75)) P := (Fr.refl w P).alloc _
  have HS0 := Lib.hid hS0
  have HF0 := Lib.hid hF0
  clear hT h hS0 hF0
  go_enter Tryz.func77, Tryz.ntmps77
  go_wp2_with fail
  refine HT.out.mono ?_
  rintro r w1 ⟨x, i1, a1, e1, rfl, hbc, hp1, hi1, hf1, hoc⟩
  obtain ⟨⟨ln, lv⟩, ⟨hn, hv⟩⟩ := x
  simp only
  clear HT
  have q1 : 0 ≤ lv ∧ lv < 4294967296 := ⟨hbc.1.2.2.1, hbc.1.2.2.2⟩
  have q2 : 0 ≤ hv ∧ hv < 4294967296 := ⟨hbc.2.2.2.1, hbc.2.2.2.2⟩
  clear hbc
  have hl1 : w.heap.size < w1.heap.size := by have := hf1.size; simp at this; omega
  have hS1 := HS0.out.fr hf1 (by omega)
  have hF1 := HF0.out.trans hf1
  have HO := Lib.hid hoc
  clear hoc hf1 HS0 HF0
  have hqa := ((hp1.alloc (.cells #[.int .i64 ln, .int .i64 lv] 47)).alloc (.cells #[.int .i64 hn, .int .i64 hv] 47)).alloc (.cells #[.int .i64 ln, .int .i64 lv, .int .i64 hn, .int .i64 hv, .int .i64 0, .slice none 0 0, .slice none 0 0] 75)
  have hfa := ((hF1.alloc (.cells #[.int .i64 ln, .int .i64 lv] 47)).alloc (.cells #[.int .i64 hn, .int .i64 hv] 47)).alloc (.cells #[.int .i64 ln, .int .i64 lv, .int .i64 hn, .int .i64 hv, .int .i64 0, .slice none 0 0, .slice none 0 0] 75)
  have hbA : Below w1.heap.size w1 (((w1.alloc (.cells #[.int .i64 ln, .int .i64 lv] 47)).alloc (.cells #[.int .i64 hn, .int .i64 hv] 47)).alloc (.cells #[.int .i64 ln, .int .i64 lv, .int .i64 hn, .int .i64 hv, .int .i64 0, .slice none 0 0, .slice none 0 0] 75)) := (((Below.refl _ _).alloc (Nat.le_refl _) _).alloc (by simp) _).alloc (by simp; omega) _
  have hSa := hS1.over hbA
  have hXa := Eb.new ((w1.alloc (.cells #[.int .i64 ln, .int .i64 lv] 47)).alloc (.cells #[.int .i64 hn, .int .i64 hv] 47)) (.int .i64 ln) (.int .i64 lv) (.int .i64 hn) (.int .i64 hv) (.int .i64 0) (.slice none 0 0) (.slice none 0 0) 75
  have hX2 : ((w1.alloc (.cells #[.int .i64 ln, .int .i64 lv] 47)).alloc (.cells #[.int .i64 hn, .int .i64 hv] 47)).heap.size = w1.heap.size + 1 + 1 := by simp
  rw [hX2] at hXa
  have k1 : (((w1.alloc (.cells #[.int .i64 ln, .int .i64 lv] 47)).alloc (.cells #[.int .i64 hn, .int .i64 hv] 47)).alloc (.cells #[.int .i64 ln, .int .i64 lv, .int .i64 hn, .int .i64 hv, .int .i64 0, .slice none 0 0, .slice none 0 0] 75)).cell? ⟨w1.heap.size, 1, none⟩ = some (.int .i64 lv) := cell_more (by simp) _
  have k3 : (((w1.alloc (.cells #[.int .i64 ln, .int .i64 lv] 47)).alloc (.cells #[.int .i64 hn, .int .i64 hv] 47)).alloc (.cells #[.int .i64 ln, .int .i64 lv, .int .i64 hn, .int .i64 hv, .int .i64 0, .slice none 0 0, .slice none 0 0] 75)).cell? ⟨w1.heap.size + 1, 1, none⟩ = some (.int .i64 hv) := cell_more (by simp) _
  clear hp1 hF1 hS1 hX2 hbA
  go_wp2
  generalize ((w1.alloc (.cells #[.int .i64 ln, .int .i64 lv] 47)).alloc (.cells #[.int .i64 hn, .int .i64 hv] 47)).alloc (.cells #[.int .i64 ln, .int .i64 lv, .int .i64 hn, .int .i64 hv, .int .i64 0, .slice none 0 0, .slice none 0 0] 75) = wa at *
  generalize w1.heap.size = g at *
  have c0 := hqa.c0
  have c1 := hqa.c1
  have c4 := hqa.c4
  have HQ := Lib.hid hqa
  have HF := Lib.hid hfa
  have HS := Lib.hid hSa
  have HX := Lib.hid hXa
  have hgl : g + 1 + 1 < wa.heap.size := hXa.lt
  clear hqa hfa hSa hXa
  by_cases hat : e1 = 0 ∧ atB L i1 6 = true
  · obtain ⟨he, hat⟩ := hat
    subst he
    have hat2 := hat
    simp [atB] at hat2
    obtain ⟨b, o, hAe, hbP, hcl⟩ := HQ.out.tl (by omega)
    obtain ⟨g0, _, _, _⟩ := hcl i1 hat2.1
    rw [hat2.2] at g0
    subst hAe
    have ti : decide (i1 < L.length) = true := by simp; omega
    have hC : ∀ w', Ps w' P (some ⟨b, o, none⟩) c L i1 en a1 0 → Calls Tryz.prog 102 #[.pointer (some ⟨P, 0, none⟩), .int .i64 (hv - lv + 1)] w' (Pl w' P (some ⟨b, o, none⟩) c L en (hv - lv + 1) i1 a1 0) := fun w' hq => plist_any hq hi1 hL (hv - lv + 1)
    have HC := Lib.hid hC
    have HAt := Lib.hid hat
    have hbw : b < wa.heap.size := by have := HQ.out.lt; omega
    clear hC hcl hat
    go_wp2
    go_quiet (fail)
    go_wp2_with fail
    refine (HC.out _ (HQ.out.drewN _)).mono ?_
    rintro r w2 ⟨v, x, i2, a2, e2, rfl, hlx, hq2, hi2, hf2, hoc2⟩
    clear HC c0 c1 c4 k1 k3 g0
    obtain ⟨Av, nv, cv, hve⟩ := hlx.shape
    subst hve
    have hX2 := (HX.out.over (below_drewN (Below.refl _ _) _)).fr hf2 (by omega)
    have hS2 := (HS.out.over (below_drewN (Below.refl _ _) _)).fr hf2 (by omega)
    have hsz2 := hf2.size
    have x6 := hX2.c6
    have z6 := hX2.z 6 (by decide)
    have hX3 := hX2.put6 (.slice Av nv cv)
    have hS3 := hS2.other (Y := g + 1 + 1) (by omega) 6 (.slice Av nv cv)
    have hF3 : Fr w (w2.setCell ⟨g + 1 + 1, 6, none⟩ (.slice Av nv cv)) P := (((HF.out.drewN _).trans hf2).far (by omega) 6 (.slice Av nv cv))
    have hP3 := hq2.far (S := g + 1 + 1) (by omega) 6 (.slice Av nv cv)
    have hK3 : Kp w2 (w2.setCell ⟨g + 1 + 1, 6, none⟩ (.slice Av nv cv)) (fun b => b < wa.heap.size) := Kp.of_fr ((Fr.refl w2 (g + 1 + 1)).set 6 _) (fun _ => hgl)
    have hL3 := hlx.to hK3 (X' := fun b => b < wa.heap.size) (fun _ _ h => h)
    have HE := Lib.hid (bf_list_oc HO.out HAt.out hoc2)
    have hwS : w.heap.size < wa.heap.size := by omega
    have hfin : ∀ (act : Act), act.defers = [] → act.tmps[2]?.getD undef = .pointer (some ⟨w.heap.size, 0, none⟩) → bodyPost Tryz.prog Tryz.f77 (Pe w P (some ⟨b, o, none⟩) c L en 7 i a e) .ret act (put7 (w2.setCell ⟨g + 1 + 1, 6, none⟩ (.slice Av nv cv)) w.heap.size (.int .i64 ln) (.int .i64 lv) (.int .i64 hn) (.int .i64 hv) (.int .i64 0) (.slice none 0 0) (.slice Av nv cv)) := fun act hd h2 =>
      pent_ret Tryz.results77 hd h2 hS3 ⟨(⟨⟨ln, lv⟩, ⟨hn, hv⟩, 0, [], x⟩, .slice none 0 0, .slice Av nv cv), i2, a2, e2, rfl, ⟨Ux.nil, hL3.to (Kp.of_fr (put7_fr _ _ _ _ _ _ _ _ _) (fun _ => hwS)) (fun b _ h => Nat.lt_trans h hwS)⟩, hP3.put7 hlt _ _ _ _ _ _ _, hi2, hF3.put7 (Nat.le_refl _) _ _ _ _ _ _ _, HE.out⟩
    have HFin := Lib.hid hfin
    obtain ⟨y0, y1, y2, y3, y4, y5, y6, yz, _⟩ := hX3
    obtain ⟨s0, s1, s2, s3, s4, s5, s6, sz, _⟩ := hS3
    have sz0 := sz 0 (by decide)
    have sz1 := sz 1 (by decide)
    have sz2 := sz 2 (by decide)
    have sz3 := sz 3 (by decide)
    have sz4 := sz 4 (by decide)
    have sz5 := sz 5 (by decide)
    have sz6 := sz 6 (by decide)
    clear hX2 hS2 hF3 hP3 hK3 hL3 hfin hq2 hf2 hlx hoc2 yz sz
    go_wp2_with (with_reducible exact HFin.out _ rfl rfl)
  · have hat1 : e1 = 0 → atB L i1 6 = false := fun h => by
      cases hb : atB L i1 6 with
      | false => rfl
      | true => exact absurd ⟨h, hb⟩ hat
    have hgo : (e1 == 0) = false ∨ ((e1 == 0) = true ∧ decide (i1 < L.length) = false) ∨ ((e1 == 0) = true ∧ decide (i1 < L.length) = true ∧ ∃ b o q1, A = some ⟨b, o, none⟩ ∧ b < P ∧ wa.cell? ⟨b, o + i1 * 4, none⟩ = some (.int .i64 q1) ∧ (q1 == 6) = false) := by
      by_cases he : e1 = 0
      · right
        by_cases hi2 : i1 < L.length
        · right
          refine ⟨by simpa using he, by simpa using hi2, ?_⟩
          obtain ⟨b, o, hAe, hbP, hcl⟩ := HQ.out.tl (by omega)
          obtain ⟨g0, _, _, _⟩ := hcl i1 hi2
          refine ⟨b, o, _, hAe, hbP, g0, ?_⟩
          have : ¬ (tg L i1).kind = 6 := by simpa [atB, hi2] using hat1 he
          rw [beq_eq_false_iff_ne]; exact this
        · left; exact ⟨by simpa using he, by simpa using hi2⟩
      · left; simpa using he
    have hTk : ∀ w', Below wa.heap.size wa w' → Calls Tryz.prog 79 #[.pointer (some ⟨P, 0, none⟩), .int .i64 4] w' fun r w'' => ∃ (t : Tk) (i' : Nat) (a' e' : Int), r = .returned (tv t) ∧ Ps w'' P A c L i' en a' e' ∧ i' ≤ L.length ∧ t.s.length ≤ 1048576 ∧ Fr w' w'' P ∧ Oc (takeT L en 4 i1) (fun x => x = noT) i1 a1 e1 t i' a' e' := fun w' hb => ptake_any (HQ.out.over hb) hi1 hL 4
    have HTk := Lib.hid hTk
    have HAt := Lib.hid hat1
    clear hTk hat hat1
    rcases hgo with te | ⟨te, ti⟩ | ⟨te, ti, b, o, q1, hAe, hbP, g0, t6⟩
    · go_wp2
      go_quiet (fail)
      go_wp2_with fail
      refine (HTk.out _ (below_drewN (Below.refl _ _) _)).mono ?_
      rintro r w2 ⟨t, i2, a2, e2, rfl, hq2, hi2, hts, hf2, hoc2⟩
      have HE := Lib.hid (bf_unit_oc HO.out HAt.out hoc2)
      have hX2 := (HX.out.over (below_drewN (Below.refl _ _) _)).fr hf2 (by omega)
      have hS2 := (HS.out.over (below_drewN (Below.refl _ _) _)).fr hf2 (by omega)
      have hF2 := (HF.out.drewN _).trans hf2
      have hsz2 := hf2.size
      have m1 := (hf2.cell ⟨g, 1, none⟩ (show g < wa.heap.size by omega) (show g ≠ P by omega)).trans k1
      have m3 := (hf2.cell ⟨g + 1, 1, none⟩ (show g + 1 < wa.heap.size by omega) (show g + 1 ≠ P by omega)).trans k3
      clear HTk HQ HX HS HF c0 c1 c4 k1 k3 hoc2 hf2
      have hbT : Below w2.heap.size w2 (w2.alloc (.cells #[.int .i64 t.kind, .int .i64 t.at_, .int .i64 t.n, .string (str t.s)] 42)) := (Below.refl _ _).alloc (Nat.le_refl _) _
      have hq2' := hq2.over hbT
      have hX2' := hX2.over hbT
      have hS2' := hS2.over hbT
      have hF2' := hF2.over hbT
      have hsw : wa.heap.size ≤ w2.heap.size := by simpa using hsz2
      have m1' := (hbT.cell (p := ⟨g, 1, none⟩) (show g < w2.heap.size by omega)).trans m1
      have m3' := (hbT.cell (p := ⟨g + 1, 1, none⟩) (show g + 1 < w2.heap.size by omega)).trans m3
      have m5' : (w2.alloc (.cells #[.int .i64 t.kind, .int .i64 t.at_, .int .i64 t.n, .string (str t.s)] 42)).cell? ⟨w2.heap.size, 1, none⟩ = some (.int .i64 t.at_) := by simp
      have hU := punits_new hq2' t hts
      obtain ⟨kind, at_, n, s⟩ := t
      unfold tv at hU ⊢
      simp only at *
      have HU := Lib.hid hU
      clear hU hq2 hX2 hS2 hF2 m1 m3 hq2' hbT
      have hz0 := lastU_low s
      have hus : (units s).length ≤ 1048576 := by rw [units_length]; omega
      have hz1 := lastU_top s
      go_wp2_with fail
      refine HU.out.mono ?_
      rintro r w3 ⟨vu, rfl, hux, hq3, hf3⟩
      clear HU
      obtain ⟨a3, ha3⟩ : ∃ a3, a3 = (if unitsT ⟨kind, at_, n, s⟩ = none ∧ e2 = 0 then at_ else a2) := ⟨_, rfl⟩
      obtain ⟨e3, he3⟩ : ∃ e3, e3 = (if unitsT ⟨kind, at_, n, s⟩ = none ∧ e2 = 0 then (3 : Int) else e2) := ⟨_, rfl⟩
      rw [← ha3, ← he3] at hq3 HE
      clear ha3 he3
      generalize units s = u at *
      obtain ⟨Au, cu, hvu, hcu, _⟩ := hux.si
      subst hvu
      have hX3 := hX2'.fr hf3 (by omega)
      have hS3 := hS2'.fr hf3 (by omega)
      have hF3 := hF2'.trans hf3
      have n1 := (hf3.cell ⟨g, 1, none⟩ (by simp; omega) (show g ≠ P by omega)).trans m1'
      have n3 := (hf3.cell ⟨g + 1, 1, none⟩ (by simp; omega) (show g + 1 ≠ P by omega)).trans m3'
      have n5 := (hf3.cell ⟨w2.heap.size, 1, none⟩ (by simp) (show w2.heap.size ≠ P by omega)).trans m5'
      have x5 := hX3.c5
      have z5 := hX3.z 5 (by decide)
      have hX4 := hX3.put5 (.slice Au u.length cu)
      have hS4 := hS3.other (Y := g + 1 + 1) (by omega) 5 (.slice Au u.length cu)
      have hF4 := hF3.far (S := g + 1 + 1) (by omega) 5 (.slice Au u.length cu)
      have hP4 := hq3.far (S := g + 1 + 1) (by omega) 5 (.slice Au u.length cu)
      have hU4 := hux.to (X' := fun b => b < w2.heap.size) (Kp.of_fr ((Fr.refl w3 (g + 1 + 1)).set 5 (.slice Au u.length cu)) (fun _ => by simp; omega)) (fun b _ h => by have : b < w2.heap.size := h; simp; omega)
      have o1 := (World.cell?_setCell_far w3 ⟨g + 1 + 1, 5, none⟩ ⟨g, 1, none⟩ (.slice Au u.length cu) (by show g + 1 + 1 ≠ g; omega)).trans n1
      have o3 := (World.cell?_setCell_far w3 ⟨g + 1 + 1, 5, none⟩ ⟨g + 1, 1, none⟩ (.slice Au u.length cu) (by show g + 1 + 1 ≠ g + 1; omega)).trans n3
      have o5 := (World.cell?_setCell_far w3 ⟨g + 1 + 1, 5, none⟩ ⟨w2.heap.size, 1, none⟩ (.slice Au u.length cu) (by show g + 1 + 1 ≠ w2.heap.size; omega)).trans n5
      clear hX3 hS3 hF3 hux hq3 hf3 n1 n3 n5 m1' m3' m5' hX2' hS2' hF2'
      go_wp2
      generalize w3.setCell ⟨g + 1 + 1, 5, none⟩ (.slice Au u.length cu) = w4 at *
      clear x5 z5
      generalize w2.heap.size = g2 at *
      obtain ⟨y0, y1, y2, y3, y4, y5, y6, _, hXl⟩ := id hX4
      have HX4 := Lib.hid hX4
      have HS4 := Lib.hid hS4
      have HF4 := Lib.hid hF4
      have HP4 := Lib.hid hP4
      have HU4 := Lib.hid hU4
      have hNS : w.heap.size < g2 := by omega
      have hfin : ∀ (wE : World) (aE eE : Int), Eb wE w.heap.size (.int .i64 0) (.int .i64 0) (.int .i64 0) (.int .i64 0) (.int .i64 0) (.slice none 0 0) (.slice none 0 0) → Ps wE P A c L i2 en aE eE → Fr w wE P → Ux wE (fun b => b < g2) (.slice Au u.length cu) u → Oc (entT L en 7 i) (fun _ => True) i a e (⟨⟨ln, lv⟩, ⟨hn, hv⟩, 0, u, []⟩ : En) i2 aE eE → ∀ (act : Act), act.defers = [] → act.tmps[2]?.getD undef = .pointer (some ⟨w.heap.size, 0, none⟩) → bodyPost Tryz.prog Tryz.f77 (Pe w P A c L en 7 i a e) .ret act (put7 wE w.heap.size (.int .i64 ln) (.int .i64 lv) (.int .i64 hn) (.int .i64 hv) (.int .i64 0) (.slice Au u.length cu) (.slice none 0 0)) := fun wE aE eE hS hP hF hU ho act hd h2 => pent_ret Tryz.results77 hd h2 hS (pe_put (lo := ⟨ln, lv⟩) (hi := ⟨hn, hv⟩) hP hi2 hF hlt hNS hU Lx.nil ho)
      have HFin := Lib.hid hfin
      clear hX4 hS4 hF4 hP4 hfin
      by_cases h0 : 0 < u.length
      · obtain ⟨Au2, cu2, hvu2, _, hsi⟩ := hU4.si
        injection hvu2 with e1' _ e3'
        subst e1' e3'
        obtain ⟨gu, ou, hAu, hgu, hcl⟩ := hsi h0
        subst hAu
        obtain ⟨m, hm⟩ : ∃ m, u.length = m + 1 := ⟨u.length - 1, by omega⟩
        have kl := hcl m (by omega)
        rw [lastU_at hm] at kl
        have t0 : decide (0 < u.length) = true := by simp; omega
        clear hcl hsi hU4
        by_cases hv2 : 65535 < lastU u + hv - lv
        · have hb : bfB ⟨ln, lv⟩ ⟨hn, hv⟩ u = true := by unfold bfB; rw [t0]; simpa using hv2
          have d1 : decide ((65535 : Int) < lastU u + hv - lv) = true := by simp; omega
          have hE := HE.out
          rw [hb] at hE
          have HE2 := Lib.hid hE
          clear hb hE HE hv2
          generalize lastU u = z at *
          generalize u.length = nl at *
          subst hm
          go_wp2
          go_quiet (fail)
          go_wp2_with fail
          refine (pfail_any (HP4.out.drewN _) at_ 7).mono ?_
          rintro r w5 ⟨rfl, hq5, hf5⟩
          simp only [fA_t] at hq5
          have hX5 := (HX4.out.over (below_drewN (Below.refl _ _) _)).fr hf5 (by omega)
          have hS5 := (HS4.out.over (below_drewN (Below.refl _ _) _)).fr hf5 (by omega)
          have hF5 := (HF4.out.drewN _).trans hf5
          have hU5 := (HU4.out.to (X' := fun b => b < g2) (Kp.of_below (below_drewN (Below.refl _ _) _)) (fun _ _ h => h)).to (X' := fun b => b < g2) (Kp.of_fr hf5 (fun _ => by omega)) (fun _ _ h => h)
          have HFn := Lib.hid (HFin.out w5 _ _ hS5 hq5 hF5 hU5 HE2.out)
          clear y0 y1 y2 y3 y4 y5 y6
          obtain ⟨y0, y1, y2, y3, y4, y5, y6, _, _⟩ := hX5
          obtain ⟨s0, s1, s2, s3, s4, s5, s6, sz, _⟩ := hS5
          have sz0 := sz 0 (by decide)
          have sz1 := sz 1 (by decide)
          have sz2 := sz 2 (by decide)
          have sz3 := sz 3 (by decide)
          have sz4 := sz 4 (by decide)
          have sz5 := sz 5 (by decide)
          have sz6 := sz 6 (by decide)
          clear sz hq5 hf5 hF5 hU5
          go_wp2_with (with_reducible exact HFn.out _ rfl rfl)
        · have hb : bfB ⟨ln, lv⟩ ⟨hn, hv⟩ u = false := by unfold bfB; rw [t0]; simpa using hv2
          have d1 : decide ((65535 : Int) < lastU u + hv - lv) = false := by simp; omega
          have hE := HE.out
          rw [hb, fA_no, fE_no] at hE
          have HE2 := Lib.hid hE
          clear hb hE HE hv2
          generalize lastU u = z at *
          generalize u.length = nl at *
          subst hm
          have hfn : ∀ m', _ := fun m' => HFin.out (w4.drewN m') _ _ (HS4.out.over (below_drewN (Below.refl _ _) _)) (HP4.out.drewN _) (HF4.out.drewN _) (HU4.out.to (X' := fun b => b < g2) (Kp.of_below (below_drewN (Below.refl _ _) _)) (fun _ _ h => h)) HE2.out
          have HFn := Lib.hid hfn
          obtain ⟨s0, s1, s2, s3, s4, s5, s6, sz, _⟩ := id HS4.out
          have sz0 := sz 0 (by decide)
          have sz1 := sz 1 (by decide)
          have sz2 := sz 2 (by decide)
          have sz3 := sz 3 (by decide)
          have sz4 := sz 4 (by decide)
          have sz5 := sz 5 (by decide)
          have sz6 := sz 6 (by decide)
          clear sz hfn
          go_wp2
          go_quiet (fail)
          go_wp2_with (with_reducible exact HFn.out _ _ rfl rfl)
      · have t0 : decide (0 < u.length) = false := decide_eq_false h0
        have hb : bfB ⟨ln, lv⟩ ⟨hn, hv⟩ u = false := by unfold bfB; rw [t0]; rfl
        have hE := HE.out
        rw [hb, fA_no, fE_no] at hE
        have HE2 := Lib.hid hE
        clear hb hE HE hU4
        generalize u.length = nl at *
        have hfn : ∀ m', _ := fun m' => HFin.out (w4.drewN m') _ _ (HS4.out.over (below_drewN (Below.refl _ _) _)) (HP4.out.drewN _) (HF4.out.drewN _) (HU4.out.to (X' := fun b => b < g2) (Kp.of_below (below_drewN (Below.refl _ _) _)) (fun _ _ h => h)) HE2.out
        have HFn := Lib.hid hfn
        obtain ⟨s0, s1, s2, s3, s4, s5, s6, sz, _⟩ := id HS4.out
        have sz0 := sz 0 (by decide)
        have sz1 := sz 1 (by decide)
        have sz2 := sz 2 (by decide)
        have sz3 := sz 3 (by decide)
        have sz4 := sz 4 (by decide)
        have sz5 := sz 5 (by decide)
        have sz6 := sz 6 (by decide)
        clear sz hfn
        go_wp2
        go_quiet (fail)
        go_wp2_with (with_reducible exact HFn.out _ _ rfl rfl)
    · go_wp2
      go_quiet (fail)
      go_wp2_with fail
      refine (HTk.out _ (below_drewN (Below.refl _ _) _)).mono ?_
      rintro r w2 ⟨t, i2, a2, e2, rfl, hq2, hi2, hts, hf2, hoc2⟩
      have HE := Lib.hid (bf_unit_oc HO.out HAt.out hoc2)
      have hX2 := (HX.out.over (below_drewN (Below.refl _ _) _)).fr hf2 (by omega)
      have hS2 := (HS.out.over (below_drewN (Below.refl _ _) _)).fr hf2 (by omega)
      have hF2 := (HF.out.drewN _).trans hf2
      have hsz2 := hf2.size
      have m1 := (hf2.cell ⟨g, 1, none⟩ (show g < wa.heap.size by omega) (show g ≠ P by omega)).trans k1
      have m3 := (hf2.cell ⟨g + 1, 1, none⟩ (show g + 1 < wa.heap.size by omega) (show g + 1 ≠ P by omega)).trans k3
      clear HTk HQ HX HS HF c0 c1 c4 k1 k3 hoc2 hf2
      have hbT : Below w2.heap.size w2 (w2.alloc (.cells #[.int .i64 t.kind, .int .i64 t.at_, .int .i64 t.n, .string (str t.s)] 42)) := (Below.refl _ _).alloc (Nat.le_refl _) _
      have hq2' := hq2.over hbT
      have hX2' := hX2.over hbT
      have hS2' := hS2.over hbT
      have hF2' := hF2.over hbT
      have hsw : wa.heap.size ≤ w2.heap.size := by simpa using hsz2
      have m1' := (hbT.cell (p := ⟨g, 1, none⟩) (show g < w2.heap.size by omega)).trans m1
      have m3' := (hbT.cell (p := ⟨g + 1, 1, none⟩) (show g + 1 < w2.heap.size by omega)).trans m3
      have m5' : (w2.alloc (.cells #[.int .i64 t.kind, .int .i64 t.at_, .int .i64 t.n, .string (str t.s)] 42)).cell? ⟨w2.heap.size, 1, none⟩ = some (.int .i64 t.at_) := by simp
      have hU := punits_new hq2' t hts
      obtain ⟨kind, at_, n, s⟩ := t
      unfold tv at hU ⊢
      simp only at *
      have HU := Lib.hid hU
      clear hU hq2 hX2 hS2 hF2 m1 m3 hq2' hbT
      have hz0 := lastU_low s
      have hus : (units s).length ≤ 1048576 := by rw [units_length]; omega
      have hz1 := lastU_top s
      go_wp2_with fail
      refine HU.out.mono ?_
      rintro r w3 ⟨vu, rfl, hux, hq3, hf3⟩
      clear HU
      obtain ⟨a3, ha3⟩ : ∃ a3, a3 = (if unitsT ⟨kind, at_, n, s⟩ = none ∧ e2 = 0 then at_ else a2) := ⟨_, rfl⟩
      obtain ⟨e3, he3⟩ : ∃ e3, e3 = (if unitsT ⟨kind, at_, n, s⟩ = none ∧ e2 = 0 then (3 : Int) else e2) := ⟨_, rfl⟩
      rw [← ha3, ← he3] at hq3 HE
      clear ha3 he3
      generalize units s = u at *
      obtain ⟨Au, cu, hvu, hcu, _⟩ := hux.si
      subst hvu
      have hX3 := hX2'.fr hf3 (by omega)
      have hS3 := hS2'.fr hf3 (by omega)
      have hF3 := hF2'.trans hf3
      have n1 := (hf3.cell ⟨g, 1, none⟩ (by simp; omega) (show g ≠ P by omega)).trans m1'
      have n3 := (hf3.cell ⟨g + 1, 1, none⟩ (by simp; omega) (show g + 1 ≠ P by omega)).trans m3'
      have n5 := (hf3.cell ⟨w2.heap.size, 1, none⟩ (by simp) (show w2.heap.size ≠ P by omega)).trans m5'
      have x5 := hX3.c5
      have z5 := hX3.z 5 (by decide)
      have hX4 := hX3.put5 (.slice Au u.length cu)
      have hS4 := hS3.other (Y := g + 1 + 1) (by omega) 5 (.slice Au u.length cu)
      have hF4 := hF3.far (S := g + 1 + 1) (by omega) 5 (.slice Au u.length cu)
      have hP4 := hq3.far (S := g + 1 + 1) (by omega) 5 (.slice Au u.length cu)
      have hU4 := hux.to (X' := fun b => b < w2.heap.size) (Kp.of_fr ((Fr.refl w3 (g + 1 + 1)).set 5 (.slice Au u.length cu)) (fun _ => by simp; omega)) (fun b _ h => by have : b < w2.heap.size := h; simp; omega)
      have o1 := (World.cell?_setCell_far w3 ⟨g + 1 + 1, 5, none⟩ ⟨g, 1, none⟩ (.slice Au u.length cu) (by show g + 1 + 1 ≠ g; omega)).trans n1
      have o3 := (World.cell?_setCell_far w3 ⟨g + 1 + 1, 5, none⟩ ⟨g + 1, 1, none⟩ (.slice Au u.length cu) (by show g + 1 + 1 ≠ g + 1; omega)).trans n3
      have o5 := (World.cell?_setCell_far w3 ⟨g + 1 + 1, 5, none⟩ ⟨w2.heap.size, 1, none⟩ (.slice Au u.length cu) (by show g + 1 + 1 ≠ w2.heap.size; omega)).trans n5
      clear hX3 hS3 hF3 hux hq3 hf3 n1 n3 n5 m1' m3' m5' hX2' hS2' hF2'
      go_wp2
      generalize w3.setCell ⟨g + 1 + 1, 5, none⟩ (.slice Au u.length cu) = w4 at *
      clear x5 z5
      generalize w2.heap.size = g2 at *
      obtain ⟨y0, y1, y2, y3, y4, y5, y6, _, hXl⟩ := id hX4
      have HX4 := Lib.hid hX4
      have HS4 := Lib.hid hS4
      have HF4 := Lib.hid hF4
      have HP4 := Lib.hid hP4
      have HU4 := Lib.hid hU4
      have hNS : w.heap.size < g2 := by omega
      have hfin : ∀ (wE : World) (aE eE : Int), Eb wE w.heap.size (.int .i64 0) (.int .i64 0) (.int .i64 0) (.int .i64 0) (.int .i64 0) (.slice none 0 0) (.slice none 0 0) → Ps wE P A c L i2 en aE eE → Fr w wE P → Ux wE (fun b => b < g2) (.slice Au u.length cu) u → Oc (entT L en 7 i) (fun _ => True) i a e (⟨⟨ln, lv⟩, ⟨hn, hv⟩, 0, u, []⟩ : En) i2 aE eE → ∀ (act : Act), act.defers = [] → act.tmps[2]?.getD undef = .pointer (some ⟨w.heap.size, 0, none⟩) → bodyPost Tryz.prog Tryz.f77 (Pe w P A c L en 7 i a e) .ret act (put7 wE w.heap.size (.int .i64 ln) (.int .i64 lv) (.int .i64 hn) (.int .i64 hv) (.int .i64 0) (.slice Au u.length cu) (.slice none 0 0)) := fun wE aE eE hS hP hF hU ho act hd h2 => pent_ret Tryz.results77 hd h2 hS (pe_put (lo := ⟨ln, lv⟩) (hi := ⟨hn, hv⟩) hP hi2 hF hlt hNS hU Lx.nil ho)
      have HFin := Lib.hid hfin
      clear hX4 hS4 hF4 hP4 hfin
      by_cases h0 : 0 < u.length
      · obtain ⟨Au2, cu2, hvu2, _, hsi⟩ := hU4.si
        injection hvu2 with e1' _ e3'
        subst e1' e3'
        obtain ⟨gu, ou, hAu, hgu, hcl⟩ := hsi h0
        subst hAu
        obtain ⟨m, hm⟩ : ∃ m, u.length = m + 1 := ⟨u.length - 1, by omega⟩
        have kl := hcl m (by omega)
        rw [lastU_at hm] at kl
        have t0 : decide (0 < u.length) = true := by simp; omega
        clear hcl hsi hU4
        by_cases hv2 : 65535 < lastU u + hv - lv
        · have hb : bfB ⟨ln, lv⟩ ⟨hn, hv⟩ u = true := by unfold bfB; rw [t0]; simpa using hv2
          have d1 : decide ((65535 : Int) < lastU u + hv - lv) = true := by simp; omega
          have hE := HE.out
          rw [hb] at hE
          have HE2 := Lib.hid hE
          clear hb hE HE hv2
          generalize lastU u = z at *
          generalize u.length = nl at *
          subst hm
          go_wp2
          go_quiet (fail)
          go_wp2_with fail
          refine (pfail_any (HP4.out.drewN _) at_ 7).mono ?_
          rintro r w5 ⟨rfl, hq5, hf5⟩
          simp only [fA_t] at hq5
          have hX5 := (HX4.out.over (below_drewN (Below.refl _ _) _)).fr hf5 (by omega)
          have hS5 := (HS4.out.over (below_drewN (Below.refl _ _) _)).fr hf5 (by omega)
          have hF5 := (HF4.out.drewN _).trans hf5
          have hU5 := (HU4.out.to (X' := fun b => b < g2) (Kp.of_below (below_drewN (Below.refl _ _) _)) (fun _ _ h => h)).to (X' := fun b => b < g2) (Kp.of_fr hf5 (fun _ => by omega)) (fun _ _ h => h)
          have HFn := Lib.hid (HFin.out w5 _ _ hS5 hq5 hF5 hU5 HE2.out)
          clear y0 y1 y2 y3 y4 y5 y6
          obtain ⟨y0, y1, y2, y3, y4, y5, y6, _, _⟩ := hX5
          obtain ⟨s0, s1, s2, s3, s4, s5, s6, sz, _⟩ := hS5
          have sz0 := sz 0 (by decide)
          have sz1 := sz 1 (by decide)
          have sz2 := sz 2 (by decide)
          have sz3 := sz 3 (by decide)
          have sz4 := sz 4 (by decide)
          have sz5 := sz 5 (by decide)
          have sz6 := sz 6 (by decide)
          clear sz hq5 hf5 hF5 hU5
          go_wp2_with (with_reducible exact HFn.out _ rfl rfl)
        · have hb : bfB ⟨ln, lv⟩ ⟨hn, hv⟩ u = false := by unfold bfB; rw [t0]; simpa using hv2
          have d1 : decide ((65535 : Int) < lastU u + hv - lv) = false := by simp; omega
          have hE := HE.out
          rw [hb, fA_no, fE_no] at hE
          have HE2 := Lib.hid hE
          clear hb hE HE hv2
          generalize lastU u = z at *
          generalize u.length = nl at *
          subst hm
          have hfn : ∀ m', _ := fun m' => HFin.out (w4.drewN m') _ _ (HS4.out.over (below_drewN (Below.refl _ _) _)) (HP4.out.drewN _) (HF4.out.drewN _) (HU4.out.to (X' := fun b => b < g2) (Kp.of_below (below_drewN (Below.refl _ _) _)) (fun _ _ h => h)) HE2.out
          have HFn := Lib.hid hfn
          obtain ⟨s0, s1, s2, s3, s4, s5, s6, sz, _⟩ := id HS4.out
          have sz0 := sz 0 (by decide)
          have sz1 := sz 1 (by decide)
          have sz2 := sz 2 (by decide)
          have sz3 := sz 3 (by decide)
          have sz4 := sz 4 (by decide)
          have sz5 := sz 5 (by decide)
          have sz6 := sz 6 (by decide)
          clear sz hfn
          go_wp2
          go_quiet (fail)
          go_wp2_with (with_reducible exact HFn.out _ _ rfl rfl)
      · have t0 : decide (0 < u.length) = false := decide_eq_false h0
        have hb : bfB ⟨ln, lv⟩ ⟨hn, hv⟩ u = false := by unfold bfB; rw [t0]; rfl
        have hE := HE.out
        rw [hb, fA_no, fE_no] at hE
        have HE2 := Lib.hid hE
        clear hb hE HE hU4
        generalize u.length = nl at *
        have hfn : ∀ m', _ := fun m' => HFin.out (w4.drewN m') _ _ (HS4.out.over (below_drewN (Below.refl _ _) _)) (HP4.out.drewN _) (HF4.out.drewN _) (HU4.out.to (X' := fun b => b < g2) (Kp.of_below (below_drewN (Below.refl _ _) _)) (fun _ _ h => h)) HE2.out
        have HFn := Lib.hid hfn
        obtain ⟨s0, s1, s2, s3, s4, s5, s6, sz, _⟩ := id HS4.out
        have sz0 := sz 0 (by decide)
        have sz1 := sz 1 (by decide)
        have sz2 := sz 2 (by decide)
        have sz3 := sz 3 (by decide)
        have sz4 := sz 4 (by decide)
        have sz5 := sz 5 (by decide)
        have sz6 := sz 6 (by decide)
        clear sz hfn
        go_wp2
        go_quiet (fail)
        go_wp2_with (with_reducible exact HFn.out _ _ rfl rfl)
    · subst hAe
      have hbw : b < wa.heap.size := by have := HQ.out.lt; omega
      have hil : i1 < L.length := by simpa using ti
      go_wp2
      go_quiet (fail)
      go_wp2_with fail
      refine (HTk.out _ (below_drewN (Below.refl _ _) _)).mono ?_
      rintro r w2 ⟨t, i2, a2, e2, rfl, hq2, hi2, hts, hf2, hoc2⟩
      have HE := Lib.hid (bf_unit_oc HO.out HAt.out hoc2)
      have hX2 := (HX.out.over (below_drewN (Below.refl _ _) _)).fr hf2 (by omega)
      have hS2 := (HS.out.over (below_drewN (Below.refl _ _) _)).fr hf2 (by omega)
      have hF2 := (HF.out.drewN _).trans hf2
      have hsz2 := hf2.size
      have m1 := (hf2.cell ⟨g, 1, none⟩ (show g < wa.heap.size by omega) (show g ≠ P by omega)).trans k1
      have m3 := (hf2.cell ⟨g + 1, 1, none⟩ (show g + 1 < wa.heap.size by omega) (show g + 1 ≠ P by omega)).trans k3
      clear HTk HQ HX HS HF c0 c1 c4 k1 k3 hoc2 hf2
      have hbT : Below w2.heap.size w2 (w2.alloc (.cells #[.int .i64 t.kind, .int .i64 t.at_, .int .i64 t.n, .string (str t.s)] 42)) := (Below.refl _ _).alloc (Nat.le_refl _) _
      have hq2' := hq2.over hbT
      have hX2' := hX2.over hbT
      have hS2' := hS2.over hbT
      have hF2' := hF2.over hbT
      have hsw : wa.heap.size ≤ w2.heap.size := by simpa using hsz2
      have m1' := (hbT.cell (p := ⟨g, 1, none⟩) (show g < w2.heap.size by omega)).trans m1
      have m3' := (hbT.cell (p := ⟨g + 1, 1, none⟩) (show g + 1 < w2.heap.size by omega)).trans m3
      have m5' : (w2.alloc (.cells #[.int .i64 t.kind, .int .i64 t.at_, .int .i64 t.n, .string (str t.s)] 42)).cell? ⟨w2.heap.size, 1, none⟩ = some (.int .i64 t.at_) := by simp
      have hU := punits_new hq2' t hts
      obtain ⟨kind, at_, n, s⟩ := t
      unfold tv at hU ⊢
      simp only at *
      have HU := Lib.hid hU
      clear hU hq2 hX2 hS2 hF2 m1 m3 hq2' hbT
      have hz0 := lastU_low s
      have hus : (units s).length ≤ 1048576 := by rw [units_length]; omega
      have hz1 := lastU_top s
      go_wp2_with fail
      refine HU.out.mono ?_
      rintro r w3 ⟨vu, rfl, hux, hq3, hf3⟩
      clear HU
      obtain ⟨a3, ha3⟩ : ∃ a3, a3 = (if unitsT ⟨kind, at_, n, s⟩ = none ∧ e2 = 0 then at_ else a2) := ⟨_, rfl⟩
      obtain ⟨e3, he3⟩ : ∃ e3, e3 = (if unitsT ⟨kind, at_, n, s⟩ = none ∧ e2 = 0 then (3 : Int) else e2) := ⟨_, rfl⟩
      rw [← ha3, ← he3] at hq3 HE
      clear ha3 he3
      generalize units s = u at *
      obtain ⟨Au, cu, hvu, hcu, _⟩ := hux.si
      subst hvu
      have hX3 := hX2'.fr hf3 (by omega)
      have hS3 := hS2'.fr hf3 (by omega)
      have hF3 := hF2'.trans hf3
      have n1 := (hf3.cell ⟨g, 1, none⟩ (by simp; omega) (show g ≠ P by omega)).trans m1'
      have n3 := (hf3.cell ⟨g + 1, 1, none⟩ (by simp; omega) (show g + 1 ≠ P by omega)).trans m3'
      have n5 := (hf3.cell ⟨w2.heap.size, 1, none⟩ (by simp) (show w2.heap.size ≠ P by omega)).trans m5'
      have x5 := hX3.c5
      have z5 := hX3.z 5 (by decide)
      have hX4 := hX3.put5 (.slice Au u.length cu)
      have hS4 := hS3.other (Y := g + 1 + 1) (by omega) 5 (.slice Au u.length cu)
      have hF4 := hF3.far (S := g + 1 + 1) (by omega) 5 (.slice Au u.length cu)
      have hP4 := hq3.far (S := g + 1 + 1) (by omega) 5 (.slice Au u.length cu)
      have hU4 := hux.to (X' := fun b => b < w2.heap.size) (Kp.of_fr ((Fr.refl w3 (g + 1 + 1)).set 5 (.slice Au u.length cu)) (fun _ => by simp; omega)) (fun b _ h => by have : b < w2.heap.size := h; simp; omega)
      have o1 := (World.cell?_setCell_far w3 ⟨g + 1 + 1, 5, none⟩ ⟨g, 1, none⟩ (.slice Au u.length cu) (by show g + 1 + 1 ≠ g; omega)).trans n1
      have o3 := (World.cell?_setCell_far w3 ⟨g + 1 + 1, 5, none⟩ ⟨g + 1, 1, none⟩ (.slice Au u.length cu) (by show g + 1 + 1 ≠ g + 1; omega)).trans n3
      have o5 := (World.cell?_setCell_far w3 ⟨g + 1 + 1, 5, none⟩ ⟨w2.heap.size, 1, none⟩ (.slice Au u.length cu) (by show g + 1 + 1 ≠ w2.heap.size; omega)).trans n5
      clear hX3 hS3 hF3 hux hq3 hf3 n1 n3 n5 m1' m3' m5' hX2' hS2' hF2'
      go_wp2
      generalize w3.setCell ⟨g + 1 + 1, 5, none⟩ (.slice Au u.length cu) = w4 at *
      clear x5 z5
      generalize w2.heap.size = g2 at *
      obtain ⟨y0, y1, y2, y3, y4, y5, y6, _, hXl⟩ := id hX4
      have HX4 := Lib.hid hX4
      have HS4 := Lib.hid hS4
      have HF4 := Lib.hid hF4
      have HP4 := Lib.hid hP4
      have HU4 := Lib.hid hU4
      have hNS : w.heap.size < g2 := by omega
      have hfin : ∀ (wE : World) (aE eE : Int), Eb wE w.heap.size (.int .i64 0) (.int .i64 0) (.int .i64 0) (.int .i64 0) (.int .i64 0) (.slice none 0 0) (.slice none 0 0) → Ps wE P (some ⟨b, o, none⟩) c L i2 en aE eE → Fr w wE P → Ux wE (fun b => b < g2) (.slice Au u.length cu) u → Oc (entT L en 7 i) (fun _ => True) i a e (⟨⟨ln, lv⟩, ⟨hn, hv⟩, 0, u, []⟩ : En) i2 aE eE → ∀ (act : Act), act.defers = [] → act.tmps[2]?.getD undef = .pointer (some ⟨w.heap.size, 0, none⟩) → bodyPost Tryz.prog Tryz.f77 (Pe w P (some ⟨b, o, none⟩) c L en 7 i a e) .ret act (put7 wE w.heap.size (.int .i64 ln) (.int .i64 lv) (.int .i64 hn) (.int .i64 hv) (.int .i64 0) (.slice Au u.length cu) (.slice none 0 0)) := fun wE aE eE hS hP hF hU ho act hd h2 => pent_ret Tryz.results77 hd h2 hS (pe_put (lo := ⟨ln, lv⟩) (hi := ⟨hn, hv⟩) hP hi2 hF hlt hNS hU Lx.nil ho)
      have HFin := Lib.hid hfin
      clear hX4 hS4 hF4 hP4 hfin
      by_cases h0 : 0 < u.length
      · obtain ⟨Au2, cu2, hvu2, _, hsi⟩ := hU4.si
        injection hvu2 with e1' _ e3'
        subst e1' e3'
        obtain ⟨gu, ou, hAu, hgu, hcl⟩ := hsi h0
        subst hAu
        obtain ⟨m, hm⟩ : ∃ m, u.length = m + 1 := ⟨u.length - 1, by omega⟩
        have kl := hcl m (by omega)
        rw [lastU_at hm] at kl
        have t0 : decide (0 < u.length) = true := by simp; omega
        clear hcl hsi hU4
        by_cases hv2 : 65535 < lastU u + hv - lv
        · have hb : bfB ⟨ln, lv⟩ ⟨hn, hv⟩ u = true := by unfold bfB; rw [t0]; simpa using hv2
          have d1 : decide ((65535 : Int) < lastU u + hv - lv) = true := by simp; omega
          have hE := HE.out
          rw [hb] at hE
          have HE2 := Lib.hid hE
          clear hb hE HE hv2
          generalize lastU u = z at *
          generalize u.length = nl at *
          subst hm
          go_wp2
          go_quiet (fail)
          go_wp2_with fail
          refine (pfail_any (HP4.out.drewN _) at_ 7).mono ?_
          rintro r w5 ⟨rfl, hq5, hf5⟩
          simp only [fA_t] at hq5
          have hX5 := (HX4.out.over (below_drewN (Below.refl _ _) _)).fr hf5 (by omega)
          have hS5 := (HS4.out.over (below_drewN (Below.refl _ _) _)).fr hf5 (by omega)
          have hF5 := (HF4.out.drewN _).trans hf5
          have hU5 := (HU4.out.to (X' := fun b => b < g2) (Kp.of_below (below_drewN (Below.refl _ _) _)) (fun _ _ h => h)).to (X' := fun b => b < g2) (Kp.of_fr hf5 (fun _ => by omega)) (fun _ _ h => h)
          have HFn := Lib.hid (HFin.out w5 _ _ hS5 hq5 hF5 hU5 HE2.out)
          clear y0 y1 y2 y3 y4 y5 y6
          obtain ⟨y0, y1, y2, y3, y4, y5, y6, _, _⟩ := hX5
          obtain ⟨s0, s1, s2, s3, s4, s5, s6, sz, _⟩ := hS5
          have sz0 := sz 0 (by decide)
          have sz1 := sz 1 (by decide)
          have sz2 := sz 2 (by decide)
          have sz3 := sz 3 (by decide)
          have sz4 := sz 4 (by decide)
          have sz5 := sz 5 (by decide)
          have sz6 := sz 6 (by decide)
          clear sz hq5 hf5 hF5 hU5
          go_wp2_with (with_reducible exact HFn.out _ rfl rfl)
        · have hb : bfB ⟨ln, lv⟩ ⟨hn, hv⟩ u = false := by unfold bfB; rw [t0]; simpa using hv2
          have d1 : decide ((65535 : Int) < lastU u + hv - lv) = false := by simp; omega
          have hE := HE.out
          rw [hb, fA_no, fE_no] at hE
          have HE2 := Lib.hid hE
          clear hb hE HE hv2
          generalize lastU u = z at *
          generalize u.length = nl at *
          subst hm
          have hfn : ∀ m', _ := fun m' => HFin.out (w4.drewN m') _ _ (HS4.out.over (below_drewN (Below.refl _ _) _)) (HP4.out.drewN _) (HF4.out.drewN _) (HU4.out.to (X' := fun b => b < g2) (Kp.of_below (below_drewN (Below.refl _ _) _)) (fun _ _ h => h)) HE2.out
          have HFn := Lib.hid hfn
          obtain ⟨s0, s1, s2, s3, s4, s5, s6, sz, _⟩ := id HS4.out
          have sz0 := sz 0 (by decide)
          have sz1 := sz 1 (by decide)
          have sz2 := sz 2 (by decide)
          have sz3 := sz 3 (by decide)
          have sz4 := sz 4 (by decide)
          have sz5 := sz 5 (by decide)
          have sz6 := sz 6 (by decide)
          clear sz hfn
          go_wp2
          go_quiet (fail)
          go_wp2_with (with_reducible exact HFn.out _ _ rfl rfl)
      · have t0 : decide (0 < u.length) = false := decide_eq_false h0
        have hb : bfB ⟨ln, lv⟩ ⟨hn, hv⟩ u = false := by unfold bfB; rw [t0]; rfl
        have hE := HE.out
        rw [hb, fA_no, fE_no] at hE
        have HE2 := Lib.hid hE
        clear hb hE HE hU4
        generalize u.length = nl at *
        have hfn : ∀ m', _ := fun m' => HFin.out (w4.drewN m') _ _ (HS4.out.over (below_drewN (Below.refl _ _) _)) (HP4.out.drewN _) (HF4.out.drewN _) (HU4.out.to (X' := fun b => b < g2) (Kp.of_below (below_drewN (Below.refl _ _) _)) (fun _ _ h => h)) HE2.out
        have HFn := Lib.hid hfn
        obtain ⟨s0, s1, s2, s3, s4, s5, s6, sz, _⟩ := id HS4.out
        have sz0 := sz 0 (by decide)
        have sz1 := sz 1 (by decide)
        have sz2 := sz 2 (by decide)
        have sz3 := sz 3 (by decide)
        have sz4 := sz 4 (by decide)
        have sz5 := sz 5 (by decide)
        have sz6 := sz 6 (by decide)
        clear sz hfn
        go_wp2
        go_quiet (fail)
        go_wp2_with (with_reducible exact HFn.out _ _ rfl rfl)
end
end Go.Proofs.YthcnjiigkmljnaaGreatDoor
