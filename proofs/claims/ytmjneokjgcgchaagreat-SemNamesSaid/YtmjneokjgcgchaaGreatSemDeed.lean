/-
  Which closures a kind of item has; the closure of definitions; those that do nothing.
-/
import Derived.Test.YtmjneokjgcgchaaGreatSemDef
import Derived.Laws.EntriesVeiled
namespace Go.Proofs.YtmjneokjgcgchaaGreat
open Go.RowKit

@[go_sem] theorem bldDeed (F G : Fn) (a b c d : Array Value) (w : World) : (Instr.build 80 #[(0, .func F a b), (1, .func G c d)]).run Tryz.prog w = .ok (.agg #[.func F a b, .func G c d]) w := run_build w 80 _ _ (by kernel_rfl)
@[go_sem] theorem fldDeed0 (F G : Fn) (a b c d : Array Value) (w : World) : (Instr.field 80 (.agg #[.func F a b, .func G c d]) 0).run Tryz.prog w = .ok (.func F a b) w := by kernel_rfl
@[go_sem] theorem fldDeed1 (F G : Fn) (a b c d : Array Value) (w : World) : (Instr.field 80 (.agg #[.func F a b, .func G c d]) 1).run Tryz.prog w = .ok (.func G c d) w := by kernel_rfl
theorem lst_def {p : Pg} {x : Im} (h : x.kind = 0) : lstI p x = defI p x.name x.val := by
  have e1 : ¬ x.kind = 2 := by omega
  have e2 : ¬ (x.kind = 3 ∨ x.kind = 4) := by omega
  have e3 : ¬ (x.kind = 5 ∨ x.kind = 6) := by omega
  have e4 : ¬ (x.kind = 7 ∨ x.kind = 8) := by omega
  unfold lstI defI nmI wmI
  rw [if_neg e1, if_neg e2, if_neg e3, if_neg e4]
  congr 1
  · by_cases k : x.name = cmN ∧ x.val.kind = 2
    · rw [if_pos k, if_pos ⟨h, k⟩]; rfl
    · rw [if_neg k, if_neg (fun q : _ ∧ _ => k q.2)]; rfl
  · by_cases k : x.name = wmN ∧ x.val.kind = 1 ∧ (x.val.n = 0 ∨ x.val.n = 1)
    · rw [if_pos k, if_pos ⟨h, k⟩]; rfl
    · rw [if_neg k, if_neg (fun q : _ ∧ _ => k q.2)]; rfl
theorem lst_else {p : Pg} {x : Im} (h : x.kind = 1 ∨ x.kind < 0 ∨ 8 < x.kind) : lstI p x = p := by
  have e0 : ¬ x.kind = 0 := by omega
  have e1 : ¬ x.kind = 2 := by omega
  have e2 : ¬ (x.kind = 3 ∨ x.kind = 4) := by omega
  have e3 : ¬ (x.kind = 5 ∨ x.kind = 6) := by omega
  have e4 : ¬ (x.kind = 7 ∨ x.kind = 8) := by omega
  unfold lstI nmI wmI
  rw [if_neg e1, if_neg e2, if_neg e3, if_neg e4, if_neg (fun q : _ ∧ _ => e0 q.1), if_neg (fun q : _ ∧ _ => e0 q.1)]
  rfl
theorem Lsd.of {w0 w w1 : World} {T : Nat} {o : To} {G : Pg} {e : Ending} {w' : World} (hb : Below w.heap.size w w1) (h : Lsd w0 w1 T o G e w') : Lsd w0 w T o G e w' := by
  obtain ⟨h1, t', a', o', h2, h3, h4⟩ := h
  exact ⟨h1, t', a', o', h2, h3, fun k hk n0 n1 n2 n3 n4 => (h4 k (Nat.lt_of_lt_of_le hk hb.size) n0 n1 n2 n3 n4).trans (hb.block k hk)⟩
theorem Lsd1.of {w0 w w1 : World} {T : Nat} {t : Tb} {a : Ta} {o : To} {G : Pg} {e : Ending} {w' : World} (hb : Below w.heap.size w w1) (h : Lsd1 w0 w1 T t a o G e w') : Lsd1 w0 w T t a o G e w' := by
  obtain ⟨h1, t', h2, h5, h3, h4⟩ := h
  exact ⟨h1, t', h2, h5, h3, fun k hk n0 n1 n2 n3 n4 => (h4 k (Nat.lt_of_lt_of_le hk hb.size) n0 n1 n2 n3 n4).trans (hb.block k hk)⟩
set_option maxRecDepth 100000 in
set_option maxHeartbeats 4000000 in
theorem lstD_same {w0 w : World} {T P : Nat} {t : Tb} {a : Ta} {o : To} {x : Im} {xA : Option Addr} {xn xc : Nat} (h : St w0 w T t a o) (hP : Pk w P T) (hk : x.kind = 0) :
    Calls Tryz.prog 67 #[itv x xA xn xc, .pointer (some ⟨P, 0, none⟩)] w (Lsd1 w0 w T t a o (lstI (Tp t) x)) := by
  rw [lst_def hk]
  have hb1 : Below w.heap.size w (w.alloc (.cells #[.int .i64 x.kind, .int .i64 x.at_, .string (str x.name), .int .i64 x.val.kind, .int .i64 x.val.at_, .int .i64 x.val.n, .string (str x.val.s), .slice xA xn xc] 40)) := (Below.refl _ _).alloc (Nat.le_refl _) _
  have K := Lib.hid (define_same (h.below hb1) x.name x.val)
  have hp := Pk.cell ((hb1.block P (Array.getElem?_eq_some_iff.1 hP).1).trans hP)
  have HB := Lib.hid hb1
  clear h hP hk hb1
  unfold itv
  go_enter Tryz.func67, Tryz.ntmps67
  go_wp2_with (go_at_call 68; (with_reducible refine K.out.mono ?_); rintro e w2 ⟨rfl, hr⟩)
  go_end0
  exact Lsd1.of HB.out ⟨rfl, hr⟩
theorem lstD_any {w0 w : World} {T P : Nat} {t : Tb} {a : Ta} {o : To} {x : Im} {xA : Option Addr} {xn xc : Nat} (h : St w0 w T t a o) (hP : Pk w P T) (hk : x.kind = 0) :
    Calls Tryz.prog 67 #[itv x xA xn xc, .pointer (some ⟨P, 0, none⟩)] w (Lsd w0 w T o (lstI (Tp t) x)) := (lstD_same h hP hk).mono fun _ _ q => q.lsd
set_option maxRecDepth 100000 in
theorem lstN_same {w0 w : World} {T : Nat} {t : Tb} {a : Ta} {o : To} {x : Im} {xA : Option Addr} {xn xc : Nat} (h : St w0 w T t a o) (hk : x.kind = 1 ∨ x.kind < 0 ∨ 8 < x.kind) :
    Calls Tryz.prog 83 #[itv x xA xn xc] w (Lsd1 w0 w T t a o (lstI (Tp t) x)) := by
  rw [lst_else hk]
  have hb1 : Below w.heap.size w (w.alloc (.cells #[.int .i64 x.kind, .int .i64 x.at_, .string (str x.name), .int .i64 x.val.kind, .int .i64 x.val.at_, .int .i64 x.val.n, .string (str x.val.s), .slice xA xn xc] 40)) := (Below.refl _ _).alloc (Nat.le_refl _) _
  have H := Lib.hid (h.below hb1)
  have HB := Lib.hid hb1
  clear h hk hb1
  unfold itv
  go_enter Tryz.func83, Tryz.ntmps83
  go_wp2
  go_end0
  exact ⟨rfl, _, rfl, ⟨rfl, rfl, rfl, rfl⟩, H.out, fun k hk _ _ _ _ _ => HB.out.block k hk⟩
theorem lstN_any {w0 w : World} {T : Nat} {t : Tb} {a : Ta} {o : To} {x : Im} {xA : Option Addr} {xn xc : Nat} (h : St w0 w T t a o) (hk : x.kind = 1 ∨ x.kind < 0 ∨ 8 < x.kind) :
    Calls Tryz.prog 83 #[itv x xA xn xc] w (Lsd w0 w T o (lstI (Tp t) x)) := (lstN_same h hk).mono fun _ _ q => q.lsd
theorem jnD_same {w : World} {B T : Nat} {t : Tb} {a : Ta} {k : Int} (h : Rtb w B T t a) (hk : k = 0) : Calls Tryz.prog 69 #[] w (fun e w' => e = .returned (.tuple #[]) ∧ Rtb w' B T t a ∧ Fj w w' T) := by
  have H := Lib.hid h
  have HK := Lib.hid hk
  clear h hk
  go_enter Tryz.func69, Tryz.ntmps69
  go_wp2
  go_end0
  exact ⟨rfl, H.out, Fj.refl _ _⟩
theorem jnD_any {w : World} {B T : Nat} {t : Tb} {a : Ta} {k : Int} (h : Rtb w B T t a) (hk : k = 0) : Calls Tryz.prog 69 #[] w (Jnd w B T k t) := (jnD_same h hk).mono fun _ _ q => ⟨q.1, t, a, blt_none (by omega), q.2.1, q.2.2, fun e => absurd e (by omega)⟩
theorem jnN_same {w : World} {B T : Nat} {t : Tb} {a : Ta} {k : Int} (h : Rtb w B T t a) (hk : k < 2 ∨ 8 < k) : Calls Tryz.prog 84 #[] w (fun e w' => e = .returned (.tuple #[]) ∧ Rtb w' B T t a ∧ Fj w w' T) := by
  have H := Lib.hid h
  have HK := Lib.hid hk
  clear h hk
  go_enter Tryz.func84, Tryz.ntmps84
  go_wp2
  go_end0
  exact ⟨rfl, H.out, Fj.refl _ _⟩
theorem jnN_any {w : World} {B T : Nat} {t : Tb} {a : Ta} {k : Int} (h : Rtb w B T t a) (hk : k < 2 ∨ 8 < k) : Calls Tryz.prog 84 #[] w (Jnd w B T k t) := (jnN_same h hk).mono fun _ _ q => ⟨q.1, t, a, blt_none (by omega), q.2.1, q.2.2, fun e => absurd e (by omega)⟩
/-- The closures of a kind. -/
def DdD (w : World) (T : Nat) (e : Ending) (w' : World) : Prop := ∃ P, e = .returned (.agg #[.func (.func 67) #[] #[.pointer (some ⟨P, 0, none⟩)], .func (.func 69) #[] #[]]) ∧ Pk w' P T ∧ w.heap.size ≤ P ∧ Below w.heap.size w w'
set_option maxRecDepth 100000 in
set_option maxHeartbeats 1000000 in
theorem deedD_any (T : Nat) (k : Int) (hk : k = 0) (w : World) : Calls Tryz.prog 37 #[.pointer (some ⟨T, 0, none⟩), .int .i64 k] w (DdD w T) := by
  have HP : Hid (Pk ((w.alloc (.cells #[.pointer (some ⟨T, 0, none⟩)] 82)).alloc (.cells #[.func (.func 67) #[] #[.pointer (some ⟨w.heap.size, 0, none⟩)], .func (.func 69) #[] #[]] 80)) w.heap.size T) := Lib.hid ((Below.heap_alloc _ _ _ (by simp)).trans (heap_alloc_new w _))
  have HB : Hid (Below w.heap.size w ((w.alloc (.cells #[.pointer (some ⟨T, 0, none⟩)] 82)).alloc (.cells #[.func (.func 67) #[] #[.pointer (some ⟨w.heap.size, 0, none⟩)], .func (.func 69) #[] #[]] 80))) := Lib.hid (((Below.refl _ _).alloc (Nat.le_refl _) _).alloc (by simp) _)
  subst hk
  go_enter Tryz.func37, Tryz.ntmps37
  go_wp2
  refine bodyPost_ret (v := _) (by simp [results, Tryz.results37, go_sem]; try rfl) rfl ⟨w.heap.size, rfl, HP.out, Nat.le_refl _, HB.out⟩
/-- The closures of a kind. -/
def Dd0 (w : World) (T : Nat) (e : Ending) (w' : World) : Prop := ∃ P, e = .returned (.agg #[.func (.func 70) #[] #[.pointer (some ⟨P, 0, none⟩)], .func (.func 72) #[] #[.pointer (some ⟨P, 0, none⟩)]]) ∧ Pk w' P T ∧ w.heap.size ≤ P ∧ Below w.heap.size w w'
set_option maxRecDepth 100000 in
set_option maxHeartbeats 1000000 in
theorem deed0_any (T : Nat) (k : Int) (hk : k = 2) (w : World) : Calls Tryz.prog 37 #[.pointer (some ⟨T, 0, none⟩), .int .i64 k] w (Dd0 w T) := by
  have HP : Hid (Pk ((w.alloc (.cells #[.pointer (some ⟨T, 0, none⟩)] 82)).alloc (.cells #[.func (.func 70) #[] #[.pointer (some ⟨w.heap.size, 0, none⟩)], .func (.func 72) #[] #[.pointer (some ⟨w.heap.size, 0, none⟩)]] 80)) w.heap.size T) := Lib.hid ((Below.heap_alloc _ _ _ (by simp)).trans (heap_alloc_new w _))
  have HB : Hid (Below w.heap.size w ((w.alloc (.cells #[.pointer (some ⟨T, 0, none⟩)] 82)).alloc (.cells #[.func (.func 70) #[] #[.pointer (some ⟨w.heap.size, 0, none⟩)], .func (.func 72) #[] #[.pointer (some ⟨w.heap.size, 0, none⟩)]] 80))) := Lib.hid (((Below.refl _ _).alloc (Nat.le_refl _) _).alloc (by simp) _)
  subst hk
  go_enter Tryz.func37, Tryz.ntmps37
  go_wp2
  refine bodyPost_ret (v := _) (by simp [results, Tryz.results37, go_sem]; try rfl) rfl ⟨w.heap.size, rfl, HP.out, Nat.le_refl _, HB.out⟩
/-- The closures of a kind. -/
def Dd1 (w : World) (T : Nat) (e : Ending) (w' : World) : Prop := ∃ P, e = .returned (.agg #[.func (.func 73) #[] #[.pointer (some ⟨P, 0, none⟩)], .func (.func 75) #[] #[.pointer (some ⟨P, 0, none⟩)]]) ∧ Pk w' P T ∧ w.heap.size ≤ P ∧ Below w.heap.size w w'
set_option maxRecDepth 100000 in
set_option maxHeartbeats 1000000 in
theorem deed1_any (T : Nat) (k : Int) (hk : k = 3 ∨ k = 4) (w : World) : Calls Tryz.prog 37 #[.pointer (some ⟨T, 0, none⟩), .int .i64 k] w (Dd1 w T) := by
  have HP : Hid (Pk ((w.alloc (.cells #[.pointer (some ⟨T, 0, none⟩)] 82)).alloc (.cells #[.func (.func 73) #[] #[.pointer (some ⟨w.heap.size, 0, none⟩)], .func (.func 75) #[] #[.pointer (some ⟨w.heap.size, 0, none⟩)]] 80)) w.heap.size T) := Lib.hid ((Below.heap_alloc _ _ _ (by simp)).trans (heap_alloc_new w _))
  have HB : Hid (Below w.heap.size w ((w.alloc (.cells #[.pointer (some ⟨T, 0, none⟩)] 82)).alloc (.cells #[.func (.func 73) #[] #[.pointer (some ⟨w.heap.size, 0, none⟩)], .func (.func 75) #[] #[.pointer (some ⟨w.heap.size, 0, none⟩)]] 80))) := Lib.hid (((Below.refl _ _).alloc (Nat.le_refl _) _).alloc (by simp) _)
  rcases hk with rfl | rfl
  · go_enter Tryz.func37, Tryz.ntmps37
    go_wp2
    refine bodyPost_ret (v := _) (by simp [results, Tryz.results37, go_sem]; try rfl) rfl ⟨w.heap.size, rfl, HP.out, Nat.le_refl _, HB.out⟩
  · go_enter Tryz.func37, Tryz.ntmps37
    go_wp2
    refine bodyPost_ret (v := _) (by simp [results, Tryz.results37, go_sem]; try rfl) rfl ⟨w.heap.size, rfl, HP.out, Nat.le_refl _, HB.out⟩
/-- The closures of a kind. -/
def Dd2 (w : World) (T : Nat) (e : Ending) (w' : World) : Prop := ∃ P, e = .returned (.agg #[.func (.func 77) #[] #[.pointer (some ⟨P, 0, none⟩)], .func (.func 78) #[] #[.pointer (some ⟨P, 0, none⟩)]]) ∧ Pk w' P T ∧ w.heap.size ≤ P ∧ Below w.heap.size w w'
set_option maxRecDepth 100000 in
set_option maxHeartbeats 1000000 in
theorem deed2_any (T : Nat) (k : Int) (hk : k = 5 ∨ k = 6) (w : World) : Calls Tryz.prog 37 #[.pointer (some ⟨T, 0, none⟩), .int .i64 k] w (Dd2 w T) := by
  have HP : Hid (Pk ((w.alloc (.cells #[.pointer (some ⟨T, 0, none⟩)] 82)).alloc (.cells #[.func (.func 77) #[] #[.pointer (some ⟨w.heap.size, 0, none⟩)], .func (.func 78) #[] #[.pointer (some ⟨w.heap.size, 0, none⟩)]] 80)) w.heap.size T) := Lib.hid ((Below.heap_alloc _ _ _ (by simp)).trans (heap_alloc_new w _))
  have HB : Hid (Below w.heap.size w ((w.alloc (.cells #[.pointer (some ⟨T, 0, none⟩)] 82)).alloc (.cells #[.func (.func 77) #[] #[.pointer (some ⟨w.heap.size, 0, none⟩)], .func (.func 78) #[] #[.pointer (some ⟨w.heap.size, 0, none⟩)]] 80))) := Lib.hid (((Below.refl _ _).alloc (Nat.le_refl _) _).alloc (by simp) _)
  rcases hk with rfl | rfl
  · go_enter Tryz.func37, Tryz.ntmps37
    go_wp2
    refine bodyPost_ret (v := _) (by simp [results, Tryz.results37, go_sem]; try rfl) rfl ⟨w.heap.size, rfl, HP.out, Nat.le_refl _, HB.out⟩
  · go_enter Tryz.func37, Tryz.ntmps37
    go_wp2
    refine bodyPost_ret (v := _) (by simp [results, Tryz.results37, go_sem]; try rfl) rfl ⟨w.heap.size, rfl, HP.out, Nat.le_refl _, HB.out⟩
/-- The closures of a kind. -/
def Dd3 (w : World) (T : Nat) (e : Ending) (w' : World) : Prop := ∃ P, e = .returned (.agg #[.func (.func 79) #[] #[.pointer (some ⟨P, 0, none⟩)], .func (.func 81) #[] #[.pointer (some ⟨P, 0, none⟩)]]) ∧ Pk w' P T ∧ w.heap.size ≤ P ∧ Below w.heap.size w w'
set_option maxRecDepth 100000 in
set_option maxHeartbeats 1000000 in
theorem deed3_any (T : Nat) (k : Int) (hk : k = 7 ∨ k = 8) (w : World) : Calls Tryz.prog 37 #[.pointer (some ⟨T, 0, none⟩), .int .i64 k] w (Dd3 w T) := by
  have HP : Hid (Pk ((w.alloc (.cells #[.pointer (some ⟨T, 0, none⟩)] 82)).alloc (.cells #[.func (.func 79) #[] #[.pointer (some ⟨w.heap.size, 0, none⟩)], .func (.func 81) #[] #[.pointer (some ⟨w.heap.size, 0, none⟩)]] 80)) w.heap.size T) := Lib.hid ((Below.heap_alloc _ _ _ (by simp)).trans (heap_alloc_new w _))
  have HB : Hid (Below w.heap.size w ((w.alloc (.cells #[.pointer (some ⟨T, 0, none⟩)] 82)).alloc (.cells #[.func (.func 79) #[] #[.pointer (some ⟨w.heap.size, 0, none⟩)], .func (.func 81) #[] #[.pointer (some ⟨w.heap.size, 0, none⟩)]] 80))) := Lib.hid (((Below.refl _ _).alloc (Nat.le_refl _) _).alloc (by simp) _)
  rcases hk with rfl | rfl
  · go_enter Tryz.func37, Tryz.ntmps37
    go_wp2
    refine bodyPost_ret (v := _) (by simp [results, Tryz.results37, go_sem]; try rfl) rfl ⟨w.heap.size, rfl, HP.out, Nat.le_refl _, HB.out⟩
  · go_enter Tryz.func37, Tryz.ntmps37
    go_wp2
    refine bodyPost_ret (v := _) (by simp [results, Tryz.results37, go_sem]; try rfl) rfl ⟨w.heap.size, rfl, HP.out, Nat.le_refl _, HB.out⟩
/-- The closures of a kind. -/
def DdN (w : World) (T : Nat) (e : Ending) (w' : World) : Prop := ∃ P, e = .returned (.agg #[.func (.func 83) #[] #[], .func (.func 84) #[] #[]]) ∧ Pk w' P T ∧ w.heap.size ≤ P ∧ Below w.heap.size w w'
set_option maxRecDepth 100000 in
set_option maxHeartbeats 1000000 in
theorem deedN_any (T : Nat) (k : Int) (hk : k = 1 ∨ k < 0 ∨ 8 < k) (w : World) : Calls Tryz.prog 37 #[.pointer (some ⟨T, 0, none⟩), .int .i64 k] w (DdN w T) := by
  have HP : Hid (Pk ((w.alloc (.cells #[.pointer (some ⟨T, 0, none⟩)] 82)).alloc (.cells #[.func (.func 83) #[] #[], .func (.func 84) #[] #[]] 80)) w.heap.size T) := Lib.hid ((Below.heap_alloc _ _ _ (by simp)).trans (heap_alloc_new w _))
  have HB : Hid (Below w.heap.size w ((w.alloc (.cells #[.pointer (some ⟨T, 0, none⟩)] 82)).alloc (.cells #[.func (.func 83) #[] #[], .func (.func 84) #[] #[]] 80))) := Lib.hid (((Below.refl _ _).alloc (Nat.le_refl _) _).alloc (by simp) _)
  have b0 : (k == 0) = false := by simp; omega
  have b2 : (k == 2) = false := by simp; omega
  have b3 : (k == 3) = false := by simp; omega
  have b4 : (k == 4) = false := by simp; omega
  have b5 : (k == 5) = false := by simp; omega
  have b6 : (k == 6) = false := by simp; omega
  have b7 : (k == 7) = false := by simp; omega
  have b8 : (k == 8) = false := by simp; omega
  clear hk
  go_enter Tryz.func37, Tryz.ntmps37
  go_wp2
  refine bodyPost_ret (v := _) (by simp [results, Tryz.results37, go_sem]; try rfl) rfl ⟨w.heap.size, rfl, HP.out, Nat.le_refl _, HB.out⟩
end Go.Proofs.YtmjneokjgcgchaaGreat
