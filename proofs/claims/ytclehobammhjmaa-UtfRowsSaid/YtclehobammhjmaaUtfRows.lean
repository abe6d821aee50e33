/-
  The walk of the statement UtfRows.
-/
import Derived.Test.YtclehobammhjmaaUtfAwake
import Derived.Test.YtclehobammhjmaaRefRunes
import Derived.Laws.AppendOwnNone
import Derived.Deep.RegionHeld
import Derived.Deep.DrawnRows
namespace Go.Proofs.Ytclehobammhjmaa
open Go.RowKit
attribute [local go_sem ↓] Go.wp_at_zero Go.wp_at_succ

/-- A new, empty row. -/
theorem own_empty (w : World) (B : Nat) (e : TypeId) (hB : B ≤ w.heap.size) : (w.alloc (.cells #[] e)).ownsRow B e 1 (.slice (some ⟨w.heap.size, 0, none⟩) 0 0) ([] : List Int).length (ivs []) :=
  ⟨rfl, .inr ⟨w.heap.size, 0, #[], rfl, hB, heap_alloc_new w _, Nat.le_refl _, by unfold maxLen; omega, rfl, rfl⟩⟩

/-- append(dst, l...), dst of the call's own, whatever list l is (a nil one without room). -/
theorem app_list {P : Program} {w : World} {ops : Array Oper} {rest : List Oper} {o : Oper} {a : Act} {Q : Exit → Act → World → Prop} (hgd : o.guard = none) (s x : Operand) (t : TypeId)
    (ho : o.op = .call { callee := .builtin .append, args := #[s, x], argTypes := #[t, t] })
    (base : Nat) (e : TypeId) (i : TypeInfo) (ht : P.underlying t = some (.slice e)) (hi : P.info? e = some i) (hz : i.zero = some (.int .i64 0)) (hsize : i.size = 1) (hby : i.bytes = 8)
    (v : Value) (xs : List Int) (hs : a.eval s = v) (hown : w.ownsRow base e 1 v xs.length (ivs xs)) (B : Nat) (A : Option Addr) (c : Nat) (l : List Int) (hx : a.eval x = .slice A l.length c) (hA : Si w B A l) (hc : A = none → c = 0)
    (hl : xs.length + l.length ≤ 1048576) (hbase : base ≤ w.heap.size)
    (h : ∀ v' w', w'.ownsRow base e 1 v' (xs ++ l).length (ivs (xs ++ l)) → w.grownBy w' v.ownBlock → wpList P ops Q rest (a.put o.dst v') w') : wpList P ops Q (o :: rest) a w := by
  cases A with
  | none =>
    have hn : l = [] := by
      rcases Nat.eq_zero_or_pos l.length with h0 | h0
      · exact List.eq_nil_of_length_eq_zero h0
      · obtain ⟨b, o, e, _⟩ := hA h0
        cases e
    subst hn
    rw [hc rfl] at hx
    refine wpList_append_own_none hgd s x t ho base e i 1 ht hi v xs.length (ivs xs) hs hown hx ?_
    rw [List.append_nil] at h
    exact h v w hown (World.grownBy.refl w _)
  | some ad =>
    have hcell : ∀ j u, (ivs l)[j]? = some u → w.cell? (ad.add j) = some u := fun j u hu => by
      have hj : j < l.length := by
        rcases Nat.lt_or_ge j l.length with h | h
        · exact h
        · rw [List.getElem?_eq_none (by rw [ivs_length]; exact h)] at hu; cases hu
      obtain ⟨ad', e, hcs⟩ := hA.cells (by omega)
      injection e with e
      subst e
      exact hcs j u hu
    refine wpList_append_own w hgd s x t ho base e i (.int .i64 0) 1 8 ht hi hz hsize hby rfl (by omega) v xs.length (ivs xs) hs hown ad l.length c (ivs l) hx (by rw [ivs_length]; omega) hcell (ivs_one l) (by unfold maxLen; omega) (by omega) hbase fun v' w' h1 h2 _ => ?_
    rw [← ivs_append] at h1
    exact h v' w' (by rw [List.length_append]; exact h1) h2

set_option maxHeartbeats 1000000 in
theorem urows_long (A B : Option Addr) (c c' : Nat) (a b : List Int) (w : World) (hm : a.length ≤ maxLen) (hm' : b.length ≤ maxLen) (h : 150 < a.length ∨ 150 < b.length) :
    Calls Try.prog 7 #[.slice A a.length c, .slice B b.length c'] w fun e w' => e = .returned (.bool true) ∧ Below w.heap.size w w' := by
  unfold maxLen at hm hm'
  by_cases h1 : 150 < a.length
  · have d1 : decide ((150 : Int) < (a.length : Int)) = true := by simp; omega
    go_enter Try.func7, Try.ntmps7
    go_wp2_with fail
    refine (awake_any _).mono ?_
    rintro e w1 ⟨rfl, hb1⟩
    go_wp2
    go_ret
    exact ⟨rfl, hb1⟩
  · have d1 : decide ((150 : Int) < (a.length : Int)) = false := by simp; omega
    have d2 : decide ((150 : Int) < (b.length : Int)) = true := by simp; omega
    go_enter Try.func7, Try.ntmps7
    go_wp2_with fail
    refine (awake_any _).mono ?_
    rintro e w1 ⟨rfl, hb1⟩
    go_wp2
    go_ret
    exact ⟨rfl, hb1⟩

set_option maxRecDepth 100000 in
set_option maxHeartbeats 4000000 in
theorem urows_short (A B : Option Addr) (c c' : Nat) (a b : List Int) (w : World) (hA : Si w w.heap.size A a) (hB : Si w w.heap.size B b) (nA : A = none → c = 0) (nB : B = none → c' = 0) (h1 : a.length ≤ 150) (h2 : b.length ≤ 150) :
    Calls Try.prog 7 #[.slice A a.length c, .slice B b.length c'] w fun e w' => e = .returned (.bool true) ∧ Below w.heap.size w w' := by
  have d1 : decide ((150 : Int) < (a.length : Int)) = false := by simp; omega
  have d2 : decide ((150 : Int) < (b.length : Int)) = false := by simp; omega
  obtain ⟨i0, hi, hz0, hz1, hz2⟩ := info_parts info64
  have NA := Lib.hid nA
  have NB := Lib.hid nB
  have HA := Lib.hid hA
  have HB := Lib.hid hB
  have ea := enc16_length a
  have eb := enc16_length b
  have hEa : ∀ w', Below w.heap.size w w' → Calls Try.prog 15 #[.slice A a.length c] w' (RetSi w' (enc16 a)) := fun w' hb => Enc16_any A c a w' ((hA.below hb).more hb.size) (by omega)
  have hEb : ∀ w', Below w.heap.size w w' → Calls Try.prog 15 #[.slice B b.length c'] w' (RetSi w' (enc16 b)) := fun w' hb => Enc16_any B c' b w' ((hB.below hb).more hb.size) (by omega)
  have hTa : ∀ w', Below w.heap.size w w' → Calls Try.prog 21 #[.slice A a.length c] w' fun e w'' => e = .returned (.string (str (textL a))) ∧ Below w'.heap.size w' w'' := fun w' hb => Text_any A c a w' ((hA.below hb).more hb.size) (by omega)
  have hTb : ∀ w', Below w.heap.size w w' → Calls Try.prog 21 #[.slice B b.length c'] w' fun e w'' => e = .returned (.string (str (textL b))) ∧ Below w'.heap.size w' w'' := fun w' hb => Text_any B c' b w' ((hB.below hb).more hb.size) (by omega)
  have hBa : ∀ w', Below w.heap.size w w' → Calls Try.prog 19 #[.slice A a.length c] w' (RetSl w' (bytes16 a)) := fun w' hb => Bytes_any A c a w' ((hA.below hb).more hb.size) (by omega)
  have hBb : ∀ w', Below w.heap.size w w' → Calls Try.prog 19 #[.slice B b.length c'] w' (RetSl w' (bytes16 b)) := fun w' hb => Bytes_any B c' b w' ((hB.below hb).more hb.size) (by omega)
  have HEa := Lib.hid hEa
  have HEb := Lib.hid hEb
  have HTa := Lib.hid hTa
  have HTb := Lib.hid hTb
  have HBa := Lib.hid hBa
  have HBb := Lib.hid hBb
  clear nA nB hA hB hEa hEb hTa hTb hBa hBb
  go_enter Try.func7, Try.ntmps7
  go_wp2_with fail
  refine (awake_any _).mono ?_
  rintro e w1 ⟨rfl, hb1⟩
  have hz := hb1.size
  have hb1a : Below w.heap.size w (w1.alloc (.cells #[] 3)) := hb1.alloc hz _
  have hAa : Si (w1.alloc (.cells #[] 3)) w.heap.size A a := HA.out.below hb1a
  go_wp2_with (first
    | (at_builtin; refine app_list rfl _ _ _ rfl w.heap.size 3 i0 Try.underlying22 hi hz0 hz1 hz2 _ [] rfl (own_empty w1 w.heap.size _ hz) w.heap.size A c a rfl hAa NA.out (by simp; omega) (by simp; omega) ?_; intro v2 w2 hown2 hgrow2; have hb2 : Below w.heap.size w w2 := hb1a.grown hgrow2 (by simp; omega) (fun q hq => ((own_empty w1 w.heap.size 3 hz).lt q hq).1); have hown2' : w2.ownsRow w.heap.size 3 1 v2 a.length (ivs a) := hown2; have hBa2 : Si w2 w.heap.size B b := HB.out.below hb2; have hz2' := hb2.size)
    | (at_builtin; refine app_list rfl _ _ _ rfl w.heap.size 3 i0 Try.underlying22 hi hz0 hz1 hz2 v2 a rfl hown2' w.heap.size B c' b rfl hBa2 NB.out (by omega) (by omega) ?_; intro v3 w3 hown3 hgrow3; have hb3 : Below w.heap.size w w3 := hb2.grown hgrow3 hz2' (fun q hq => (hown2'.lt q hq).1)))
  obtain ⟨c3, _, _, A3, hv3, hs3⟩ := Si.of_own hown3
  subst hv3
  generalize hall : a ++ b = all at *
  have HALL := Lib.hid hall
  have lab : all.length ≤ 300 := by rw [← hall, List.length_append]; omega
  clear hall
  have hz3' := hb3.size
  have hb3a : Below w3.heap.size w3 (w3.alloc (.cells #[] 3)) := (Below.refl _ _).alloc (Nat.le_refl _) _
  have hE0 := own_empty w3 w3.heap.size 3 (Nat.le_refl _)
  have hup : ∀ w', Below w3.heap.size w3 w' → Below w.heap.size w w' := fun _ h => hb3.trans (h.mono hz3')
  have HUP := Lib.hid hup
  clear hown2 hown2' hgrow2 hgrow3 hb2 hb1a hAa hBa2 hown3
  refine (HEa.out _ (hup _ hb3a)).mono ?_
  rintro e w4 ⟨A4, c4, rfl, hc4, hs4, hb4⟩
  have hb4' := hb3a.trans (hb4.mono hb3a.size)
  have hown4 := own_below hE0 hb4
  have hz4' := hb4'.size
  clear hE0 hup
  go_wp2_with (at_builtin; refine app_list rfl _ _ _ rfl w3.heap.size 3 i0 Try.underlying22 hi hz0 hz1 hz2 _ [] rfl hown4 _ A4 c4 (enc16 a) rfl hs4 (fun e => hc4.2 (by rw [e])) (by simp; omega) hz4' ?_; intro v5 w5 hown5 hgrow5)
  have hb5 : Below w3.heap.size w3 w5 := hb4'.grown hgrow5 hz4' (fun q hq => (hown4.lt q hq).1)
  have hown5' : w5.ownsRow w3.heap.size 3 1 v5 (enc16 a).length (ivs (enc16 a)) := hown5
  clear hown5 hgrow5
  refine (HEb.out _ (HUP.out _ hb5)).mono ?_
  rintro e w6 ⟨A6, c6, rfl, hc6, hs6, hb6⟩
  have hb6' := hb5.trans (hb6.mono hb5.size)
  have hown6 := own_below hown5' hb6
  have hz6' := hb6'.size
  go_wp2_with (at_builtin; refine app_list rfl _ _ _ rfl w3.heap.size 3 i0 Try.underlying22 hi hz0 hz1 hz2 v5 (enc16 a) rfl hown6 _ A6 c6 (enc16 b) rfl hs6 (fun e => hc6.2 (by rw [e])) (by omega) hz6' ?_; intro v7 w7 hown7 hgrow7)
  have hb7 : Below w3.heap.size w3 w7 := hb6'.grown hgrow7 hz6' (fun q hq => (hown6.lt q hq).1)
  obtain ⟨c7, _, _, A7, hv7, hs7⟩ := Si.of_own hown7
  subst hv7
  have hz7 := hb7.size
  have hU7 : ∀ w', Below w7.heap.size w7 w' → Below w.heap.size w w' := fun _ h => HUP.out _ (hb7.trans (h.mono hz7))
  have hS3 : ∀ w', Below w7.heap.size w7 w' → Si w' w'.heap.size A3 all := fun _ h => (hs3.below (hb7.trans (h.mono hz7))).more (by have := h.size; omega)
  have lt1 := textL_length a
  have lt2 := textL_length b
  have lb1 := bytes16_length a
  have lb2 := bytes16_length b
  have hE7 : ∀ w', Below w7.heap.size w7 w' → Calls Try.prog 15 #[.slice A3 all.length c3] w' (RetSi w' (enc16 a ++ enc16 b)) := fun w' h => by
    have := Enc16_any A3 c3 all w' (hS3 w' h) (by omega)
    rwa [← HALL.out, enc16_append, HALL.out] at this
  have hS7 : ∀ X cx w', Si w' w'.heap.size X (enc16 a ++ enc16 b) → Below w7.heap.size w7 w' → Calls Try.prog 14 #[.slice X (enc16 a ++ enc16 b).length cx, .slice A7 (enc16 a ++ enc16 b).length c7] w' fun e w'' => e = .returned (.bool true) ∧ Below w'.heap.size w' w'' := fun X cx w' hx h => Same_yes X A7 cx c7 _ w' hx ((hs7.below h).more h.size) (by rw [List.length_append]; omega)
  have hT7 : ∀ w', Below w7.heap.size w7 w' → Calls Try.prog 21 #[.slice A3 all.length c3] w' fun e w'' => e = .returned (.string (str (textL a ++ textL b))) ∧ Below w'.heap.size w' w'' := fun w' h => by
    have := Text_any A3 c3 all w' (hS3 w' h) (by omega)
    rwa [← HALL.out, textL_append, HALL.out] at this
  have hTa7 : ∀ w', Below w7.heap.size w7 w' → Calls Try.prog 21 #[.slice A a.length c] w' fun e w'' => e = .returned (.string (str (textL a))) ∧ Below w'.heap.size w' w'' := fun w' h => HTa.out w' (hU7 w' h)
  have hTb7 : ∀ w', Below w7.heap.size w7 w' → Calls Try.prog 21 #[.slice B b.length c'] w' fun e w'' => e = .returned (.string (str (textL b))) ∧ Below w'.heap.size w' w'' := fun w' h => HTb.out w' (hU7 w' h)
  have hB7 : ∀ w', Below w7.heap.size w7 w' → Calls Try.prog 19 #[.slice A3 all.length c3] w' (RetSl w' (bytes16 a ++ bytes16 b)) := fun w' h => by
    have := Bytes_any A3 c3 all w' (hS3 w' h) (by omega)
    rwa [← HALL.out, bytes16_append, HALL.out] at this
  have hBa7 : ∀ w', Below w7.heap.size w7 w' → Calls Try.prog 19 #[.slice A a.length c] w' (RetSl w' (bytes16 a)) := fun w' h => HBa.out w' (hU7 w' h)
  have hBb7 : ∀ w', Below w7.heap.size w7 w' → Calls Try.prog 19 #[.slice B b.length c'] w' (RetSl w' (bytes16 b)) := fun w' h => HBb.out w' (hU7 w' h)
  have a1 : ∀ wx, (Op.stringOp .add (str (textL a)) (str (textL b))).run Try.prog wx = .ok (.string (str (textL a ++ textL b))) wx := fun wx => by
    rw [run_string_add_sum wx _ _ (by rw [str_size, str_size]; omega), str_append]
  have a2 : ∀ wx, (Op.stringOp .add (str (bytes16 a)) (str (bytes16 b))).run Try.prog wx = .ok (.string (str (bytes16 a ++ bytes16 b))) wx := fun wx => by
    rw [run_string_add_sum wx _ _ (by rw [str_size, str_size]; omega), str_append]
  have hbb : Below w.heap.size w w7 := hU7 _ (Below.refl _ _)
  have hU := Lib.hid hU7
  generalize htab : textL a ++ textL b = tab at *
  generalize hbab : bytes16 a ++ bytes16 b = bab at *
  generalize hta : textL a = ta at *
  generalize htb : textL b = tb at *
  generalize hba : bytes16 a = ba at *
  generalize hbb' : bytes16 b = bb at *
  generalize hu : enc16 a ++ enc16 b = u at *
  have HE7 := Lib.hid hE7
  have HS7 := Lib.hid hS7
  have HT7 := Lib.hid hT7
  have HTa7 := Lib.hid hTa7
  have HTb7 := Lib.hid hTb7
  have HB7 := Lib.hid hB7
  have HBa7 := Lib.hid hBa7
  have HBb7 := Lib.hid hBb7
  have hb0 : Below w7.heap.size w7 w7.drew := (Below.refl _ _).drew
  clear htab hbab hU7 hS3 lab lt1 lt2 lb1 lb2 hE7 hS7 hT7 hTa7 hTb7 hB7 hBa7 hBb7 hta htb hba hbb' hu HALL HEa HEb HTa HTb HBa HBb hown4 hown5' hown6 hown7 hgrow7 hb4 hb4' hb5 hb6 hb6' hs3 hs4 hs6 hb3a hb1 HUP HA HB NA NB ea eb
  clear hz4' hz6' hz3' hz2' hz hb7 hz7 hb3 hc4 hc6
  go_region_held (fun _ => True) (trivial)
    (first
      | (go_at_call 15; (with_reducible refine (HE7.out _ hb0).mono ?_); rintro e w8 ⟨A8, c8, rfl, hc8, hs8, hb8⟩; have hb8' : Below w7.heap.size w7 w8 := hb0.trans (hb8.mono (Nat.le_refl _)))
      | (go_at_call 14; (with_reducible refine (HS7.out _ _ _ hs8 hb8').mono ?_); rintro e w9 ⟨rfl, hb9⟩; have hb9' := hb8'.trans (hb9.mono hb8'.size))
      | (go_at_call 21; (with_reducible refine (HT7.out _ hb9').mono ?_); rintro e w10 ⟨rfl, hb10⟩; have hb10' := hb9'.trans (hb10.mono hb9'.size))
      | (go_at_call 21; (with_reducible refine (HTa7.out _ hb10').mono ?_); rintro e w11 ⟨rfl, hb11⟩; have hb11' := hb10'.trans (hb11.mono hb10'.size))
      | (go_at_call 21; (with_reducible refine (HTb7.out _ hb11').mono ?_); rintro e w12 ⟨rfl, hb12⟩; have hb12' := hb11'.trans (hb12.mono hb11'.size))
      | (go_at_call 19; (with_reducible refine (HB7.out _ hb12').mono ?_); rintro e w13 ⟨A13, c13, rfl, hc13, hs13, hb13⟩; have hb13' := hb12'.trans (hb13.mono hb12'.size); have cv1 := conv8 hs13 c13)
      | (go_at_call 19; (with_reducible refine (HBa7.out _ hb13').mono ?_); rintro e w14 ⟨A14, c14, rfl, hc14, hs14, hb14⟩; have hb14' := hb13'.trans (hb14.mono hb13'.size); have cv2 := conv8 (hs13.over hb14) c13; have cv3 := conv8 hs14 c14)
      | (go_at_call 19; (with_reducible refine (HBb7.out _ hb14').mono ?_); rintro e w15 ⟨A15, c15, rfl, hc15, hs15, hb15⟩; have hb15' := hb14'.trans (hb15.mono hb14'.size); have cv4 := conv8 ((hs13.over hb14).over hb15) c13; have cv5 := conv8 (hs14.over hb15) c14; have cv6 := conv8 hs15 c15))
  all_goals
    go_wp2
    go_ret
    exact ⟨rfl, hU.out _ hb15'⟩
theorem urows_walk (A B : Option Addr) (c c' : Nat) (a b : List Int) (w : World) (hA : Si w w.heap.size A a) (hB : Si w w.heap.size B b) (nA : A = none → c = 0) (nB : B = none → c' = 0) (hm : a.length ≤ maxLen) (hm' : b.length ≤ maxLen) :
    Calls Try.prog 7 #[.slice A a.length c, .slice B b.length c'] w fun e w' => e = .returned (.bool true) ∧ Below w.heap.size w w' := by
  by_cases h : 150 < a.length ∨ 150 < b.length
  · exact urows_long A B c c' a b w hm hm' h
  · exact urows_short A B c c' a b w hA hB nA nB (by omega) (by omega)
end Go.Proofs.Ytclehobammhjmaa
