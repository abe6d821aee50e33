/-
  The walk of the statement DestOrder.
-/
import Derived.Test.YtpcaipifppnfdaaDestFinds
import Derived.Test.YtpcaipifppnfdaaDestShort
import Derived.Test.YtpcaipifppnfdaaDestApp
namespace Go.Proofs.Ytpcaipifppnfdaa
open Go.RowKit
attribute [local go_sem ↓] Go.wp_at_zero Go.wp_at_succ

theorem own_emptyFG {w w' : World} {e : TypeId} (hg : (w.alloc (.cells #[] e)).grownBy w' (Value.slice (some ⟨w.heap.size, 0, none⟩) 0 0).ownBlock) : Below w.heap.size w w' :=
  (al_below w _).grown hg (by simp) (fun j hj => by
    have e2 : w.heap.size = j := by simpa [Value.ownBlock] using hj
    omega)
set_option maxRecDepth 100000 in
set_option maxHeartbeats 16000000 in
theorem dorder_walk (A : Option Addr) (c : Nat) (l : List Me) (a b : Me) (w : World) (hA : Sd w A l) (hn0 : A = none → c = 0) (hm : l.length ≤ maxLen) (hmu : ∀ m ∈ l, m.b.u.length ≤ maxLen) (hua : Un w a.a a.c a.b.u) (hub : Un w b.a b.c b.b.u) (hma : a.b.u.length ≤ maxLen) (hmb : b.b.u.length ≤ maxLen) :
    Calls Try.prog 8 #[.slice A l.length c, fv a, fv b] w fun e w' => e = .returned (.bool true) ∧ Below w.heap.size w w' := by
  obtain ⟨i0, hi0, hz0, hz1, hz2⟩ := info_parts infoB
  unfold maxLen at hm hmu hma hmb
  have HA := Lib.hid hA
  have HMU := Lib.hid hmu
  have HUA := Lib.hid hua
  have HUB := Lib.hid hub
  have HN0 := Lib.hid hn0
  obtain ⟨k, hk⟩ : ∃ k, k = l.length := ⟨_, rfl⟩
  have HK := Lib.hid hk
  have KF : Hid (∀ W, Below w.heap.size w W → Calls Try.prog 10 #[.slice A k c] W fun e w' => e = .returned (.bool (decide (fewB (pl l)))) ∧ Below W.heap.size W w') := Lib.hid fun W hW => by
    have := Few_any A c l W (HA.out.over hW) (by omega) (fun m hm => by have := HMU.out m hm; omega)
    rwa [← hk] at this
  have KSH : Hid (∀ W, Below w.heap.size w W → Calls Try.prog 11 #[.slice A k c] W fun e w' => (∃ b, e = .returned (.bool b)) ∧ Below W.heap.size W w') := Lib.hid fun W hW => by
    have := Short_any A c l W (HA.out.over hW)
    rwa [← hk] at this
  have KS2 : Hid (∀ W, Below w.heap.size w W → Calls Try.prog 11 #[.slice (some ⟨W.heap.size, 0, none⟩) 2 2] (W.alloc (.cells #[.int .i64 a.b.n, .int .i64 a.b.lo, .int .i64 a.b.hi, .slice a.a a.b.u.length a.c, .int .i64 b.b.n, .int .i64 b.b.lo, .int .i64 b.b.hi, .slice b.a b.b.u.length b.c] 25)) fun e w' => (∃ b, e = .returned (.bool b)) ∧ Below (W.alloc (.cells #[.int .i64 a.b.n, .int .i64 a.b.lo, .int .i64 a.b.hi, .slice a.a a.b.u.length a.c, .int .i64 b.b.n, .int .i64 b.b.lo, .int .i64 b.b.hi, .slice b.a b.b.u.length b.c] 25)).heap.size (W.alloc (.cells #[.int .i64 a.b.n, .int .i64 a.b.lo, .int .i64 a.b.hi, .slice a.a a.b.u.length a.c, .int .i64 b.b.n, .int .i64 b.b.lo, .int .i64 b.b.hi, .slice b.a b.b.u.length b.c] 25)) w') := Lib.hid fun W hW =>
    Short_any (some ⟨W.heap.size, 0, none⟩) 2 [a, b] _ (sd_two W a b 25 (HUA.out.over hW) (HUB.out.over hW))
  rw [← hk] at hm ⊢
  have hb0 : Below w.heap.size w ((w.alloc (.cells #[.int .i64 a.b.n, .int .i64 a.b.lo, .int .i64 a.b.hi, .slice a.a a.b.u.length a.c] 25)).alloc (.cells #[.int .i64 b.b.n, .int .i64 b.b.lo, .int .i64 b.b.hi, .slice b.a b.b.u.length b.c] 25)) := ((Below.refl _ _).alloc (Nat.le_refl _) _).alloc (by simp) _
  have fa0 : Fb ((w.alloc (.cells #[.int .i64 a.b.n, .int .i64 a.b.lo, .int .i64 a.b.hi, .slice a.a a.b.u.length a.c] 25)).alloc (.cells #[.int .i64 b.b.n, .int .i64 b.b.lo, .int .i64 b.b.hi, .slice b.a b.b.u.length b.c] 25)) w.heap.size a := ⟨by simp, by simp, by simp, by simp⟩
  have fb0 : Fb ((w.alloc (.cells #[.int .i64 a.b.n, .int .i64 a.b.lo, .int .i64 a.b.hi, .slice a.a a.b.u.length a.c] 25)).alloc (.cells #[.int .i64 b.b.n, .int .i64 b.b.lo, .int .i64 b.b.hi, .slice b.a b.b.u.length b.c] 25)) (w.heap.size + 1) b := ⟨by simp, by simp, by simp, by simp⟩
  have hzz : w.heap.size + 1 < ((w.alloc (.cells #[.int .i64 a.b.n, .int .i64 a.b.lo, .int .i64 a.b.hi, .slice a.a a.b.u.length a.c] 25)).alloc (.cells #[.int .i64 b.b.n, .int .i64 b.b.lo, .int .i64 b.b.hi, .slice b.a b.b.u.length b.c] 25)).heap.size := by simp
  have HBX : Hid (∀ W, Below ((w.alloc (.cells #[.int .i64 a.b.n, .int .i64 a.b.lo, .int .i64 a.b.hi, .slice a.a a.b.u.length a.c] 25)).alloc (.cells #[.int .i64 b.b.n, .int .i64 b.b.lo, .int .i64 b.b.hi, .slice b.a b.b.u.length b.c] 25)).heap.size ((w.alloc (.cells #[.int .i64 a.b.n, .int .i64 a.b.lo, .int .i64 a.b.hi, .slice a.a a.b.u.length a.c] 25)).alloc (.cells #[.int .i64 b.b.n, .int .i64 b.b.lo, .int .i64 b.b.hi, .slice b.a b.b.u.length b.c] 25)) W → (W.cell? ⟨w.heap.size, 0, none⟩ = some (.int .i64 a.b.n) ∧ W.cell? ⟨w.heap.size, 1, none⟩ = some (.int .i64 a.b.lo) ∧ W.cell? ⟨w.heap.size, 2, none⟩ = some (.int .i64 a.b.hi) ∧ W.cell? ⟨w.heap.size, 3, none⟩ = some (.slice a.a a.b.u.length a.c)) ∧ (W.cell? ⟨w.heap.size + 1, 0, none⟩ = some (.int .i64 b.b.n) ∧ W.cell? ⟨w.heap.size + 1, 1, none⟩ = some (.int .i64 b.b.lo) ∧ W.cell? ⟨w.heap.size + 1, 2, none⟩ = some (.int .i64 b.b.hi) ∧ W.cell? ⟨w.heap.size + 1, 3, none⟩ = some (.slice b.a b.b.u.length b.c)) ∧ Below w.heap.size w W) := Lib.hid fun W hW => by
    obtain ⟨p0, p1, p2, p3⟩ := fa0.below hW (by omega)
    obtain ⟨q0, q1, q2, q3⟩ := fb0.below hW hzz
    simp only [Nat.zero_add] at p1 p2 p3 q1 q2 q3
    exact ⟨⟨p0, p1, p2, p3⟩, ⟨q0, q1, q2, q3⟩, hb0.trans (hW.mono (by omega))⟩
  unfold fv
  clear hk hA hmu hua hub hn0 hb0 fa0 fb0 hzz
  go_enter Try.func8, Try.ntmps8
  go_wp2_with fail
  generalize (w.alloc (.cells #[.int .i64 a.b.n, .int .i64 a.b.lo, .int .i64 a.b.hi, .slice a.a a.b.u.length a.c] 25)).alloc (.cells #[.int .i64 b.b.n, .int .i64 b.b.lo, .int .i64 b.b.hi, .slice b.a b.b.u.length b.c] 25) = WB at *
  refine (awake_any _).mono ?_
  rintro e w1 ⟨rfl, h1⟩
  cases hfew : decide (fewB (pl l)) with
  | false =>
    rw [hfew] at KF
    clear hfew
    go_wp2_with ((go_at_call 10; refine (KF.out _ (HBX.out _ h1).2.2).mono ?_; rintro e w1' ⟨rfl, hb1'⟩))
    go_ret
    exact ⟨rfl, (HBX.out _ (h1.trans (hb1'.mono h1.size))).2.2⟩
  | true =>
    rw [hfew] at KF
    have HFEW := Lib.hid (of_decide_eq_true hfew)
    clear hfew
    have hk60 : k ≤ 60 := by have := HFEW.out.2; rw [pl_length, ← HK.out] at this; exact this
    go_wp2_with fail
    refine (KF.out _ (HBX.out _ h1).2.2).mono ?_
    rintro e w2 ⟨rfl, hb2⟩
    have h2 := h1.trans (hb2.mono h1.size)
    clear hb2 KF h1
    go_wp2_with fail
    refine (KSH.out _ (HBX.out _ h2).2.2).mono ?_
    rintro e w3 ⟨⟨sb, rfl⟩, hb3⟩
    have h3 := h2.trans (hb3.mono h2.size)
    clear hb3 KSH h2
    cases sb with
    | false =>
      go_wp2
      go_ret
      exact ⟨rfl, (HBX.out _ h3).2.2⟩
    | true =>
      have H3 := Lib.hid h3
      obtain ⟨⟨x0, x1, x2, x3⟩, ⟨y0, y1, y2, y3⟩, hw3⟩ := HBX.out _ h3
      have HW3 := Lib.hid hw3
      clear h3 hw3
      go_wp2_with fail
      refine (KS2.out _ HW3.out).mono ?_
      rintro e w4 ⟨⟨sb, rfl⟩, hb4⟩
      have h4 : Below WB.heap.size WB w4 := H3.out.trans ((al_below w3 _).trans (hb4.mono (by simp)) |>.mono H3.out.size)
      clear hb4 KS2 x0 x1 x2 x3 y0 y1 y2 y3
      cases sb with
      | false =>
        go_wp2
        go_ret
        exact ⟨rfl, (HBX.out _ h4).2.2⟩
      | true =>
        obtain ⟨⟨x0, x1, x2, x3⟩, ⟨y0, y1, y2, y3⟩, hw4⟩ := HBX.out _ h4
        have H4 := Lib.hid h4
        have HW4 := Lib.hid hw4
        clear h4 hw4
        by_cases ha70 : 70 < a.b.u.length
        · have ta : decide ((70 : Int) < (a.b.u.length : Int)) = true := decide_eq_true (by omega)
          clear ha70
          go_wp2
          go_ret
          exact ⟨rfl, HW4.out⟩
        · have ta : decide ((70 : Int) < (a.b.u.length : Int)) = false := decide_eq_false (by omega)
          by_cases hb70 : 70 < b.b.u.length
          · have tb : decide ((70 : Int) < (b.b.u.length : Int)) = true := decide_eq_true (by omega)
            clear ha70 hb70
            go_wp2
            go_ret
            exact ⟨rfl, HW4.out⟩
          · have tb : decide ((70 : Int) < (b.b.u.length : Int)) = false := decide_eq_false (by omega)
            clear ha70 hb70
            have hway : ((a.b.n == b.b.n) = false ∧ ¬ (a.b.n = b.b.n ∧ a.b.lo ≤ b.b.hi ∧ b.b.lo ≤ a.b.hi)) ∨ ((a.b.n == b.b.n) = true ∧ decide (a.b.lo ≤ b.b.hi) = false ∧ ¬ (a.b.n = b.b.n ∧ a.b.lo ≤ b.b.hi ∧ b.b.lo ≤ a.b.hi)) ∨ ((a.b.n == b.b.n) = true ∧ decide (a.b.lo ≤ b.b.hi) = true ∧ decide (b.b.lo ≤ a.b.hi) = false ∧ ¬ (a.b.n = b.b.n ∧ a.b.lo ≤ b.b.hi ∧ b.b.lo ≤ a.b.hi)) ∨ ((a.b.n == b.b.n) = true ∧ decide (a.b.lo ≤ b.b.hi) = true ∧ decide (b.b.lo ≤ a.b.hi) = true) := by
              by_cases e1 : a.b.n = b.b.n
              · by_cases e2 : a.b.lo ≤ b.b.hi
                · by_cases e3 : b.b.lo ≤ a.b.hi
                  · simp [e1, e2, e3]
                  · simp [e1, e2, e3] <;> omega
                · simp [e1, e2] <;> omega
              · simp [e1]
            rcases hway with ⟨t1, hoff⟩ | ⟨t1, t2, hoff⟩ | ⟨t1, t2, t3, hoff⟩ | ⟨t1, t2, t3⟩
            case inr.inr.inr =>
              go_wp2
              go_ret
              exact ⟨rfl, HW4.out⟩
            all_goals
              have HOFF := Lib.hid hoff
              clear hoff
              have hs4 : Below w.heap.size w w4 := HW4.out
              have hl4 := HA.out.over hs4
              have e4 := al_below w4 (.cells #[] 25)
              have HL4 := Lib.hid (hl4.over e4)
              clear hs4 hl4 e4
              go_wp2_with (at_builtin; first
                | (refine app_bfs rfl _ _ _ rfl w4.heap.size 25 i0 Try.underlying22 hi0 hz0 hz1 hz2 _ [] rfl (own_emptyF w4 w4.heap.size _ (Nat.le_refl _)) _ A _ _ l HK.out rfl HL4.out.rd HN0.out (by have := HK.out; simp; omega) (by simp) ?_; intro v5 w5 hown5 hgrow5; have k5 := own_emptyFG hgrow5; rw [List.nil_append, ← HK.out] at hown5; have h5 := H4.out.trans (k5.mono H4.out.size); obtain ⟨⟨x0, x1, x2, x3⟩, ⟨y0, y1, y2, y3⟩, hw5⟩ := HBX.out _ h5)
                | (refine wpList_append_lies _ rfl _ _ _ rfl w4.heap.size 25 i0 (.agg #[.int .i64 0, .int .i64 0, .int .i64 0, .slice none 0 0]) 4 48 Try.underlying22 hi0 hz0 hz1 hz2 rfl (by omega) _ _ _ rfl (hown5.alloc _) ⟨w5.heap.size, 0, none⟩ 2 2 (fq a ++ fq b) rfl rfl (World.news_of_block (heap_alloc_new w5 _)) (by intro u hu; exact dvs_one [a, b] u (by simpa [dvs] using hu)) (by omega) (by unfold maxLen; omega) (by omega) (by have := k5.size; simp; omega) _ rfl ?_; intro g6 cap6 w6 hown6 hgrow6 hat6 hgl6; have k6 := (k5.alloc k5.size _).grown hgrow6 (by have := k5.size; simp; omega) (fun j hj => (own_ltD hown5 hj).1); have h6 := H4.out.trans (k6.mono H4.out.size); obtain ⟨⟨x0, x1, x2, x3⟩, ⟨y0, y1, y2, y3⟩, hw6⟩ := HBX.out _ h6)
                | (refine app_bfs rfl _ _ _ rfl w6.heap.size 25 i0 Try.underlying22 hi0 hz0 hz1 hz2 _ [] rfl (own_emptyF w6 w6.heap.size _ (Nat.le_refl _)) _ A _ _ l HK.out rfl (HA.out.over (hw6.trans ((al_below w6 _).mono hw6.size))).rd HN0.out (by have := HK.out; simp; omega) (by simp) ?_; intro v7 w7 hown7 hgrow7; have k7 := own_emptyFG hgrow7; rw [List.nil_append, ← HK.out] at hown7; have h7 := h6.trans (k7.mono h6.size); obtain ⟨⟨x0, x1, x2, x3⟩, ⟨y0, y1, y2, y3⟩, hw7⟩ := HBX.out _ h7)
                | (refine wpList_append_lies _ rfl _ _ _ rfl w6.heap.size 25 i0 (.agg #[.int .i64 0, .int .i64 0, .int .i64 0, .slice none 0 0]) 4 48 Try.underlying22 hi0 hz0 hz1 hz2 rfl (by omega) _ _ _ rfl (hown7.alloc _) ⟨w7.heap.size, 0, none⟩ 2 2 (fq b ++ fq a) rfl rfl (World.news_of_block (heap_alloc_new w7 _)) (by intro u hu; exact dvs_one [b, a] u (by simpa [dvs] using hu)) (by omega) (by unfold maxLen; omega) (by omega) (by have := k7.size; simp; omega) _ rfl ?_; intro g8 cap8 w8 hown8 hgrow8 hat8 hgl8; have k8 := (k7.alloc k7.size _).grown hgrow8 (by have := k7.size; simp; omega) (fun j hj => (own_ltD hown7 hj).1); have h8 := h6.trans (k8.mono h6.size); obtain ⟨⟨x0, x1, x2, x3⟩, ⟨y0, y1, y2, y3⟩, hw8⟩ := HBX.out _ h8))
              have ulx : Ul w8 (l ++ [a, b]) := fun m hm => by
                rcases List.mem_append.1 hm with hm | hm
                · exact (HA.out.over hw8).ul m hm
                · simp at hm
                  rcases hm with rfl | rfl
                  · exact HUA.out.over hw8
                  · exact HUB.out.over hw8
              have uly : Ul w8 (l ++ [b, a]) := fun m hm => by
                rcases List.mem_append.1 hm with hm | hm
                · exact (HA.out.over hw8).ul m hm
                · simp at hm
                  rcases hm with rfl | rfl
                  · exact HUB.out.over hw8
                  · exact HUA.out.over hw8
              have lenx : (l ++ [a, b]).length = k + 2 := by simp; exact HK.out.symm
              have leny : (l ++ [b, a]).length = k + 2 := by simp; exact HK.out.symm
              obtain ⟨AX, cX, eX, _, sdx⟩ := sd_own (own_two (own_belowD hown6 k8 (Nat.le_refl _)) (by rw [HK.out])) ulx
              obtain ⟨AY, cY, eY, _, sdy⟩ := sd_own (own_two hown8 (by rw [HK.out])) uly
              rw [lenx] at eX
              rw [leny] at eY
              injection eX with eX1 _ eX2
              injection eY with eY1 _ eY2
              subst eX1 eX2 eY1 eY2
              have KX := Lib.hid (DBuild_any (l ++ [a, b]) (by omega) _ cap6 w8 sdx)
              rw [lenx] at KX
              have HSY := Lib.hid sdy
              have HLY := Lib.hid leny
              have HH8 := Lib.hid h8
              clear hown5 hgrow5 k5 h5 hown6 hgrow6 hat6 hgl6 k6 h6 hown7 hgrow7 k7 h7 hown8 hgrow8 hat8 hgl8 k8 h8 hw5 hw6 hw7 hw8 ulx uly sdx sdy leny HL4 x0 x1 x2 x3 y0 y1 y2 y3
              refine KX.out.mono ?_
              rintro e w9 ⟨m, A9, c9, rfl, q2, q3, q4, q5, q6, q7, q8⟩
              have hf := q6.few q7
              rw [pl_length, pl_length, lenx] at hf
              have HM := Lib.hid q4
              have HP := Lib.hid q6
              have HT := Lib.hid q7
              have HQ8 := Lib.hid q8
              have HN9 := Lib.hid q3
              have HSH : Hid (∀ x ∈ m, x.b.u.length ≤ 1000) := Lib.hid fun x hx => ct_short q6 x.b (List.mem_map.2 ⟨x, hx, rfl⟩)
              obtain ⟨f, hff⟩ : ∃ f, f = m.length := ⟨_, rfl⟩
              have HF := Lib.hid hff
              rw [← hff] at hf ⊢
              clear q2 q3 q4 q5 q6 q7 q8 hff KX lenx
              go_wp2_with (at_builtin; (refine app_bfs rfl _ _ _ rfl w9.heap.size 25 i0 Try.underlying22 hi0 hz0 hz1 hz2 _ [] rfl (own_emptyF w9 w9.heap.size _ (Nat.le_refl _)) _ A9 _ _ m HF.out rfl (HM.out.over (al_below w9 _)).rd HN9.out (by have := HF.out; simp; omega) (by simp) ?_; intro v10 w10 hown10 hgrow10; have k10 := own_emptyFG hgrow10; rw [List.nil_append, ← HF.out] at hown10))
              have KR := Lib.hid (DRows_any A9 c9 m w10 (HM.out.over k10) (by have := HF.out; omega))
              rw [← HF.out] at KR
              refine KR.out.mono ?_
              rintro e w11 ⟨r, A11, c11, rfl, p2, p3, p4, p5, p6, p7⟩
              rw [rowsC, if_pos HP.out] at p6
              have hrl := (rowsB_len HP.out.1).2
              rw [← p6, pl_length, pl_length, ← HF.out] at hrl
              have k11 := k10.trans (p7.mono k10.size)
              have hown11 := own_belowD hown10 p7 (Nat.le_refl _)
              have HR := Lib.hid p4
              have HPR := Lib.hid p6
              have HNR := Lib.hid p3
              have HUR := Lib.hid p5
              obtain ⟨g, hg⟩ : ∃ g, g = r.length := ⟨_, rfl⟩
              have HG := Lib.hid hg
              rw [← hg] at hrl ⊢
              clear p2 p3 p4 p5 p6 p7 hg KR hown10 hgrow10 k10
              have hown11' : w11.ownsRow w9.heap.size 25 4 v10 m.length (dvs m) := by rw [← HF.out]; exact hown11
              have HO11 := Lib.hid hown11'
              clear hown11 hown11'
              have OB : Hid (∀ j, v10.ownBlock = some j → w9.heap.size ≤ j) := Lib.hid fun j hj => (own_ltD HO11.out hj).1
              go_wp2_with (at_builtin; (refine app_bfs rfl _ _ _ rfl w9.heap.size 25 i0 Try.underlying22 hi0 hz0 hz1 hz2 _ m rfl HO11.out _ A11 _ _ r HG.out rfl HR.out.rd HNR.out (by have := HF.out; have := HG.out; omega) k11.size ?_; intro v12 w12 hown12 hgrow12; have k12 := k11.grown hgrow12 k11.size OB.out))
              have hRk : Ik w11 w12 := Ik.of_grown hgrow12 (fun g hg => own_tq HO11.out hg)
              have ulz : Ul w12 (m ++ r) := fun x hx => by
                rcases List.mem_append.1 hx with hx | hx
                · exact (HM.out.over k12).ul x hx
                · exact (HUR.out.ik hRk).ul x hx
              obtain ⟨AZ, cZ, eZ, _, sdz⟩ := sd_own hown12 ulz
              subst eZ
              have lz : (m ++ r).length ≤ 200000 := by have := HF.out; have := HG.out; rw [List.length_append]; omega
              have etz : ∀ n v, lastB (pl (m ++ r)) n v = lastB (pl m) n v := fun n v => by
                rw [pl_append, lastB_append, HPR.out, rowsB_last HP.out.1]
                cases lastB (pl m) n v <;> rfl
              have KZ : Hid (∀ W, Below w12.heap.size w12 W → Calls Try.prog 21 #[.slice AZ (m ++ r).length cZ] W (BuiltB W (pl (m ++ r)))) := Lib.hid fun W hW => DBuild_any (m ++ r) lz AZ cZ W (sdz.over hW)
              have HETZ := Lib.hid etz
              generalize (m ++ r).length = LZ at *
              have h12 := HH8.out.trans ((HQ8.out.trans (k12.mono HQ8.out.size)).mono HH8.out.size)
              have b812 := HQ8.out.trans (k12.mono HQ8.out.size)
              have KY := Lib.hid (DBuild_any (l ++ [b, a]) (by have := HLY.out; omega) _ cap8 w12 (HSY.out.over b812))
              rw [HLY.out] at KY
              clear hown12 hgrow12 sdz ulz etz lz hRk k11
              refine KY.out.mono ?_
              rintro e w13 ⟨m2, A13, c13, rfl, q2, q3, q4, q5, q6, q7, q8⟩
              have em : pl m2 = pl m := q6.one HP.out fun n v => by
                rw [q7, HT.out, pl_append, pl_append]
                exact (last_swapB HOFF.out (pl l) n v).symm
              have b13 := k12.trans (q8.mono k12.size)
              have K7 : Hid (Calls Try.prog 24 #[.slice A9 f c9, .slice A13 m2.length c13] w13 fun r w' => r = .returned (.bool true) ∧ Below w13.heap.size w13 w') := Lib.hid (by
                have := dSame_yes (c1 := c9) (c2 := c13) (HM.out.over b13) q4 em.symm (by have := HF.out; omega) HSH.out
                rwa [← HF.out] at this)
              have z13 := Lib.hid q8
              clear q2 q3 q4 q5 q6 q7 q8 em KY
              generalize m2.length = L2 at *
              go_wp2_with fail
              refine K7.out.mono ?_
              rintro e w14 ⟨rfl, hb14⟩
              have b14 := b13.trans (hb14.mono b13.size)
              have z14 := z13.out.trans (hb14.mono z13.out.size)
              go_wp2_with fail
              refine (KZ.out _ z14).mono ?_
              rintro e w15 ⟨m3, A15, c15, rfl, q2, q3, q4, q5, q6, q7, q8⟩
              have em : pl m3 = pl m := q6.one HP.out fun n v => (q7 n v).trans (HETZ.out n v)
              have b15 := b14.trans (q8.mono b14.size)
              have K8 : Hid (Calls Try.prog 24 #[.slice A9 f c9, .slice A15 m3.length c15] w15 fun r w' => r = .returned (.bool true) ∧ Below w15.heap.size w15 w') := Lib.hid (by
                have := dSame_yes (c1 := c9) (c2 := c15) (HM.out.over b15) q4 em.symm (by have := HF.out; omega) HSH.out
                rwa [← HF.out] at this)
              have z15 := Lib.hid (z14.trans (q8.mono z14.size))
              clear q2 q3 q4 q5 q6 q7 q8 em
              generalize m3.length = L3 at *
              go_wp2_with fail
              refine K8.out.mono ?_
              rintro e w16 ⟨rfl, hb16⟩
              go_wp2
              go_ret
              exact ⟨rfl, (HBX.out _ (h12.trans ((z15.out.trans (hb16.mono z15.out.size)).mono h12.size))).2.2⟩
end Go.Proofs.Ytpcaipifppnfdaa
