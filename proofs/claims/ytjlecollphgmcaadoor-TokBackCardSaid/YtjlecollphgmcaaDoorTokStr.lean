/-
  A string's bytes, as a plain function: which bytes it hangs on; what is written of bytes is read again; brackets in brackets.
-/
import Derived.Test.YtjlecollphgmcaaDoorTokDef
namespace Go.Proofs.YtjlecollphgmcaaDoor

theorem take_of_take {a b : List UInt8} {m j : Nat} (h : a.take m = b.take m) (hj : j ≤ m) : a.take j = b.take j := by
  have := congrArg (List.take j) h
  rwa [List.take_take, List.take_take, Nat.min_eq_left hj] at this
theorem drop_of_take {a b : List UInt8} {m : Nat} (n : Nat) (h : a.take m = b.take m) : (a.drop n).take (m - n) = (b.drop n).take (m - n) := by
  rw [← List.drop_take, ← List.drop_take, h]
theorem len_of_take {a b : List UInt8} {m : Nat} (h : a.take m = b.take m) (hm : m ≤ b.length) : m ≤ a.length := by
  have := congrArg List.length h
  rw [List.length_take, List.length_take] at this
  omega
theorem cons_of_take {a t : List UInt8} {b : UInt8} {m : Nat} (h : a.take (m + 1) = (b :: t).take (m + 1)) : ∃ u, a = b :: u ∧ u.take m = t.take m := by
  cases a with
  | nil => simp at h
  | cons c u => simp only [List.take_succ_cons, List.cons.injEq] at h; exact ⟨u, by rw [h.1], h.2⟩
theorem head_of_take {a b : List UInt8} {m : Nat} (h : a.take m = b.take m) (hm : 1 ≤ m) : a.head? = b.head? := by
  have := take_of_take h hm
  cases a <;> cases b <;> simp_all

/-! ### One step -/
theorem on_le : ∀ (m : Nat) (t : List UInt8), on m t ≤ t.length
  | 0, t => by simp [on]
  | m + 1, [] => by simp [on]
  | m + 1, b :: t => by have := on_le m t; simp only [on]; split <;> simp; omega
theorem on_max : ∀ (m : Nat) (t : List UInt8), on m t ≤ m
  | 0, t => by simp [on]
  | m + 1, [] => by simp [on]
  | m + 1, b :: t => by have := on_max m t; simp only [on]; split <;> omega
theorem on_loc : ∀ (m : Nat) (t u : List UInt8), on m t + 1 ≤ t.length → u.take (on m t + 1) = t.take (on m t + 1) → on m u = on m t
  | 0, t, u, _, _ => by simp [on]
  | m + 1, [], u, h, _ => by simp at h
  | m + 1, b :: t, u, h, hu => by
    obtain ⟨v, rfl, hv⟩ := cons_of_take hu
    cases hb : od b with
    | false => simp [on, hb]
    | true =>
      simp only [on, hb, if_true, List.length_cons] at h hv ⊢
      rw [on_loc m t v (by omega) hv]
theorem len_le (d : List UInt8) : len d ≤ d.length := by
  cases d with
  | nil => simp [len]
  | cons b t =>
    simp only [len]
    repeat' split
    all_goals first | (simp; done) | skip
    cases t with
    | nil => simp_all
    | cons c u => simp
theorem esN_le (d : List UInt8) : esN d ≤ d.length := by
  unfold esN
  have h1 := len_le d
  have h2 : octN d ≤ d.length := on_le 3 d
  repeat' split
  all_goals first | omega | simp
theorem len_loc {t u : List UInt8} (h : len t + 1 ≤ t.length) (hu : u.take (len t + 1) = t.take (len t + 1)) : len u = len t := by
  cases t with
  | nil => simp at h
  | cons b t =>
    obtain ⟨v, rfl, hv⟩ := cons_of_take hu
    simp only [len] at hv ⊢
    by_cases hb : b = 13
    · rw [if_pos hb] at hv
      rw [if_pos hb, if_pos hb]
      have : v.head? = t.head? := head_of_take hv (by split <;> omega)
      rw [this]
    · rw [if_neg hb, if_neg hb]
theorem es_loc {t u : List UInt8} (h : esN t + 1 ≤ t.length) (hu : u.take (esN t + 1) = t.take (esN t + 1)) : esN u = esN t ∧ esB u = esB t := by
  by_cases hl : len t = 0
  · have e0 : len u = 0 := by
      rw [← hl]
      exact len_loc (by omega) (by rw [hl]; exact take_of_take hu (by omega))
    by_cases ho : octN t = 0
    · have e1 : octN u = 0 := by
        have e : on 3 t = 0 := ho
        have := on_loc 3 t u (by rw [e]; omega) (by rw [e]; exact take_of_take hu (by omega))
        unfold octN; rw [this, e]
      cases t with
      | nil => simp at h
      | cons b t =>
        obtain ⟨v, rfl, _⟩ := cons_of_take hu
        simp [esN, esB, hl, ho, e0, e1]
    · have e : esN t = octN t := by simp [esN, hl, ho]
      rw [e] at h hu
      have e1 : octN u = octN t := on_loc 3 t u h hu
      have e2 : u.take (octN t) = t.take (octN t) := take_of_take hu (by omega)
      simp [esN, esB, hl, ho, e0, e1, octB, e2]
  · have e : esN t = len t := by simp [esN, hl]
    rw [e] at h hu
    have e1 := len_loc h hu
    simp [esN, esB, hl, e1]
theorem stp_le {deep : Nat} {d o : List UInt8} {n deep' : Nat} (h : stp deep d = .go o n deep') : n ≤ d.length := by
  cases d with
  | nil => simp [stp] at h
  | cons b t =>
    have h1 := esN_le t
    have h2 := len_le (b :: t)
    simp only [stp] at h
    repeat' split at h
    all_goals first | cases h | skip
    all_goals first | (simp; done) | (simp only [List.length_cons] at h2 ⊢; omega)
/-- A step hangs on its own bytes and the one behind them. -/
theorem stp_loc {deep : Nat} {d u o : List UInt8} {n deep' : Nat} (h : stp deep d = .go o n deep') (hn : n + 1 ≤ d.length) (hu : u.take (n + 1) = d.take (n + 1)) : stp deep u = .go o n deep' := by
  cases d with
  | nil => simp at hn
  | cons b t =>
    obtain ⟨v, rfl, hv⟩ := cons_of_take hu
    rw [← h]
    simp only [stp] at h ⊢
    by_cases h40 : b = 40
    · simp [h40]
    · by_cases h41 : b = 41
      · simp [h41]
      · by_cases h92 : b = 92
        · rw [if_neg h40, if_neg h41, if_pos h92] at h
          rw [if_neg h40, if_neg h41, if_pos h92, if_neg h40, if_neg h41, if_pos h92]
          have e : n = 1 + esN t := by injection h with _ h _; exact h.symm
          rw [e] at hn hv
          simp only [List.length_cons] at hn
          obtain ⟨e1, e2⟩ := es_loc (t := t) (u := v) (by omega) (by rw [Nat.add_comm]; exact hv)
          rw [e1, e2]
        · by_cases h13 : b = 13
          · rw [if_neg h40, if_neg h41, if_neg h92, if_pos h13] at h
            rw [if_neg h40, if_neg h41, if_neg h92, if_pos h13, if_neg h40, if_neg h41, if_neg h92, if_pos h13]
            have e : n = len (b :: t) := by injection h with _ h _; exact h.symm
            rw [e] at hn hu
            rw [len_loc hn hu]
          · rw [if_neg h40, if_neg h41, if_neg h92, if_neg h13, if_neg h40, if_neg h41, if_neg h92, if_neg h13]

/-! ### All steps -/
theorem strT_stop {deep : Nat} {d : List UInt8} {k : Nat} {e : Int} (h : stp deep d = .stop k e) : strT deep d = ⟨[], k, e⟩ := by
  rw [strT]
  split
  · rename_i k' e' h'; rw [h] at h'; cases h'; rfl
  · rename_i h'; rw [h] at h'; cases h'
theorem strT_go {deep : Nat} {d o : List UInt8} {n deep' : Nat} (h : stp deep d = .go o n deep') : strT deep d = Sr.add o n (strT deep' (d.drop n)) := by
  rw [strT]
  split
  · rename_i h'; rw [h] at h'; cases h'
  · rename_i h'; rw [h] at h'; cases h'; rfl
theorem stp_stop {deep : Nat} {d : List UInt8} {k : Nat} {e : Int} (h : stp deep d = .stop k e) : (d = [] ∧ k = 0 ∧ e = 2) ∨ (∃ t, d = 40 :: t ∧ k = 0 ∧ e = 5) ∨ (∃ t, d = 41 :: t ∧ k = 1 ∧ e = 0) := by
  cases d with
  | nil => simp [stp] at h; exact .inl ⟨rfl, h.1.symm, h.2.symm⟩
  | cons b t =>
    simp only [stp] at h
    repeat' split at h
    all_goals first | cases h | skip
    · rename_i hb _; exact .inr (.inl ⟨t, by rw [hb], rfl, rfl⟩)
    · rename_i hb _; exact .inr (.inr ⟨t, by rw [hb], rfl, rfl⟩)
/-- How many bytes the answer hangs on. -/
def sz (r : Sr) : Nat := if r.e = 0 then r.k else r.k + 1
theorem strT_k : ∀ (N : Nat) (deep : Nat) (d : List UInt8), d.length ≤ N → ((strT deep d).e = 2 ∧ (strT deep d).k = d.length) ∨ (((strT deep d).e = 0 ∨ (strT deep d).e = 5) ∧ 1 ≤ sz (strT deep d) ∧ sz (strT deep d) ≤ d.length) := by
  intro N
  induction N with
  | zero =>
    intro deep d h
    have : d = [] := List.eq_nil_of_length_eq_zero (by omega)
    subst this
    left
    rw [strT_stop (k := 0) (e := 2) rfl]
    exact ⟨rfl, rfl⟩
  | succ N ih =>
    intro deep d h
    cases hs : stp deep d with
    | stop k e =>
      rw [strT_stop hs]
      rcases stp_stop hs with ⟨rfl, rfl, rfl⟩ | ⟨t, rfl, rfl, rfl⟩ | ⟨t, rfl, rfl, rfl⟩
      · left; exact ⟨rfl, rfl⟩
      · right; exact ⟨.inr rfl, by simp [sz], by simp [sz]⟩
      · right; exact ⟨.inl rfl, by simp [sz], by simp [sz]⟩
    | go o n deep' =>
      rw [strT_go hs]
      obtain ⟨h1, _⟩ := stp_pos hs
      have h2 := stp_le hs
      have := ih deep' (d.drop n) (by rw [List.length_drop]; omega)
      rw [List.length_drop] at this
      rcases this with ⟨e1, e2⟩ | ⟨e1, e2, e3⟩
      · left; exact ⟨e1, by show n + _ = _; omega⟩
      · right
        refine ⟨e1, ?_⟩
        have e : sz (Sr.add o n (strT deep' (d.drop n))) = n + sz (strT deep' (d.drop n)) := by
          unfold sz Sr.add
          dsimp only
          split <;> omega
        omega
theorem strT_ext : ∀ (N : Nat) (deep : Nat) (d u : List UInt8), d.length ≤ N → (strT deep d).e ≠ 2 → u.take (sz (strT deep d)) = d.take (sz (strT deep d)) → strT deep u = strT deep d := by
  intro N
  induction N with
  | zero =>
    intro deep d u h he
    have : d = [] := List.eq_nil_of_length_eq_zero (by omega)
    subst this
    rw [strT_stop (k := 0) (e := 2) rfl] at he
    exact absurd rfl he
  | succ N ih =>
    intro deep d u h he hu
    cases hs : stp deep d with
    | stop k e =>
      rw [strT_stop hs] at he hu ⊢
      rcases stp_stop hs with ⟨rfl, rfl, rfl⟩ | ⟨t, rfl, rfl, rfl⟩ | ⟨t, rfl, rfl, rfl⟩
      · exact absurd rfl he
      · obtain ⟨v, rfl, _⟩ := cons_of_take (m := 0) hu
        exact strT_stop (by rw [← hs]; rfl)
      · obtain ⟨v, rfl, _⟩ := cons_of_take (m := 0) hu
        exact strT_stop (by rw [← hs]; rfl)
    | go o n deep' =>
      rw [strT_go hs] at he hu
      obtain ⟨h1, _⟩ := stp_pos hs
      have h2 := stp_le hs
      have e : sz (Sr.add o n (strT deep' (d.drop n))) = n + sz (strT deep' (d.drop n)) := by
        unfold sz Sr.add
        dsimp only
        split <;> omega
      have hk := strT_k _ deep' (d.drop n) (Nat.le_refl _)
      rw [List.length_drop] at hk
      have he' : (strT deep' (d.drop n)).e ≠ 2 := he
      rcases hk with hk | ⟨_, hk1, hk2⟩
      · exact absurd hk.1 he'
      rw [e] at hu
      have hs' := stp_loc (u := u) hs (by omega) (take_of_take hu (by omega))
      rw [strT_go hs, strT_go hs']
      have := ih deep' (d.drop n) (u.drop n) (by rw [List.length_drop]; omega) he' (by have := drop_of_take n hu; rwa [Nat.add_sub_cancel_left] at this)
      rw [this]
theorem strT_len : ∀ (N : Nat) (deep : Nat) (d : List UInt8), d.length ≤ N → (strT deep d).e = 0 → (strT deep d).s.length + 1 ≤ (strT deep d).k := by
  intro N
  induction N with
  | zero =>
    intro deep d h he
    have : d = [] := List.eq_nil_of_length_eq_zero (by omega)
    subst this
    rw [strT_stop (k := 0) (e := 2) rfl] at he
    cases he
  | succ N ih =>
    intro deep d h he
    cases hs : stp deep d with
    | stop k e =>
      rw [strT_stop hs] at he ⊢
      rcases stp_stop hs with ⟨rfl, rfl, rfl⟩ | ⟨t, rfl, rfl, rfl⟩ | ⟨t, rfl, rfl, rfl⟩
      · cases he
      · cases he
      · simp
    | go o n deep' =>
      rw [strT_go hs] at he ⊢
      obtain ⟨h1, _⟩ := stp_pos hs
      have := ih deep' (d.drop n) (by have := stp_le hs; rw [List.length_drop]; omega) he
      have ho : o.length ≤ n := by
        cases d with
        | nil => simp [stp] at hs
        | cons b t =>
          simp only [stp] at hs
          repeat' split at hs
          all_goals first | cases hs | skip
          all_goals first | (simp; done) | skip
          · unfold esB; repeat' split
            all_goals (simp; try omega)
          · simp; omega
      show (o ++ _).length + 1 ≤ n + _
      rw [List.length_append]
      omega

/-! ### What is written of bytes is read again -/
theorem qL_cons (b : UInt8) (l : List UInt8) : qL (b :: l) = sb b ++ qL l := by simp [qL]
theorem od_dig {n : Nat} (h : n < 8) : od (UInt8.ofNat (48 + n)) = true ∧ (UInt8.ofNat (48 + n)).toNat = 48 + n := by
  have e : (UInt8.ofNat (48 + n)).toNat = 48 + n := by simp; omega
  refine ⟨?_, e⟩
  unfold od
  rw [e]
  simp
  omega
theorem sb_read {deep : Nat} (b : UInt8) (x : List UInt8) : stp deep (sb b ++ x) = .go [b] (sb b).length deep ∧ (sb b ++ x).drop (sb b).length = x := by
  refine ⟨?_, by simp⟩
  unfold sb
  cases hn : sneed b with
  | false =>
    simp only [sneed, Bool.or_eq_false_iff, beq_eq_false_iff_ne, decide_eq_false_iff_not] at hn
    obtain ⟨⟨⟨⟨h1, h2⟩, h3⟩, h4⟩, h5⟩ := hn
    have h13 : b ≠ 13 := by rintro rfl; exact h4 (by decide)
    simp [stp, h1, h2, h3, h13]
  | true =>
    have hb := b.toNat_lt
    obtain ⟨a1, a2⟩ := od_dig (n := b.toNat / 64) (by omega)
    obtain ⟨b1, b2⟩ := od_dig (n := b.toNat / 8 % 8) (by omega)
    obtain ⟨c1, c2⟩ := od_dig (n := b.toNat % 8) (by omega)
    simp only [if_true]
    generalize UInt8.ofNat (48 + b.toNat / 64) = x1 at *
    generalize UInt8.ofNat (48 + b.toNat / 8 % 8) = x2 at *
    generalize UInt8.ofNat (48 + b.toNat % 8) = x3 at *
    have e13 : x1 ≠ 13 := by rintro rfl; simp at a2; omega
    have e10 : x1 ≠ 10 := by rintro rfl; simp at a2; omega
    have hl : len (x1 :: x2 :: x3 :: x) = 0 := by simp [len, e13, e10]
    have ho : octN (x1 :: x2 :: x3 :: x) = 3 := by simp [octN, on, a1, b1, c1]
    have hv : octB (x1 :: x2 :: x3 :: x) = b := by
      unfold octB
      rw [ho]
      simp only [List.take_succ_cons, List.take_zero, octF, List.foldl_cons, List.foldl_nil, a2, b2, c2]
      apply eq_of_toNat
      have e : ((0 * 8 + (48 + b.toNat / 64 - 48)) * 8 + (48 + b.toNat / 8 % 8 - 48)) * 8 + (48 + b.toNat % 8 - 48) = b.toNat := by omega
      rw [e]
      simp
    have hB : esB (x1 :: x2 :: x3 :: x) = [b] := by simp [esB, hl, ho, hv]
    have hN : esN (x1 :: x2 :: x3 :: x) = 3 := by simp [esN, hl, ho]
    simp only [List.cons_append, List.nil_append, stp, hB, hN, List.length_cons, List.length_nil]
    rfl
theorem strT_q (deep : Nat) (l x : List UInt8) : strT deep (qL l ++ x) = Sr.add l (qL l).length (strT deep x) := by
  induction l with
  | nil => simp [qL, Sr.add]
  | cons b l ih =>
    obtain ⟨h1, h2⟩ := sb_read (deep := deep) b (qL l ++ x)
    rw [qL_cons, List.append_assoc, strT_go h1, h2, ih]
    simp [Sr.add, Nat.add_assoc]
theorem strT_quoted (l r : List UInt8) : strT 1 (qL l ++ 41 :: r) = ⟨l, (qL l).length + 1, 0⟩ := by
  rw [strT_q, strT_stop (k := 1) (e := 0) rfl]
  simp [Sr.add]
theorem sb_length (b : UInt8) : 1 ≤ (sb b).length ∧ (sb b).length ≤ 4 := by unfold sb; split <;> simp
theorem qL_length (l : List UInt8) : (qL l).length ≤ 4 * l.length := by
  induction l with
  | nil => simp [qL]
  | cons b l ih => have := sb_length b; rw [qL_cons, List.length_append, List.length_cons]; omega

/-! ### Brackets in brackets -/
theorem strT_close : ∀ m : Nat, strT (m + 1) (List.replicate (m + 1) 41) = ⟨List.replicate m 41, m + 1, 0⟩
  | 0 => strT_stop rfl
  | m + 1 => by
    have hs : stp (m + 1 + 1) (List.replicate (m + 1 + 1) 41) = .go [41] 1 (m + 1) := by
      rw [List.replicate_succ]
      simp [stp]
    rw [strT_go hs, List.replicate_succ, List.drop_succ_cons, List.drop_zero, strT_close m]
    simp [Sr.add, List.replicate_succ]
    omega
theorem strT_nest : ∀ (j deep : Nat), 1 ≤ deep → deep ≤ 32 → (deep + j ≤ 32 → strT deep (List.replicate j 40 ++ List.replicate (j + deep) 41) = ⟨List.replicate j 40 ++ List.replicate (j + deep - 1) 41, 2 * j + deep, 0⟩) ∧ (32 < deep + j → (strT deep (List.replicate j 40 ++ List.replicate (j + deep) 41)).e = 5)
  | 0, deep, h1, h2 => by
    refine ⟨fun _ => ?_, fun h => by omega⟩
    obtain ⟨m, rfl⟩ : ∃ m, deep = m + 1 := ⟨deep - 1, by omega⟩
    simp [strT_close]
  | j + 1, deep, h1, h2 => by
    by_cases h32 : deep = 32
    · have hs : stp deep (List.replicate (j + 1) 40 ++ List.replicate (j + 1 + deep) 41) = .stop 0 5 := by
        rw [List.replicate_succ]
        simp [stp, h32]
      exact ⟨fun h => by omega, fun _ => by rw [strT_stop hs]⟩
    · have hs : stp deep (List.replicate (j + 1) 40 ++ List.replicate (j + 1 + deep) 41) = .go [40] 1 (deep + 1) := by
        rw [List.replicate_succ]
        simp [stp, h32]
      obtain ⟨i1, i2⟩ := strT_nest j (deep + 1) (by omega) (by omega)
      have ed : (List.replicate (j + 1) (40 : UInt8) ++ List.replicate (j + 1 + deep) 41).drop 1 = List.replicate j 40 ++ List.replicate (j + (deep + 1)) 41 := by
        rw [List.replicate_succ, List.cons_append, List.drop_succ_cons, List.drop_zero, show j + 1 + deep = j + (deep + 1) by omega]
      rw [strT_go hs, ed]
      refine ⟨fun h => ?_, fun h => i2 (by omega)⟩
      rw [i1 (by omega)]
      simp only [Sr.add, List.replicate_succ, List.cons_append, List.nil_append, Sr.mk.injEq, List.cons.injEq, true_and, and_true]
      refine ⟨?_, by omega⟩
      rw [show j + (deep + 1) - 1 = j + 1 + deep - 1 by omega]
end Go.Proofs.YtjlecollphgmcaaDoor
