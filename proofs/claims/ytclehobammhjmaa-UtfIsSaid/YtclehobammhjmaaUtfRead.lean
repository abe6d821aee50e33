/-
  What is read of a text in UTF-8, value by value; when it is whole; the document's own reader of one form; what follows (P2.4).
-/
import Derived.Test.YtclehobammhjmaaUtfForms
namespace Go.Proofs.Ytclehobammhjmaa

theorem drop_lt {l : List UInt8} (h : ¬ l = []) : (l.drop (dec l).2).length < l.length := by
  have := dec_ok h
  rw [List.length_drop]
  omega
def runes (l : List UInt8) : List Int := if _h : l = [] then [] else ((dec l).1 : Int) :: runes (l.drop (dec l).2)
termination_by l.length
decreasing_by exact drop_lt _h
def whole (l : List UInt8) : Bool := if _h : l = [] then true else if dec l = (65533, 1) then false else whole (l.drop (dec l).2)
termination_by l.length
decreasing_by exact drop_lt _h
theorem runes_nil : runes [] = [] := by rw [runes]; simp
theorem runes_step {l : List UInt8} (h : l ≠ []) : runes l = ((dec l).1 : Int) :: runes (l.drop (dec l).2) := by rw [runes]; simp [h]
theorem whole_nil : whole [] = true := by rw [whole]; simp
theorem whole_bad {l : List UInt8} (h : l ≠ []) (hb : dec l = (65533, 1)) : whole l = false := by rw [whole]; simp [h, hb]
theorem whole_step {l : List UInt8} (h : l ≠ []) (hb : dec l ≠ (65533, 1)) : whole l = whole (l.drop (dec l).2) := by rw [whole]; simp [h, hb]

theorem runes_length (l : List UInt8) : (runes l).length ≤ l.length := by
  induction l using runes.induct with
  | case1 => rw [runes_nil]; simp
  | case2 l h ih =>
    have := dec_ok h
    rw [runes_step h, List.length_cons]
    rw [List.length_drop] at ih
    omega
theorem runes_good (l : List UInt8) : ∀ v ∈ runes l, goodB v = true := by
  induction l using runes.induct with
  | case1 => rw [runes_nil]; simp
  | case2 l h ih =>
    intro v hv
    rw [runes_step h] at hv
    rcases List.mem_cons.1 hv with rfl | hv
    · exact (dec_ok h).2.2
    · exact ih v hv

theorem formV_ne (r : Int) (rest : List UInt8) : formV r ++ rest ≠ [] := by
  have := (formV_length r).1
  intro h
  have h2 := congrArg List.length h
  rw [List.length_append, List.length_nil] at h2
  omega
theorem dec_form_bad {r : Int} (hg : goodB r = true) (rest : List UInt8) : dec (formV r ++ rest) ≠ (65533, 1) := by
  rw [dec_formV hg]
  intro h
  injection h with h1 h2
  have := formV_head h2
  omega
theorem runes_form (r : Int) (rest : List UInt8) : runes (form r ++ rest) = sc r :: runes rest := by
  have hg := sc_good r
  have hb := sc_bounds r
  unfold form
  rw [runes_step (formV_ne _ _), dec_formV hg]
  simp only [List.drop_left]
  rw [Int.toNat_of_nonneg hb.1]
theorem whole_form (r : Int) (rest : List UInt8) : whole (form r ++ rest) = whole rest := by
  have hg := sc_good r
  unfold form
  rw [whole_step (formV_ne _ _) (dec_form_bad hg _), dec_formV hg]
  simp only [List.drop_left]
/-- WHAT IS WRITTEN IS READ AGAIN. -/
theorem runes_text (l : List Int) : runes (textL l) = l.map sc := by
  induction l with
  | nil => exact runes_nil
  | cons x l ih => rw [textL_cons, runes_form, ih, List.map_cons]
/-- WHAT IS TOLD IS ALWAYS WHOLE. -/
theorem whole_text (l : List Int) : whole (textL l) = true := by
  induction l with
  | nil => exact whole_nil
  | cons x l ih => rw [textL_cons, whole_form, ih]
theorem text_runes (l : List UInt8) (hw : whole l = true) : textL (runes l) = l := by
  induction l using runes.induct with
  | case1 => rw [runes_nil]; rfl
  | case2 l h ih =>
    by_cases hb : dec l = (65533, 1)
    · rw [whole_bad h hb] at hw; cases hw
    · rw [whole_step h hb] at hw
      rw [runes_step h, textL_cons, ih hw]
      have hf := formV_dec h hb
      unfold form
      rw [sc_yes (dec_ok h).2.2, hf, List.take_append_drop]
theorem text_runes_iff (l : List UInt8) : (textL (runes l) == l) = whole l := by
  cases hw : whole l with
  | true => rw [text_runes l hw]; simp
  | false =>
    rw [beq_eq_false_iff_ne]
    intro h
    have := whole_text (runes l)
    rw [h, hw] at this
    cases this

/-- Bytes that begin no form are one value each. -/
theorem runes_tail (l : List UInt8) (h : ∀ b ∈ l, 128 ≤ b.toNat ∧ b.toNat < 192) : (runes l).length = l.length := by
  induction l with
  | nil => rw [runes_nil]; rfl
  | cons a l ih =>
    have ha := h a (List.mem_cons_self ..)
    have hd : dec (a :: l) = (65533, 1) := by
      unfold dec
      simp only [List.length_cons, List.getElem?_cons_zero, Option.getD_some, List.getElem?_cons_succ]
      unfold Lib.decodeN
      repeat' split
      all_goals first | (exfalso; omega) | rfl
    rw [runes_step (by simp), hd]
    simp only [List.length_cons, List.drop_succ_cons, List.drop_zero]
    rw [ih fun b hb => h b (List.mem_cons_of_mem _ hb)]
theorem form_tail (r : Int) : ∀ b ∈ (formV r).drop 1, 128 ≤ b.toNat ∧ b.toNat < 192 := by
  have key : ∀ n : Int, 0 ≤ n → n < 64 → 128 ≤ (b8 (128 + n)).toNat ∧ (b8 (128 + n)).toNat < 192 := fun n h0 h1 => by
    have := b8_toNat (n := 128 + n) (by omega) (by omega)
    omega
  intro b hb
  unfold formV at hb
  repeat' split at hb
  all_goals simp at hb
  · rw [hb]; exact key _ (by omega) (by omega)
  · rcases hb with rfl | rfl <;> exact key _ (by omega) (by omega)
  · rcases hb with rfl | rfl | rfl <;> exact key _ (by omega) (by omega)

/-! ### the document's own reader of one form -/
def lead (c : Int) : Int := if 240 ≤ c then c - 240 else if 224 ≤ c then c - 224 else if 192 ≤ c then c - 192 else c
def acc (l : List UInt8) : Nat → Int
  | 0 => 0
  | 1 => lead ((l[0]?.getD 0).toNat : Int)
  | n + 2 => acc l (n + 1) * 64 + ((l[n + 1]?.getD 0).toNat : Int) % 64
theorem acc_next (l : List UInt8) (n : Nat) : acc l (n + 2) = acc l (n + 1) * 64 + ((l[n + 1]?.getD 0).toNat : Int) % 64 := rfl
theorem lead_bounds (c : UInt8) : 0 ≤ lead (c.toNat : Int) ∧ lead (c.toNat : Int) < 192 := by
  have := c.toNat_lt
  unfold lead
  repeat' split
  all_goals omega
theorem acc_bounds (l : List UInt8) : 0 ≤ acc l 0 ∧ acc l 0 < 192 ∧ 0 ≤ acc l 1 ∧ acc l 1 < 192 ∧ 0 ≤ acc l 2 ∧ acc l 2 < 12288 ∧ 0 ≤ acc l 3 ∧ acc l 3 < 786432 ∧ 0 ≤ acc l 4 ∧ acc l 4 < 50331648 := by
  have h1 := lead_bounds (l[0]?.getD 0)
  have e1 : acc l 1 = lead ((l[0]?.getD 0).toNat : Int) := rfl
  have e2 := acc_next l 0
  have e3 := acc_next l 1
  have e4 := acc_next l 2
  have e0 : acc l 0 = 0 := rfl
  simp only [Nat.zero_add, show 1 + 2 = 3 from rfl, show 2 + 2 = 4 from rfl, show 1 + 1 = 2 from rfl] at e2 e3 e4
  omega
theorem acc_small (l : List UInt8) (n : Nat) (h : n ≤ 4) : 0 ≤ acc l n ∧ acc l n < 50331648 := by
  have := acc_bounds l
  rcases (show n = 0 ∨ n = 1 ∨ n = 2 ∨ n = 3 ∨ n = 4 by omega) with rfl | rfl | rfl | rfl | rfl <;> omega
/-- A form of so many bytes begins the text. -/
def hit (l : List UInt8) (n : Nat) : Bool := goodB (acc l n) && (formV (acc l n) == l.take n)
theorem hit_dec {l : List UInt8} {n : Nat} (hn : n ≤ l.length) (h : hit l n = true) : dec l = ((acc l n).toNat, n) := by
  simp only [hit, Bool.and_eq_true, beq_iff_eq] at h
  have := dec_formV h.1 (l.drop n)
  rw [h.2, List.take_append_drop, List.length_take, Nat.min_eq_left hn] at this
  exact this
set_option maxRecDepth 100000 in
set_option maxHeartbeats 2000000 in
theorem acc_dec (l : List UInt8) (hb : dec l ≠ (65533, 1)) : acc l (dec l).2 = ((dec l).1 : Int) := by
  have e1 : acc l 1 = lead ((l[0]?.getD 0).toNat : Int) := rfl
  have e2 := acc_next l 0
  have e3 := acc_next l 1
  have e4 := acc_next l 2
  simp only [Nat.zero_add, show 1 + 2 = 3 from rfl, show 2 + 2 = 4 from rfl, show 1 + 1 = 2 from rfl] at e2 e3 e4
  unfold dec at *
  have h0 := (l[0]?.getD 0).toNat_lt
  generalize (l[0]?.getD 0).toNat = b0 at *
  generalize (l[1]?.getD 0).toNat = b1 at *
  generalize (l[2]?.getD 0).toNat = b2 at *
  generalize (l[3]?.getD 0).toNat = b3 at *
  unfold lead at e1
  unfold Lib.decodeN at *
  split at hb
  · rename_i c1
    rw [if_pos c1]
    simp only
    rw [e1, if_neg (by omega), if_neg (by omega), if_neg (by omega)]
  · rename_i c1
    rw [if_neg c1]
    split at hb
    · rename_i c2
      rw [if_pos c2]
      split at hb
      · rename_i c3
        rw [if_pos c3]
        simp only
        rw [e2, e1, if_neg (by omega), if_neg (by omega), if_pos (by omega)]
        omega
      · exact absurd rfl hb
    · rename_i c2
      rw [if_neg c2]
      split at hb
      · rename_i c3
        rw [if_pos c3]
        split at hb
        · rename_i c4
          rw [if_pos c4]
          simp only
          rw [e3, e2, e1, if_neg (by omega), if_pos (by omega)]
          omega
        · exact absurd rfl hb
      · rename_i c3
        rw [if_neg c3]
        split at hb
        · rename_i c4
          rw [if_pos c4]
          split at hb
          · rename_i c5
            rw [if_pos c5]
            simp only
            rw [e4, e3, e2, e1, if_pos (by omega)]
            omega
          · exact absurd rfl hb
        · exact absurd rfl hb
theorem dec_le4 (l : List UInt8) : (dec l).2 ≤ 4 := by
  unfold dec Lib.decodeN
  repeat' split
  all_goals simp only <;> omega
theorem dec_hit {l : List UInt8} (h : l ≠ []) (hb : dec l ≠ (65533, 1)) : hit l (dec l).2 = true := by
  have ha := acc_dec l hb
  simp only [hit, Bool.and_eq_true, beq_iff_eq]
  rw [ha]
  exact ⟨(dec_ok h).2.2, formV_dec h hb⟩
theorem hit_only {l : List UInt8} {n : Nat} (hn : n ≤ l.length) (h : hit l n = true) : n = (dec l).2 := by rw [hit_dec hn h]
theorem hit_none {l : List UInt8} {n : Nat} (hn : n ≤ l.length) (hd : dec l = (65533, 1)) : hit l n = false := by
  cases hh : hit l n with
  | false => rfl
  | true =>
    have h1 := hit_dec hn hh
    simp only [hit, Bool.and_eq_true, beq_iff_eq] at hh
    have := dec_form_bad hh.1 (l.drop n)
    rw [hh.2, List.take_append_drop] at this
    exact absurd hd this
/-- What Take tells. -/
def tkR (l : List UInt8) : Int := if dec l = (65533, 1) then 0 else ((dec l).1 : Int)
def tkN (l : List UInt8) : Nat := if dec l = (65533, 1) then 0 else (dec l).2
end Go.Proofs.Ytclehobammhjmaa
