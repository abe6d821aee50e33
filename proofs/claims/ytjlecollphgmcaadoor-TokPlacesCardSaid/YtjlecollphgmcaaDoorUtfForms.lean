/-
  UTF-8 as plain lists of bytes: forms, what is read of a text, and when a text is whole.
-/
import Derived.Test.YtjlecollphgmcaaDoorUtfPure
namespace Go.Proofs.YtjlecollphgmcaaDoor

def b8 (n : Int) : UInt8 := UInt8.ofNat n.toNat
theorem b8_toNat {n : Int} (h0 : 0 ≤ n) (h1 : n < 256) : ((b8 n).toNat : Int) = n := by
  have : n.toNat < 256 := by omega
  unfold b8
  rw [UInt8.toNat_ofNat_of_lt' this]
  omega
/-- A scalar value's form; of what is none Repl's. -/
def formV (r : Int) : List UInt8 :=
  if r < 128 then [b8 r]
  else if r < 2048 then [b8 (192 + r / 64), b8 (128 + r % 64)]
  else if r < 65536 then [b8 (224 + r / 4096), b8 (128 + r / 64 % 64), b8 (128 + r % 64)]
  else [b8 (240 + r / 262144), b8 (128 + r / 4096 % 64), b8 (128 + r / 64 % 64), b8 (128 + r % 64)]
def form (r : Int) : List UInt8 := formV (sc r)
theorem form_sc (r : Int) : form (sc r) = form r := by unfold form; rw [sc_sc]
theorem formV_length (r : Int) : 1 ≤ (formV r).length ∧ (formV r).length ≤ 4 := by
  unfold formV
  repeat' split
  all_goals simp
def textL (l : List Int) : List UInt8 := l.flatMap form
theorem textL_cons (x : Int) (l : List Int) : textL (x :: l) = form x ++ textL l := by simp [textL]
theorem textL_append (a b : List Int) : textL (a ++ b) = textL a ++ textL b := by simp [textL]
theorem textL_length (l : List Int) : (textL l).length ≤ 4 * l.length := by
  induction l with
  | nil => simp [textL]
  | cons x l ih =>
    have h := (formV_length (sc x)).2
    have e : (form x).length ≤ 4 := h
    rw [textL_cons, List.length_append, List.length_cons]
    omega

/-- What is read at a text's head: the value, and how many bytes it has; Repl and one byte where no form begins. -/
def dec (l : List UInt8) : Nat × Nat := Lib.decodeN l.length (l[0]?.getD 0).toNat (l[1]?.getD 0).toNat (l[2]?.getD 0).toNat (l[3]?.getD 0).toNat

set_option maxRecDepth 100000 in
set_option maxHeartbeats 4000000 in
theorem decodeN_ok (n b0 b1 b2 b3 : Nat) (hn : 1 ≤ n) (h0 : b0 < 256) :
    1 ≤ (Lib.decodeN n b0 b1 b2 b3).2 ∧ (Lib.decodeN n b0 b1 b2 b3).2 ≤ n ∧ (Lib.decodeN n b0 b1 b2 b3).1 ≤ 1114111 ∧ ((Lib.decodeN n b0 b1 b2 b3).1 < 55296 ∨ 57343 < (Lib.decodeN n b0 b1 b2 b3).1) := by
  unfold Lib.decodeN
  repeat' split
  all_goals (simp only; omega)
theorem dec_ok {l : List UInt8} (h : l ≠ []) : 1 ≤ (dec l).2 ∧ (dec l).2 ≤ l.length ∧ goodB ((dec l).1 : Int) = true := by
  have hl : 1 ≤ l.length := by cases l with
    | nil => exact absurd rfl h
    | cons a r => simp
  have := decodeN_ok l.length (l[0]?.getD 0).toNat (l[1]?.getD 0).toNat (l[2]?.getD 0).toNat (l[3]?.getD 0).toNat hl (UInt8.toNat_lt _)
  rw [goodB_iff]
  unfold dec
  omega

set_option maxRecDepth 100000 in
set_option maxHeartbeats 4000000 in
/-- A form is read as its value. -/
theorem dec_formV {r : Int} (hg : goodB r = true) (rest : List UInt8) : dec (formV r ++ rest) = (r.toNat, (formV r).length) := by
  rw [goodB_iff] at hg
  have hn : ∀ k : Int, 0 ≤ k → k < 256 → (b8 k).toNat = k.toNat := fun k h0 h1 => by have := b8_toNat h0 h1; omega
  unfold formV dec
  split
  · simp only [List.singleton_append, List.length_cons, List.getElem?_cons_zero, Option.getD_some, hn r (by omega) (by omega), List.length_nil]
    have : r.toNat < 128 := by omega
    simp [Lib.decodeN, this]
  · split
    · simp only [List.cons_append, List.nil_append, List.length_cons, List.getElem?_cons_zero, List.getElem?_cons_succ, Option.getD_some, List.length_nil]
      rw [hn (192 + r / 64) (by omega) (by omega), hn (128 + r % 64) (by omega) (by omega)]
      generalize hx : (192 + r / 64).toNat = x
      generalize hy : (128 + r % 64).toNat = y
      unfold Lib.decodeN
      repeat' split
      all_goals first | (exfalso; omega) | (apply Prod.ext <;> simp only <;> omega)
    · split
      · simp only [List.cons_append, List.nil_append, List.length_cons, List.getElem?_cons_zero, List.getElem?_cons_succ, Option.getD_some, List.length_nil]
        rw [hn (224 + r / 4096) (by omega) (by omega), hn (128 + r / 64 % 64) (by omega) (by omega), hn (128 + r % 64) (by omega) (by omega)]
        generalize hx : (224 + r / 4096).toNat = x
        generalize hy : (128 + r / 64 % 64).toNat = y
        generalize hz : (128 + r % 64).toNat = z
        unfold Lib.decodeN
        repeat' split
        all_goals first | (exfalso; omega) | (apply Prod.ext <;> simp only <;> omega)
      · simp only [List.cons_append, List.nil_append, List.length_cons, List.getElem?_cons_zero, List.getElem?_cons_succ, Option.getD_some, List.length_nil]
        rw [hn (240 + r / 262144) (by omega) (by omega), hn (128 + r / 4096 % 64) (by omega) (by omega), hn (128 + r / 64 % 64) (by omega) (by omega), hn (128 + r % 64) (by omega) (by omega)]
        generalize hx : (240 + r / 262144).toNat = x
        generalize hy : (128 + r / 4096 % 64).toNat = y
        generalize hz : (128 + r / 64 % 64).toNat = z
        generalize hu : (128 + r % 64).toNat = u
        unfold Lib.decodeN
        repeat' split
        all_goals first | (exfalso; omega) | (apply Prod.ext <;> simp only <;> omega)

theorem formV_head {r : Int} (h : (formV r).length = 1) : r < 128 := by
  unfold formV at h
  by_cases h1 : r < 128
  · exact h1
  · rw [if_neg h1] at h
    split at h
    · simp at h
    · split at h
      · simp at h
      · simp at h

theorem u8_eq {a : UInt8} {n : Int} (h0 : 0 ≤ n) (h1 : n < 256) (h : (a.toNat : Int) = n) : b8 n = a := by
  apply UInt8.toNat_inj.1
  have := b8_toNat h0 h1
  omega

set_option maxRecDepth 100000 in
set_option maxHeartbeats 4000000 in
/-- What is read as a form is its value's form; and what the document's own reader reckons up is this value. -/
theorem formV_dec {l : List UInt8} (h : l ≠ []) (hb : dec l ≠ (65533, 1)) : formV ((dec l).1 : Int) = l.take (dec l).2 := by
  unfold dec at *
  match l, h with
  | [a], _ =>
    have := a.toNat_lt
    simp only [List.length_cons, List.length_nil, List.getElem?_cons_zero, Option.getD_some, Nat.zero_add, List.getElem?_cons_succ, List.getElem?_nil, Option.getD_none, UInt8.toNat_zero] at hb ⊢
    unfold Lib.decodeN at *
    split at hb
    · rename_i h1
      rw [if_pos h1]
      simp only [formV]
      rw [if_pos (by omega), u8_eq (a := a) (by omega) (by omega) rfl]
      rfl
    · exfalso
      simp at hb
  | [a, b], _ =>
    have ha := a.toNat_lt
    have hb' := b.toNat_lt
    simp only [List.length_cons, List.length_nil, List.getElem?_cons_zero, Option.getD_some, Nat.zero_add, List.getElem?_cons_succ, List.getElem?_nil, Option.getD_none, UInt8.toNat_zero] at hb ⊢
    unfold Lib.decodeN at *
    repeat' split at hb
    all_goals first
      | (exfalso; omega)
      | (exfalso; exact hb rfl)
      | skip
    · rw [if_pos (by assumption)]
      simp only [formV]
      rw [if_pos (by omega), u8_eq (a := a) (by omega) (by omega) rfl]
      rfl
    · rw [if_neg (by assumption), if_pos (by assumption), if_pos (by assumption)]
      simp only [formV]
      rw [if_neg (by omega), if_pos (by omega), u8_eq (a := a) (by omega) (by omega) (by omega), u8_eq (a := b) (by omega) (by omega) (by omega)]
      rfl
  | [a, b, c], _ =>
    have ha := a.toNat_lt
    have hb' := b.toNat_lt
    have hc := c.toNat_lt
    simp only [List.length_cons, List.length_nil, List.getElem?_cons_zero, Option.getD_some, Nat.zero_add, List.getElem?_cons_succ, List.getElem?_nil, Option.getD_none, UInt8.toNat_zero] at hb ⊢
    unfold Lib.decodeN at *
    repeat' split at hb
    all_goals first
      | (exfalso; omega)
      | (exfalso; exact hb rfl)
      | skip
    · rw [if_pos (by assumption)]
      simp only [formV]
      rw [if_pos (by omega), u8_eq (a := a) (by omega) (by omega) rfl]
      rfl
    · rw [if_neg (by assumption), if_pos (by assumption), if_pos (by assumption)]
      simp only [formV]
      rw [if_neg (by omega), if_pos (by omega), u8_eq (a := a) (by omega) (by omega) (by omega), u8_eq (a := b) (by omega) (by omega) (by omega)]
      rfl
    · rw [if_neg (by assumption), if_neg (by assumption), if_pos (by assumption), if_pos (by assumption)]
      simp only [formV]
      rw [if_neg (by omega), if_neg (by omega), if_pos (by omega), u8_eq (a := a) (by omega) (by omega) (by omega), u8_eq (a := b) (by omega) (by omega) (by omega), u8_eq (a := c) (by omega) (by omega) (by omega)]
      rfl
  | a :: b :: c :: d :: rest, _ =>
    have ha := a.toNat_lt
    have hb' := b.toNat_lt
    have hc := c.toNat_lt
    have hd := d.toNat_lt
    simp only [List.length_cons, List.getElem?_cons_zero, Option.getD_some, List.getElem?_cons_succ] at hb ⊢
    unfold Lib.decodeN at *
    repeat' split at hb
    all_goals first
      | (exfalso; omega)
      | (exfalso; exact hb rfl)
      | skip
    · rw [if_pos (by assumption)]
      simp only [formV]
      rw [if_pos (by omega), u8_eq (a := a) (by omega) (by omega) rfl]
      rfl
    · rw [if_neg (by assumption), if_pos (by assumption), if_pos (by assumption)]
      simp only [formV]
      rw [if_neg (by omega), if_pos (by omega), u8_eq (a := a) (by omega) (by omega) (by omega), u8_eq (a := b) (by omega) (by omega) (by omega)]
      rfl
    · rw [if_neg (by assumption), if_neg (by assumption), if_pos (by assumption), if_pos (by assumption)]
      simp only [formV]
      rw [if_neg (by omega), if_neg (by omega), if_pos (by omega), u8_eq (a := a) (by omega) (by omega) (by omega), u8_eq (a := b) (by omega) (by omega) (by omega), u8_eq (a := c) (by omega) (by omega) (by omega)]
      rfl
    · rw [if_neg (by assumption), if_neg (by assumption), if_neg (by assumption), if_pos (by assumption), if_pos (by assumption)]
      simp only [formV]
      rw [if_neg (by omega), if_neg (by omega), if_neg (by omega), u8_eq (a := a) (by omega) (by omega) (by omega), u8_eq (a := b) (by omega) (by omega) (by omega), u8_eq (a := c) (by omega) (by omega) (by omega), u8_eq (a := d) (by omega) (by omega) (by omega)]
      rfl
end Go.Proofs.YtjlecollphgmcaaDoor
