/-
  Layer 3 as plain functions of lists of bytes: classes, what is skipped, words, numbers, names read and written; and what follows of these.
-/
import Derived.Test.YtjlecollphgmcaaDoorHexPack
import Derived.Test.YtjlecollphgmcaaDoorHexHex
namespace Go.Proofs.YtjlecollphgmcaaDoor

/-! ### Classes -/
def dl (c : Int) : Prop := c = 40 ∨ c = 60 ∨ c = 91 ∨ c = 123 ∨ c = 41 ∨ c = 62 ∨ c = 93 ∨ c = 125 ∨ c = 47 ∨ c = 37
instance (c : Int) : Decidable (dl c) := by unfold dl; infer_instance
def cls (c : Int) : Int := if dl c then 2 else if kz c = 1 then 1 else 0
def cb (b : UInt8) : Int := cls (b.toNat : Int)
theorem cls_cases (c : Int) : cls c = 0 ∨ cls c = 1 ∨ cls c = 2 := by
  unfold cls; repeat' split
  all_goals simp
theorem drop_at {l : List UInt8} {k : Nat} {x : UInt8} (h : k < l.length) (hx : x = l[k]?.getD 0) : l.drop k = x :: l.drop (k + 1) := by
  rw [List.drop_eq_getElem_cons h, hx, List.getElem?_eq_getElem h]; rfl
theorem take_at {l : List UInt8} {k : Nat} {x : UInt8} (h : k < l.length) (hx : x = l[k]?.getD 0) : l.take (k + 1) = l.take k ++ [x] := by
  rw [List.take_succ_eq_append_getElem h, hx, List.getElem?_eq_getElem h]; rfl
theorem eq_of_toNat {x y : UInt8} (h : x.toNat = y.toNat) : x = y := UInt8.toNat_inj.1 h

/-! ### Places -/
def pl (n : Nat) (a : Int) : Nat := min a.toNat n
theorem pl_le (n : Nat) (a : Int) : pl n a ≤ n := Nat.min_le_right _ _
theorem pl_of (n k : Nat) (h : k ≤ n) : pl n (k : Int) = k := by unfold pl; omega

/-! ### What is skipped -/
def nl (b : UInt8) : Bool := b == 10 || b == 13
def wh (b : UInt8) : Bool := kb b == 1
def sk : Bool → List UInt8 → Nat
  | _, [] => 0
  | true, b :: t => sk (!nl b) t + 1
  | false, b :: t => if b = 37 then sk true t + 1 else if wh b then sk false t + 1 else 0
theorem sk_nil (r : Bool) : sk r [] = 0 := by cases r <;> rfl
theorem sk_t (b : UInt8) (t : List UInt8) : sk true (b :: t) = sk (!nl b) t + 1 := rfl
theorem sk_rem (t : List UInt8) : sk false (37 :: t) = sk true t + 1 := rfl
theorem sk_wh {b : UInt8} (t : List UInt8) (h : b ≠ 37) (hw : wh b = true) : sk false (b :: t) = sk false t + 1 := by show (if b = 37 then _ else _) = _; rw [if_neg h, if_pos hw]
theorem sk_no {b : UInt8} (t : List UInt8) (h : b ≠ 37) (hw : wh b = false) : sk false (b :: t) = 0 := by show (if b = 37 then _ else _) = _; rw [if_neg h, hw]; rfl
def eol : List UInt8 → Nat
  | [] => 0
  | b :: t => if nl b then 0 else eol t + 1
theorem eol_le : ∀ l : List UInt8, eol l ≤ l.length
  | [] => Nat.le_refl _
  | b :: t => by have := eol_le t; unfold eol; split <;> simp <;> omega
theorem sk_le : ∀ (l : List UInt8) (r : Bool), sk r l ≤ l.length
  | [], r => by cases r <;> simp [sk]
  | b :: t, true => by have := sk_le t (!nl b); simp only [sk, List.length_cons]; omega
  | b :: t, false => by
    have h1 := sk_le t true
    have h2 := sk_le t false
    simp only [sk, List.length_cons]
    split
    · omega
    · split <;> omega
theorem eol_y {b : UInt8} (t : List UInt8) (h : nl b = true) : eol (b :: t) = 0 := by show (if nl b then _ else _) = _; rw [h]; rfl
theorem eol_n {b : UInt8} (t : List UInt8) (h : nl b = false) : eol (b :: t) = eol t + 1 := by show (if nl b then _ else _) = _; rw [h]; rfl
theorem sk_eol : ∀ l : List UInt8, sk true l = if eol l < l.length then eol l + 1 + sk false (l.drop (eol l + 1)) else l.length
  | [] => by simp [sk, eol]
  | b :: t => by
    have ih := sk_eol t
    rw [sk_t]
    cases hb : nl b with
    | true => rw [eol_y t hb]; simp; omega
    | false =>
      rw [eol_n t hb, Bool.not_false, ih, List.length_cons, List.drop_succ_cons]
      by_cases h : eol t < t.length
      · rw [if_pos h, if_pos (by omega)]; omega
      · rw [if_neg h, if_neg (by omega)]
theorem sk_end : ∀ (l : List UInt8) (r : Bool), sk false (l.drop (sk r l)) = 0
  | [], r => by cases r <;> simp [sk]
  | b :: t, true => by rw [sk_t, List.drop_succ_cons]; exact sk_end t _
  | b :: t, false => by
    by_cases h : b = 37
    · subst h; rw [sk_rem, List.drop_succ_cons]; exact sk_end t _
    · cases hw : wh b with
      | true => rw [sk_wh t h hw, List.drop_succ_cons]; exact sk_end t _
      | false => rw [sk_no t h hw, List.drop_zero, sk_no t h hw]
theorem sk_zero {x : UInt8} {t : List UInt8} (h : sk false (x :: t) = 0) : x ≠ 37 ∧ wh x = false := by
  by_cases hx : x = 37
  · subst hx; rw [sk_rem] at h; omega
  · cases hw : wh x with
    | true => rw [sk_wh t hx hw] at h; omega
    | false => exact ⟨hx, rfl⟩
theorem sk_remark (t : List UInt8) : sk false (37 :: t) = sk true (37 :: t) := by simp [sk, nl]
theorem sk_note : ∀ (f s : List UInt8), (∀ b ∈ f, nl b = false) → sk true (f ++ 10 :: s) = f.length + 1 + sk false s
  | [], s, _ => by simp [sk, nl]; omega
  | b :: f, s, h => by
    have ih := sk_note f s fun x hx => h x (by simp [hx])
    have hb := h b (by simp)
    simp only [List.cons_append, sk, hb, Bool.not_false, ih, List.length_cons]
    omega
theorem sk_text (f s : List UInt8) (h : ∀ b ∈ f, nl b = false) : sk false (([32, 37] ++ f ++ [10]) ++ s) = ([32, 37] ++ f ++ [10]).length + sk false s := by
  have e : ([32, 37] ++ f ++ [10]) ++ s = 32 :: 37 :: (f ++ 10 :: s) := by simp
  have hw : wh 32 = true := by decide
  rw [e, sk_wh _ (by decide) hw, sk_rem, sk_note f s h]
  simp; omega

/-! ### Words -/
def rg (b : UInt8) : Bool := cb b == 0
def wn : List UInt8 → Nat
  | [] => 0
  | b :: t => if rg b then wn t + 1 else 0
theorem wn_y {b : UInt8} (t : List UInt8) (h : rg b = true) : wn (b :: t) = wn t + 1 := by show (if rg b then _ else _) = _; rw [h]; rfl
theorem wn_n {b : UInt8} (t : List UInt8) (h : rg b = false) : wn (b :: t) = 0 := by show (if rg b then _ else _) = _; rw [h]; rfl
theorem wn_le : ∀ l : List UInt8, wn l ≤ l.length
  | [] => Nat.le_refl _
  | b :: t => by have := wn_le t; unfold wn; split <;> simp <;> omega
theorem wn_stop : ∀ (l : List UInt8), wn l < l.length → rg (l[wn l]?.getD 0) = false
  | [], h => by simp [wn] at h
  | b :: t, h => by
    unfold wn at h ⊢
    cases hb : rg b with
    | true => rw [hb] at h; simp at h ⊢; exact wn_stop t h
    | false => simp [hb]
theorem wn_in : ∀ (l : List UInt8) (j : Nat), j < wn l → rg (l[j]?.getD 0) = true
  | [], j, h => by simp [wn] at h
  | b :: t, j, h => by
    unfold wn at h
    cases hb : rg b with
    | false => rw [hb] at h; simp at h
    | true =>
      rw [hb] at h; simp at h
      cases j with
      | zero => simpa using hb
      | succ j => simpa using wn_in t j (by omega)
theorem wn_drop : ∀ (l : List UInt8) (j : Nat), j ≤ wn l → wn (l.drop j) + j = wn l
  | [], j, h => by simp [wn] at h; simp [wn, h]
  | b :: t, j, h => by
    cases j with
    | zero => rfl
    | succ j =>
      cases hb : rg b with
      | false => rw [wn_n t hb] at h; omega
      | true =>
        rw [wn_y t hb] at h ⊢
        have := wn_drop t j (by omega)
        rw [List.drop_succ_cons]
        omega
theorem wn_all : ∀ (t r : List UInt8) (x : UInt8), (∀ b ∈ t, rg b = true) → rg x = false → wn (t ++ x :: r) = t.length
  | [], r, x, _, hx => by simp [wn, hx]
  | b :: t, r, x, h, hx => by
    have ih := wn_all t r x (fun y hy => h y (by simp [hy])) hx
    simp [wn, h b (by simp), ih]

/-! ### Numbers -/
def dg (b : UInt8) : Bool := decide (48 ≤ b.toNat) && decide (b.toNat ≤ 57)
def valF (a : Nat) (l : List UInt8) : Nat := l.foldl (fun v b => v * 10 + (b.toNat - 48)) a
def val (l : List UInt8) : Nat := valF 0 l
theorem val_snoc (l : List UInt8) (b : UInt8) : val (l ++ [b]) = val l * 10 + (b.toNat - 48) := by simp [val, valF]
theorem valF_cons (a : Nat) (b : UInt8) (l : List UInt8) : valF a (b :: l) = valF (a * 10 + (b.toNat - 48)) l := by simp only [valF, List.foldl_cons]
theorem val_zero (l : List UInt8) : val (48 :: l) = val l := by
  have e : 0 * 10 + ((48 : UInt8).toNat - 48) = 0 := by decide
  unfold val; rw [valF_cons, e]
theorem val_zeros (m : Nat) (l : List UInt8) : val (List.replicate m 48 ++ l) = val l := by
  induction m with
  | zero => rfl
  | succ m ih => rw [List.replicate_succ, List.cons_append, val_zero]; exact ih
def ng : List UInt8 → Bool
  | [] => false
  | b :: _ => b == 45
def bd : List UInt8 → List UInt8
  | [] => []
  | b :: t => if b == 45 || b == 43 then t else b :: t
def sgn (l : List UInt8) : Int := if ng l then -1 else 1
def okD (d : List UInt8) : Bool := !d.isEmpty && d.all dg
def iv (l : List UInt8) : Int := sgn l * (val (bd l) : Int)
def inR (v : Int) : Bool := decide (-2147483648 ≤ v) && decide (v ≤ 2147483647)
def inN (l : List UInt8) : Int := if okD (bd l) && inR (iv l) then iv l else 0
def inE (l : List UInt8) : Int := if okD (bd l) then (if inR (iv l) then 0 else 4) else 3
theorem bd_le (l : List UInt8) : (bd l).length ≤ l.length := by
  cases l with
  | nil => exact Nat.le_refl _
  | cons b t =>
    show (if b == 45 || b == 43 then t else b :: t).length ≤ _
    split <;> simp
theorem sgn_cases (l : List UInt8) : sgn l = 1 ∨ sgn l = -1 := by unfold sgn; split <;> simp
theorem in_form {l : List UInt8} (h : okD (bd l) = false) : inN l = 0 ∧ inE l = 3 := by simp [inN, inE, h]
theorem in_big {l : List UInt8} (h : okD (bd l) = true) (hr : inR (iv l) = false) : inN l = 0 ∧ inE l = 4 := by simp [inN, inE, h, hr]
theorem in_ok {l : List UInt8} (h : okD (bd l) = true) (hr : inR (iv l) = true) : inN l = iv l ∧ inE l = 0 := by simp [inN, inE, h, hr]
theorem in_cases (l : List UInt8) : (inN l = 0 ∧ inE l = 3) ∨ (inN l = 0 ∧ inE l = 4) ∨ (okD (bd l) = true ∧ inR (iv l) = true ∧ inN l = iv l ∧ inE l = 0) := by
  cases h : okD (bd l) with
  | false => exact .inl (in_form h)
  | true =>
    cases hr : inR (iv l) with
    | false => exact .inr (.inl (in_big h hr))
    | true => exact .inr (.inr ⟨rfl, rfl, in_ok h hr⟩)
theorem okD_iff {d : List UInt8} : okD d = true ↔ d ≠ [] ∧ ∀ b ∈ d, dg b = true := by
  unfold okD
  simp only [Bool.and_eq_true, Bool.not_eq_true', List.isEmpty_eq_false_iff, List.all_eq_true]
theorem dg_iff {b : UInt8} : dg b = true ↔ 48 ≤ b.toNat ∧ b.toNat ≤ 57 := by simp [dg]
/-- A text that begins with a digit has no sign. -/
theorem bd_digit {b : UInt8} {t : List UInt8} (h : dg b = true) : bd (b :: t) = b :: t ∧ ng (b :: t) = false := by
  rw [dg_iff] at h
  have h1 : (b == 45) = false := by rw [beq_eq_false_iff_ne]; rintro rfl; simp at h
  have h2 : (b == 43) = false := by rw [beq_eq_false_iff_ne]; rintro rfl; simp at h
  simp [bd, ng, h1, h2]
theorem bd_okD {d : List UInt8} (h : okD d = true) : bd d = d ∧ ng d = false := by
  rw [okD_iff] at h
  cases d with
  | nil => exact absurd rfl h.1
  | cons b t => exact bd_digit (h.2 b (by simp))
/-- Of digits alone. -/
theorem in_digits {d : List UInt8} (h : okD d = true) : (val d ≤ 2147483647 → inN d = (val d : Int) ∧ inE d = 0) ∧ (2147483647 < val d → inN d = 0 ∧ inE d = 4) := by
  obtain ⟨h1, h2⟩ := bd_okD h
  have hi : iv d = (val d : Int) := by simp [iv, sgn, h1, h2]
  constructor
  · intro hv
    rw [← hi]
    exact in_ok (by rw [h1]; exact h) (by simp only [inR, hi, Bool.and_eq_true, decide_eq_true_eq]; omega)
  · intro hv
    exact in_big (by rw [h1]; exact h) (by simp only [inR, hi, Bool.and_eq_false_iff, decide_eq_false_iff_not]; omega)
/-- Of digits behind "-". -/
theorem in_minus {d : List UInt8} (h : okD d = true) (hv : val d ≤ 2147483648) : inN (45 :: d) = -(val d : Int) ∧ inE (45 :: d) = 0 := by
  have h1 : bd (45 :: d) = d := by simp [bd]
  have hi : iv (45 :: d) = -(val d : Int) := by simp [iv, sgn, h1, ng]
  rw [← hi]
  exact in_ok (by rw [h1]; exact h) (by simp only [inR, hi, Bool.and_eq_true, decide_eq_true_eq]; omega)
/-- Of digits behind "+". -/
theorem in_plus {d : List UInt8} (h : okD d = true) (hv : val d ≤ 2147483647) : inN (43 :: d) = (val d : Int) ∧ inE (43 :: d) = 0 := by
  have h1 : bd (43 :: d) = d := by simp [bd]
  have hi : iv (43 :: d) = (val d : Int) := by simp [iv, sgn, h1, ng]
  rw [← hi]
  exact in_ok (by rw [h1]; exact h) (by simp only [inR, hi, Bool.and_eq_true, decide_eq_true_eq]; omega)
theorem in_twice {b : UInt8} {t : List UInt8} (h : b = 45 ∨ b = 43) : inE (43 :: b :: t) = 3 := by
  have h1 : bd (43 :: b :: t) = b :: t := by simp [bd]
  refine (in_form ?_).2
  rw [h1]
  rcases h with rfl | rfl <;> simp [okD, dg]
theorem okD_zeros {d : List UInt8} (h : okD d = true) (m : Nat) : okD (List.replicate m 48 ++ d) = true := by
  rw [okD_iff] at h ⊢
  refine ⟨by simp [h.1], fun b hb => ?_⟩
  rcases List.mem_append.1 hb with hb | hb
  · rw [List.eq_of_mem_replicate hb]; decide
  · exact h.2 b hb
theorem okD_snoc {d : List UInt8} (h : okD d = true) {b : UInt8} (hb : dg b = true) : okD (d ++ [b]) = true := by
  rw [okD_iff] at h ⊢
  refine ⟨by simp, fun y hy => ?_⟩
  rcases List.mem_append.1 hy with hy | hy
  · exact h.2 y hy
  · simp at hy; rw [hy]; exact hb

/-! ### Names -/
def esc : List UInt8 → Option UInt8
  | c :: a :: b :: _ => if c = 35 ∧ 2 ≤ kb a ∧ 2 ≤ kb b then some (UInt8.ofNat (16 * (kb a - 2).toNat + (kb b - 2).toNat)) else none
  | _ => none
def nameL : List UInt8 → List UInt8
  | [] => []
  | c :: t => match esc (c :: t) with
    | some v => v :: nameL (t.drop 2)
    | none => c :: nameL t
termination_by l => l.length
decreasing_by all_goals (simp; try omega)
theorem esc_3 (c a b : UInt8) (r : List UInt8) : esc (c :: a :: b :: r) = if c = 35 ∧ 2 ≤ kb a ∧ 2 ≤ kb b then some (UInt8.ofNat (16 * (kb a - 2).toNat + (kb b - 2).toNat)) else none := rfl
theorem nameL_nil : nameL [] = [] := by rw [nameL]
theorem nameL_some {c v : UInt8} {t : List UInt8} (h : esc (c :: t) = some v) : nameL (c :: t) = v :: nameL (t.drop 2) := by rw [nameL, h]
theorem nameL_none {c : UInt8} {t : List UInt8} (h : esc (c :: t) = none) : nameL (c :: t) = c :: nameL t := by rw [nameL, h]
theorem esc_len {c v : UInt8} {t : List UInt8} (h : esc (c :: t) = some v) : 2 ≤ t.length ∧ c = 35 := by
  match t, h with
  | [], h => simp [esc] at h
  | [a], h => simp [esc] at h
  | a :: b :: r, h =>
    rw [esc_3] at h
    by_cases hc : c = 35 ∧ 2 ≤ kb a ∧ 2 ≤ kb b
    · exact ⟨by simp, hc.1⟩
    · rw [if_neg hc] at h; cases h
theorem nameL_le (n : Nat) : ∀ l : List UInt8, l.length ≤ n → (nameL l).length ≤ l.length := by
  induction n with
  | zero => intro l h; cases l with
    | nil => simp [nameL_nil]
    | cons c t => simp at h
  | succ n ih =>
    intro l h
    cases l with
    | nil => simp [nameL_nil]
    | cons c t =>
      simp only [List.length_cons] at h
      cases he : esc (c :: t) with
      | none => rw [nameL_none he]; have := ih t (by omega); simp; omega
      | some v => rw [nameL_some he]; have := ih (t.drop 2) (by rw [List.length_drop]; omega); rw [List.length_drop] at this; simp; omega
theorem nameL_length (l : List UInt8) : (nameL l).length ≤ l.length := nameL_le _ l (Nat.le_refl _)
/-- Must a byte be written by digits? -/
def need (b : UInt8) : Bool := b == 35 || decide (b.toNat < 33) || decide (126 < b.toNat) || !rg b
def wb (b : UInt8) : List UInt8 := if need b then 35 :: hx b else [b]
def wrL (l : List UInt8) : List UInt8 := l.flatMap wb
theorem wrL_cons (b : UInt8) (l : List UInt8) : wrL (b :: l) = wb b ++ wrL l := by simp [wrL]
theorem wb_length (b : UInt8) : 1 ≤ (wb b).length ∧ (wb b).length ≤ 3 := by unfold wb; split <;> simp [hx]
theorem wrL_length (l : List UInt8) : l.length ≤ (wrL l).length ∧ (wrL l).length ≤ 3 * l.length := by
  induction l with
  | nil => simp [wrL]
  | cons b l ih => have := wb_length b; rw [wrL_cons, List.length_append, List.length_cons]; omega
theorem wrL_plain {l : List UInt8} (h : ∀ b ∈ l, need b = false) : wrL l = l := by
  induction l with
  | nil => rfl
  | cons b l ih => rw [wrL_cons, ih fun x hx => h x (by simp [hx])]; simp [wb, h b (by simp)]
theorem wrL_not {l : List UInt8} {b : UInt8} (hb : b ∈ l) (hn : need b = true) : l.length < (wrL l).length := by
  induction l with
  | nil => simp at hb
  | cons c l ih =>
    rw [wrL_cons, List.length_append, List.length_cons]
    have h1 := wrL_length l
    have h2 := wb_length c
    rcases List.mem_cons.1 hb with rfl | hb
    · have : (wb b).length = 3 := by simp [wb, hn, hx]
      omega
    · have := ih hb; omega
theorem name_plain {l : List UInt8} (h : ∀ b ∈ l, need b = false) : nameL l = l := by
  induction l with
  | nil => exact nameL_nil
  | cons c t ih =>
    have hc : c ≠ 35 := by rintro rfl; have := h 35 (by simp); simp [need] at this
    cases he : esc (c :: t) with
    | none => rw [nameL_none he, ih fun x hx => h x (by simp [hx])]
    | some v => exact absurd (esc_len he).2 hc
theorem kb_hdF : ∀ n : Fin 16, kb (hd n.val) = (n.val : Int) + 2 := by decide
theorem esc_hx (b : UInt8) (r : List UInt8) : esc (35 :: (hx b ++ r)) = some b := by
  have hb := b.toNat_lt
  have h1 := kb_hdF ⟨b.toNat / 16, by omega⟩
  have h2 := kb_hdF ⟨b.toNat % 16, by omega⟩
  simp only at h1 h2
  show esc (35 :: hd (b.toNat / 16) :: hd (b.toNat % 16) :: r) = some b
  rw [esc_3, h1, h2, if_pos ⟨rfl, by omega, by omega⟩]
  congr 1
  apply eq_of_toNat
  have e : 16 * ((((b.toNat / 16 : Nat) : Int) + 2 - 2).toNat) + (((b.toNat % 16 : Nat) : Int) + 2 - 2).toNat = b.toNat := by omega
  rw [e]
  simp
/-- What is written is read again. -/
theorem name_wrL (l : List UInt8) : nameL (wrL l) = l := by
  induction l with
  | nil => exact nameL_nil
  | cons b l ih =>
    rw [wrL_cons]
    unfold wb
    cases hn : need b with
    | true =>
      simp only [if_true, List.cons_append]
      rw [nameL_some (esc_hx b (wrL l))]
      simp only [hx, List.cons_append, List.nil_append, List.drop_succ_cons, List.drop_zero, ih]
    | false =>
      simp only [Bool.false_eq_true, if_false, List.cons_append, List.nil_append]
      have hc : b ≠ 35 := by rintro rfl; simp [need] at hn
      cases he : esc (b :: wrL l) with
      | none => rw [nameL_none he, ih]
      | some v => exact absurd (esc_len he).2 hc
/-- Each byte that is written may be seen, and is regular. -/
def sn (b : UInt8) : Bool := decide (33 ≤ b.toNat) && decide (b.toNat ≤ 126) && rg b
theorem sn_hd : ∀ n : Fin 16, sn (hd n.val) = true := by decide
theorem sn_wrL (l : List UInt8) : ∀ b ∈ wrL l, sn b = true := by
  intro b hb
  simp only [wrL, List.mem_flatMap] at hb
  obtain ⟨c, _, hc⟩ := hb
  unfold wb at hc
  cases hn : need c with
  | true =>
    rw [hn] at hc
    have hlt := c.toNat_lt
    simp only [if_true, hx, List.mem_cons, List.not_mem_nil, or_false] at hc
    rcases hc with rfl | rfl | rfl
    · decide
    · exact sn_hd ⟨c.toNat / 16, by omega⟩
    · exact sn_hd ⟨c.toNat % 16, by omega⟩
  | false =>
    rw [hn] at hc
    simp at hc
    subst hc
    simp only [need, Bool.or_eq_false_iff, decide_eq_false_iff_not, Bool.not_eq_false'] at hn
    simp only [sn, Bool.and_eq_true, decide_eq_true_eq]
    exact ⟨⟨by omega, by omega⟩, hn.2⟩
end Go.Proofs.YtjlecollphgmcaaDoor
