/-
  Parts of this proof, one behind the other: TokPure2, UtfForms, Dec, LexRune, ShelfAny, LexIndex, LexClass.
-/
import Derived.Test.YthcnjiigkmljnaaGreatDoorPart3
import Derived.Test.YthcnjiigkmljnaaGreatDoorPart2
import Derived.Test.YthcnjiigkmljnaaGreatDoorPart1
import Derived.WalkSmall
import Derived.Lib.OthersKept
import Derived.Test.YthcnjiigkmljnaaGreatDoorProg
import Derived.Lib.Bytealg
import Derived.Laws.Runes
import Derived.BigQuiet
import Derived.WalkMore
import Derived.Deep.QuietTactic
import Derived.Deep.RegionHeld
import Derived.Deep.DrawnRows
import Derived.Shelf.Strings.IndexAnyAll
/-
  Tokens as plain functions, second part: what a token and an error hang on; all tokens of a text; what is written of tokens is read again.
-/
namespace Go.Proofs.YthcnjiigkmljnaaGreatDoor

/-! ### What a token hangs on -/
theorem wn_of_take {u d : List UInt8} (h : u.take (wn d) = d.take (wn d)) (h0 : wn (u.drop (wn d)) = 0) : wn u = wn d := by
  have hl : (u.take (wn d)).length = wn d := by rw [h, List.length_take]; have := wn_le d; omega
  have := wn_append (a := u.take (wn d)) (u.drop (wn d)) (by rw [h]; exact wn_mem)
  rw [List.take_append_drop] at this
  omega
theorem take_more (a b : List UInt8) (c : UInt8) : (a ++ c :: b).take (a.length + 1) = a ++ [c] := by simp [List.take_append, List.take_of_length_le]
theorem gt_take {t : List UInt8} (h : gt t < t.length) : t.take (gt t + 1) = t.take (gt t) ++ [62] := by
  have h1 := gt_split t h
  have h2 : (t.take (gt t)).length = gt t := by rw [List.length_take]; omega
  have h3 := take_more (t.take (gt t)) (t.drop (gt t + 1)) 62
  rw [← h1, h2] at h3
  exact h3
theorem gt_ext {t v : List UInt8} (h : gt t < t.length) (hv : v.take (gt t + 1) = t.take (gt t + 1)) : gt v = gt t ∧ gt t < v.length ∧ v.take (gt t) = t.take (gt t) := by
  have e : v = t.take (gt t) ++ 62 :: v.drop (gt t + 1) := by
    conv => lhs; rw [← List.take_append_drop (gt t + 1) v, hv, gt_take h]
    simp
  have h2 : (t.take (gt t)).length = gt t := by rw [List.length_take]; omega
  refine ⟨?_, ?_, take_of_take hv (by omega)⟩
  · rw [e, gt_of _ _ (gt_mem t), h2]
  · exact len_of_take hv (by omega)
theorem tkWord_k {d : List UInt8} (h : (tkWord d).e = 0) : (tkWord d).k = wn d ∧ (tkWord d).kind ≤ 3 := by
  unfold tkWord at h ⊢
  by_cases e0 : inE (d.take (wn d)) = 0
  · rw [if_pos e0]; exact ⟨rfl, by show (1 : Int) ≤ 3; decide⟩
  · rw [if_neg e0] at h ⊢
    by_cases e3 : inE (d.take (wn d)) = 3
    · rw [if_pos e3]; exact ⟨rfl, by show (3 : Int) ≤ 3; decide⟩
    · rw [if_neg e3, noR_e] at h; exact absurd h e0
theorem tkWord_ext {d u : List UInt8} (h : u.take (wn d) = d.take (wn d)) (h0 : wn (u.drop (wn d)) = 0) : tkWord u = tkWord d := by
  have := wn_of_take h h0
  unfold tkWord
  rw [this, h]
theorem mk_60 {t v : List UInt8} (h : v.head? = t.head?) (hm : mk (60 :: t) = 0) : mk (60 :: v) = 0 := by
  simp only [mk] at hm ⊢
  rw [h]; exact hm
theorem tk_ok_ext {d u : List UInt8} (hne : d ≠ []) (h0 : sk false d = 0) (he : (tk d).e = 0) (hu : u.take (tk d).k = d.take (tk d).k) (hw : (tk d).kind ≤ 3 → wn (u.drop (tk d).k) = 0) : tk u = tk d := by
  have hh := tk_hd hne h0
  generalize hr : tk d = r at *
  cases hh with
  | mark h =>
    have hu' : u.take (mkL (mk d)).length = mkL (mk d) := Eq.trans (show u.take (mkL (mk d)).length = d.take (mkL (mk d)).length from hu) (mk_take h)
    have e : u = mkL (mk d) ++ u.drop (mkL (mk d)).length := by
      conv => lhs; rw [← List.take_append_drop (mkL (mk d)).length u, hu']
    have hm : mk u = mk d := by rw [e]; exact mk_self h _
    rw [tk_mark (by rw [hm]; exact h), hm]
  | form h hb => simp [noR_e] at he
  | name t =>
    obtain ⟨v, rfl, hv⟩ := cons_of_take (m := wn t) (show u.take (wn t + 1) = _ from by rw [Nat.add_comm]; exact hu)
    have hw1 : wn ((47 :: v).drop (1 + wn t)) = 0 := hw (by show (2 : Int) ≤ 3; decide)
    rw [Nat.add_comm, List.drop_succ_cons] at hw1
    have e := wn_of_take hv hw1
    rw [tk_name, e, hv]
  | @hex t h =>
    unfold tkHex at he hu ⊢
    by_cases hg : gt t < t.length
    · rw [if_pos hg] at he hu ⊢
      by_cases hx : unE (t.take (gt t)) = 0
      · rw [if_pos hx] at he hu ⊢
        obtain ⟨v, rfl, hv⟩ := cons_of_take (m := gt t + 1) (show u.take (gt t + 1 + 1) = _ from hu)
        obtain ⟨e1, e2, e3⟩ := gt_ext hg hv
        rw [tk_hex (mk_60 (head_of_take hv (by omega)) h)]
        unfold tkHex
        rw [e1, if_pos e2, e3, if_pos hx]
      · rw [if_neg hx] at he; rw [noR_e] at he; exact absurd he hx
    · rw [if_neg hg] at he; simp [noR_e] at he
  | str t =>
    unfold tkStr at he hu ⊢
    by_cases hs : (strT 1 t).e = 0
    · rw [if_pos hs] at he hu ⊢
      have hsz : sz (strT 1 t) = (strT 1 t).k := by simp [sz, hs]
      obtain ⟨v, rfl, hv⟩ := cons_of_take (m := (strT 1 t).k) (show u.take ((strT 1 t).k + 1) = _ from by rw [Nat.add_comm]; exact hu)
      have := strT_ext _ 1 t v (Nat.le_refl _) (by rw [hs]; decide) (by rw [hsz]; exact hv)
      rw [tk_str]
      unfold tkStr
      rw [this, if_pos hs]
    · rw [if_neg hs, noR_e] at he; exact absurd he hs
  | @word b t h =>
    obtain ⟨k1, k2⟩ := tkWord_k he
    rw [k1] at hu hw
    have hw1 := hw k2
    have e := tkWord_ext hu hw1
    obtain ⟨v, rfl, _⟩ := cons_of_take (m := wn t) (show u.take (wn t + 1) = (b :: t).take (wn t + 1) from by rw [wn_y t h] at hu; exact hu)
    rw [tk_word v h]; exact e

/-! ### What an error hangs on -/
theorem take_app {d : List UInt8} (x : List UInt8) {k : Nat} (h : k ≤ d.length) : (d ++ x).take k = d.take k := List.take_append_of_le_length h
theorem head_app {t : List UInt8} (x : List UInt8) (h : t ≠ []) : (t ++ x).head? = t.head? := by
  cases t with
  | nil => exact absurd rfl h
  | cons b t => rfl
theorem wn_app (d m : List UInt8) : (d ++ 10 :: m).take (wn d) = d.take (wn d) ∧ wn ((d ++ 10 :: m).drop (wn d)) = 0 := by
  refine ⟨take_app _ (wn_le d), ?_⟩
  rw [List.drop_append_of_le_length (wn_le d)]
  exact wn_zero_app (wn_rest d) m
theorem tk_err_ext {d : List UInt8} (m : List UInt8) (hne : d ≠ []) (h0 : sk false d = 0) (he : (tk d).e ≠ 0) (he2 : (tk d).e ≠ 2) : tk (d ++ 10 :: m) = tk d := by
  have hh := tk_hd hne h0
  generalize hr : tk d = r at *
  cases hh with
  | mark h => exact absurd rfl he
  | @form b t h hb =>
    have hm : mk ((b :: t) ++ 10 :: m) = 0 := by
      rcases hb with rfl | rfl
      · rfl
      · cases t with
        | nil => rfl
        | cons c t => simpa [mk] using h
    exact tk_form hm hb
  | name t => exact absurd rfl he
  | @hex t h =>
    unfold tkHex at he he2 ⊢
    by_cases hg : gt t < t.length
    · rw [if_pos hg] at he he2 ⊢
      have hv : (t ++ 10 :: m).take (gt t + 1) = t.take (gt t + 1) := take_app _ (by omega)
      obtain ⟨e1, e2, e3⟩ := gt_ext hg hv
      have hne : t ≠ [] := by rintro rfl; simp at hg
      show tk (60 :: (t ++ 10 :: m)) = _
      rw [tk_hex (mk_60 (head_app _ hne) h)]
      unfold tkHex
      rw [e1, if_pos e2, e3]
    · rw [if_neg hg] at he2; simp [noR_e] at he2
  | str t =>
    unfold tkStr at he he2 ⊢
    by_cases hs : (strT 1 t).e = 0
    · rw [if_pos hs] at he; exact absurd rfl he
    · rw [if_neg hs] at he he2 ⊢
      rw [noR_e] at he he2
      have hk := strT_k _ 1 t (Nat.le_refl _)
      rcases hk with ⟨e, _⟩ | ⟨_, k1, k2⟩
      · exact absurd e he2
      have := strT_ext _ 1 t (t ++ 10 :: m) (Nat.le_refl _) he2 (take_app _ k2)
      show tk (40 :: (t ++ 10 :: m)) = _
      rw [tk_str]
      unfold tkStr
      rw [this, if_neg hs]
  | @word b t h =>
    obtain ⟨e1, e2⟩ := wn_app (b :: t) m
    show tk (b :: (t ++ 10 :: m)) = _
    rw [tk_word _ h]
    exact tkWord_ext e1 e2
/-- Where an error is. -/
theorem tk_err_k {d : List UInt8} (hne : d ≠ []) (h0 : sk false d = 0) (he : (tk d).e ≠ 0) : (tk d).k ≤ d.length ∧ ((tk d).e = 2 → (tk d).k = d.length) := by
  have hh := tk_hd hne h0
  generalize hr : tk d = r at *
  cases hh with
  | mark h => exact absurd rfl he
  | @form b t h hb => exact ⟨Nat.zero_le _, fun e => by simp [noR_e] at e⟩
  | name t => exact absurd rfl he
  | @hex t h =>
    unfold tkHex at he ⊢
    by_cases hg : gt t < t.length
    · rw [if_pos hg] at he ⊢
      by_cases hx : unE (t.take (gt t)) = 0
      · rw [if_pos hx] at he; exact absurd rfl he
      · rw [if_neg hx]
        have h1 := bad_le (t.take (gt t))
        rw [List.length_take] at h1
        refine ⟨by show 1 + _ ≤ _; simp; omega, fun e => ?_⟩
        rw [noR_e] at e
        rcases unE_c (t.take (gt t)) with e' | e' <;> rw [e'] at e <;> simp at e
    · rw [if_neg hg]; exact ⟨by show 1 + t.length ≤ _; simp; omega, fun _ => by show 1 + t.length = _; simp; omega⟩
  | str t =>
    unfold tkStr at he ⊢
    by_cases hs : (strT 1 t).e = 0
    · rw [if_pos hs] at he; exact absurd rfl he
    · rw [if_neg hs]
      have hk := strT_k _ 1 t (Nat.le_refl _)
      rcases hk with ⟨e, k⟩ | ⟨e, k1, k2⟩
      · exact ⟨by show 1 + _ ≤ _; simp; omega, fun _ => by show 1 + _ = _; simp; omega⟩
      · have hsz : sz (strT 1 t) = (strT 1 t).k + 1 := by simp [sz, hs]
        exact ⟨by show 1 + _ ≤ _; simp; omega, fun e' => by have : (strT 1 t).e = 2 := e'; rcases e with e | e <;> rw [e] at this <;> simp at this⟩
  | @word b t h =>
    unfold tkWord at he ⊢
    by_cases e0 : inE ((b :: t).take (wn (b :: t))) = 0
    · rw [if_pos e0] at he; exact absurd rfl he
    · rw [if_neg e0] at he ⊢
      by_cases e3 : inE ((b :: t).take (wn (b :: t))) = 3
      · rw [if_pos e3] at he; exact absurd rfl he
      · rw [if_neg e3]
        refine ⟨Nat.zero_le _, fun e => ?_⟩
        rw [noR_e] at e
        rcases inE_cases ((b :: t).take (wn (b :: t))) with h | h | h <;> rw [h] at e <;> simp at e
/-- All ahead of an error's place, from the token on, is too short. -/
theorem tk_err_cut {d : List UInt8} (hne : d ≠ []) (h0 : sk false d = 0) (he : (tk d).e ≠ 0) (he2 : (tk d).e ≠ 2) (hk : (tk d).k ≠ 0) : (tk (d.take (tk d).k)).e = 2 := by
  have hh := tk_hd hne h0
  generalize hr : tk d = r at *
  cases hh with
  | mark h => exact absurd rfl he
  | @form b t h hb => exact absurd rfl hk
  | name t => exact absurd rfl he
  | @hex t h =>
    unfold tkHex at he he2 hk ⊢
    by_cases hg : gt t < t.length
    · rw [if_pos hg] at he he2 hk ⊢
      by_cases hx : unE (t.take (gt t)) = 0
      · rw [if_pos hx] at he; exact absurd rfl he
      · rw [if_neg hx]
        have h1 := bad_le (t.take (gt t))
        rw [List.length_take] at h1
        show (tk ((60 :: t).take (1 + bad (t.take (gt t))))).e = 2
        generalize bad (t.take (gt t)) = j at *
        rw [Nat.add_comm, List.take_succ_cons]
        have hm : mk (60 :: t.take j) = 0 := by
          cases j with
          | zero => simp [mk]
          | succ j => exact mk_60 (by cases t <;> rfl) h
        rw [tk_hex hm]
        unfold tkHex
        have hno : gt (t.take j) = (t.take j).length := gt_none _ fun b hb => gt_mem t b (by
          rw [show t.take j = (t.take (gt t)).take j by rw [List.take_take]; congr 1; omega] at hb
          exact List.mem_of_mem_take hb)
        rw [if_neg (by omega)]
        rfl
    · rw [if_neg hg] at he2; simp [noR_e] at he2
  | str t =>
    unfold tkStr at he he2 hk ⊢
    by_cases hs : (strT 1 t).e = 0
    · rw [if_pos hs] at he; exact absurd rfl he
    · rw [if_neg hs] at he he2 ⊢
      rw [noR_e] at he he2
      show (tk ((40 :: t).take (1 + (strT 1 t).k))).e = 2
      rw [Nat.add_comm, List.take_succ_cons, tk_str]
      have hsz : sz (strT 1 t) = (strT 1 t).k + 1 := by simp [sz, hs]
      have key : (strT 1 (t.take (strT 1 t).k)).e = 2 := by
        rcases strT_k _ 1 (t.take (strT 1 t).k) (Nat.le_refl _) with ⟨e, _⟩ | ⟨e, k1, k2⟩
        · exact e
        · exfalso
          have hle : (t.take (strT 1 t).k).length ≤ (strT 1 t).k := by rw [List.length_take]; omega
          have := strT_ext _ 1 (t.take (strT 1 t).k) t (Nat.le_refl _) (by rcases e with e | e <;> rw [e] <;> decide) (by rw [List.take_take]; congr 1; omega)
          rw [← this] at k2
          omega
      unfold tkStr
      rw [if_neg (by rw [key]; decide), key]
      rfl
  | @word b t h =>
    exfalso
    unfold tkWord at hk he
    by_cases e0 : inE ((b :: t).take (wn (b :: t))) = 0
    · rw [if_pos e0] at he; exact absurd rfl he
    · rw [if_neg e0] at he hk
      by_cases e3 : inE ((b :: t).take (wn (b :: t))) = 3
      · rw [if_pos e3] at he; exact absurd rfl he
      · rw [if_neg e3] at hk; exact absurd rfl hk

/-! ### What is skipped -/
theorem sk_app : ∀ (d : List UInt8) (r : Bool) (x : List UInt8), sk r d < d.length → sk r (d ++ x) = sk r d
  | [], r, x, h => by simp at h
  | b :: t, true, x, h => by
    rw [sk_t] at h ⊢
    rw [List.cons_append, sk_t, sk_app t _ x (by simpa using h)]
  | b :: t, false, x, h => by
    by_cases hb : b = 37
    · subst hb
      rw [sk_rem] at h ⊢
      rw [List.cons_append, sk_rem, sk_app t _ x (by simpa using h)]
    · cases hw : wh b with
      | true =>
        rw [sk_wh t hb hw] at h ⊢
        rw [List.cons_append, sk_wh _ hb hw, sk_app t _ x (by simpa using h)]
      | false => rw [sk_no t hb hw, List.cons_append, sk_no _ hb hw]
theorem sk_take : ∀ (d : List UInt8) (r : Bool) (j : Nat), sk r d < j → sk r (d.take j) = sk r d
  | [], r, j, h => by simp
  | b :: t, r, 0, h => by omega
  | b :: t, true, j + 1, h => by
    rw [sk_t] at h ⊢
    rw [List.take_succ_cons, sk_t, sk_take t _ j (by omega)]
  | b :: t, false, j + 1, h => by
    by_cases hb : b = 37
    · subst hb
      rw [sk_rem] at h ⊢
      rw [List.take_succ_cons, sk_rem, sk_take t _ j (by omega)]
    · cases hw : wh b with
      | true =>
        rw [sk_wh t hb hw] at h ⊢
        rw [List.take_succ_cons, sk_wh _ hb hw, sk_take t _ j (by omega)]
      | false => rw [sk_no t hb hw, List.take_succ_cons, sk_no _ hb hw]
theorem sk_part : ∀ (d : List UInt8) (r : Bool) (j : Nat), j ≤ sk r d → sk r (d.take j) = j
  | [], r, j, h => by rw [sk_nil] at h; simp [sk_nil]; omega
  | b :: t, r, 0, h => by simp [sk_nil]
  | b :: t, true, j + 1, h => by
    rw [sk_t] at h
    rw [List.take_succ_cons, sk_t, sk_part t _ j (by omega)]
  | b :: t, false, j + 1, h => by
    by_cases hb : b = 37
    · subst hb
      rw [sk_rem] at h
      rw [List.take_succ_cons, sk_rem, sk_part t _ j (by omega)]
    · cases hw : wh b with
      | true =>
        rw [sk_wh t hb hw] at h
        rw [List.take_succ_cons, sk_wh _ hb hw, sk_part t _ j (by omega)]
      | false => rw [sk_no t hb hw] at h; omega

/-! ### All tokens -/
theorem rest_ne {d : List UInt8} (h : sk false d < d.length) : d.drop (sk false d) ≠ [] := by
  intro e
  have := congrArg List.length e
  rw [List.length_drop] at this
  simp at this
  omega
theorem all_end (p : Nat) {d : List UInt8} (h : d.length ≤ sk false d) : all p d = ⟨[], p + d.length, 0⟩ := by rw [all, if_pos h]
theorem all_ok (p : Nat) {d : List UInt8} (h : sk false d < d.length) (he : (tk (d.drop (sk false d))).e = 0) :
    all p d = Al.add ((tk (d.drop (sk false d))).tok (p + sk false d)) (all (p + sk false d + (tk (d.drop (sk false d))).k) (d.drop (sk false d + (tk (d.drop (sk false d))).k))) := by
  have := (tk_ok (rest_ne h) (sk_end d false) he).pos
  rw [all, if_neg (by omega)]
  simp only
  rw [if_pos he, Nat.max_eq_right this]
theorem all_no (p : Nat) {d : List UInt8} (h : sk false d < d.length) (he : (tk (d.drop (sk false d))).e ≠ 0) :
    all p d = ⟨[], p + sk false d + (tk (d.drop (sk false d))).k, (tk (d.drop (sk false d))).e⟩ := by
  rw [all, if_neg (by omega)]
  simp only
  rw [if_neg he]
/-- What is known of all tokens of a text. -/
structure Alk (p : Nat) (d : List UInt8) (a : Al) : Prop where
  ge : p ≤ a.k
  le : a.k ≤ p + d.length
  ok : a.e = 0 → a.k = p + d.length
  short : a.e = 2 → a.k = p + d.length
  none : a.e ≠ 0 → a.l = []
  count : a.l.length ≤ d.length
  gd : ∀ t ∈ a.l, Gd t.kind t.n t.s ∧ t.s.length ≤ d.length
theorem add_e (t : Tk) (a : Al) : (Al.add t a).e = a.e := by unfold Al.add; split <;> simp_all
theorem add_k (t : Tk) (a : Al) : (Al.add t a).k = a.k := by unfold Al.add; split <;> rfl
theorem add_l {t : Tk} {a : Al} (h : a.e = 0) : (Al.add t a).l = t :: a.l := by unfold Al.add; rw [if_pos h]
theorem add_no {t : Tk} {a : Al} (h : a.e ≠ 0) : Al.add t a = a := by unfold Al.add; rw [if_neg h]
theorem all_k : ∀ (N p : Nat) (d : List UInt8), d.length ≤ N → Alk p d (all p d) := by
  intro N
  induction N with
  | zero =>
    intro p d h
    have : d = [] := List.eq_nil_of_length_eq_zero (by omega)
    subst this
    rw [all_end p (by simp)]
    exact ⟨Nat.le_refl _, by simp, fun _ => by simp, fun h => by simp at h, fun h => rfl, by simp, by simp⟩
  | succ N ih =>
    intro p d h
    by_cases hs : sk false d < d.length
    · by_cases he : (tk (d.drop (sk false d))).e = 0
      · have ok := tk_ok (rest_ne hs) (sk_end d false) he
        have h1 := ok.pos
        have h2 := ok.le
        rw [List.length_drop] at h2
        rw [all_ok p hs he]
        have a := ih (p + sk false d + (tk (d.drop (sk false d))).k) (d.drop (sk false d + (tk (d.drop (sk false d))).k)) (by rw [List.length_drop]; omega)
        have hss : (tk (d.drop (sk false d))).s.length ≤ d.length := by
          by_cases hk : (tk (d.drop (sk false d))).kind ≤ 3
          · have := ok.small hk; omega
          · rcases ok.short (by omega) with e | e
            · omega
            · rw [e]; simp
        generalize all (p + sk false d + (tk (d.drop (sk false d))).k) (d.drop (sk false d + (tk (d.drop (sk false d))).k)) = r at a ⊢
        obtain ⟨a1, a2, a3, a4, a5, a6, a7⟩ := a
        rw [List.length_drop] at a2 a3 a4 a6 a7
        refine ⟨by rw [add_k]; omega, by rw [add_k]; omega, fun e => ?_, fun e => ?_, fun e => ?_, ?_, ?_⟩
        · rw [add_e] at e; rw [add_k, a3 e]; omega
        · rw [add_e] at e; rw [add_k, a4 e]; omega
        · rw [add_e] at e; rw [add_no e]; exact a5 e
        · by_cases e : r.e = 0
          · rw [add_l e, List.length_cons]; omega
          · rw [add_no e]; omega
        · intro t ht
          by_cases e : r.e = 0
          · rw [add_l e] at ht
            rcases List.mem_cons.1 ht with rfl | ht
            · exact ⟨ok.gd, hss⟩
            · have := a7 t ht; exact ⟨this.1, by omega⟩
          · rw [add_no e] at ht
            have := a7 t ht; exact ⟨this.1, by omega⟩
      · have hk := tk_err_k (rest_ne hs) (sk_end d false) he
        rw [List.length_drop] at hk
        rw [all_no p hs he]
        exact ⟨by show p ≤ p + sk false d + _; omega, by show p + sk false d + _ ≤ _; omega, fun e => absurd e he, fun e => by show p + sk false d + _ = _; have := hk.2 e; omega, fun _ => rfl, by simp, by simp⟩
    · rw [all_end p (by omega)]
      exact ⟨by simp, Nat.le_refl _, fun _ => rfl, fun h => by simp at h, fun h => rfl, by simp, by simp⟩

/-! ### Tokens stand one behind the other -/
def Ch (s : List UInt8) : Nat → List Tk → Prop
  | _, [] => True
  | last, t :: r => ∃ q : Nat, last ≤ q ∧ q < s.length ∧ sk false (s.drop q) = 0 ∧ (tk (s.drop q)).e = 0 ∧ t = (tk (s.drop q)).tok q ∧ Ch s (q + (tk (s.drop q)).k) r
theorem all_ch (s : List UInt8) : ∀ (N p : Nat), s.length - p ≤ N → p ≤ s.length → Ch s p (all p (s.drop p)).l := by
  intro N
  induction N with
  | zero =>
    intro p h hp
    rw [all_end p (by rw [List.length_drop]; omega)]
    trivial
  | succ N ih =>
    intro p h hp
    by_cases hs : sk false (s.drop p) < (s.drop p).length
    · have hq := sk_end (s.drop p) false
      have hne := rest_ne hs
      by_cases he : (tk ((s.drop p).drop (sk false (s.drop p)))).e = 0
      · have ok := tk_ok hne hq he
        rw [all_ok p hs he]
        have h1 := ok.pos
        have h2 := ok.le
        rw [List.drop_drop] at h1 h2 he hq ⊢
        rw [List.length_drop] at hs h2
        generalize sk false (s.drop p) = j at *
        by_cases e : (all (p + j + (tk (s.drop (p + j))).k) ((s.drop p).drop (j + (tk (s.drop (p + j))).k))).e = 0
        · rw [add_l e]
          refine ⟨p + j, by omega, by omega, hq, he, rfl, ?_⟩
          rw [List.drop_drop, ← Nat.add_assoc]
          exact ih _ (by omega) (by omega)
        · rw [add_no e, (all_k _ _ _ (Nat.le_refl _)).none e]
          trivial
      · rw [all_no p hs he]
        trivial
    · rw [all_end p (by omega)]
      trivial

/-! ### Errors -/
theorem all_err_ext (m : List UInt8) : ∀ (N p : Nat) (d : List UInt8), d.length ≤ N → (all p d).e ≠ 0 → (all p d).e ≠ 2 → (all p (d ++ 10 :: m)).e = (all p d).e ∧ (all p (d ++ 10 :: m)).k = (all p d).k := by
  intro N
  induction N with
  | zero =>
    intro p d h he
    have : d = [] := List.eq_nil_of_length_eq_zero (by omega)
    subst this
    rw [all_end p (by simp)] at he
    exact absurd rfl he
  | succ N ih =>
    intro p d h he he2
    by_cases hs : sk false d < d.length
    · have hsk := sk_app d false (10 :: m) hs
      have hs' : sk false (d ++ 10 :: m) < (d ++ 10 :: m).length := by rw [hsk, List.length_append]; omega
      have hdr : (d ++ 10 :: m).drop (sk false (d ++ 10 :: m)) = d.drop (sk false d) ++ 10 :: m := by rw [hsk, List.drop_append_of_le_length (by omega)]
      by_cases ht : (tk (d.drop (sk false d))).e = 0
      · have ok := tk_ok (rest_ne hs) (sk_end d false) ht
        have h1 := ok.pos
        have h2 := ok.le
        have hx : tk (d.drop (sk false d) ++ 10 :: m) = tk (d.drop (sk false d)) := tk_ok_ext (rest_ne hs) (sk_end d false) ht (take_app _ h2) fun hk => by
          rw [List.drop_append_of_le_length h2]
          exact wn_zero_app (ok.stop hk) m
        rw [List.length_drop] at h2
        rw [all_ok p hs ht] at he he2 ⊢
        rw [all_ok p hs' (by rw [hdr, hx]; exact ht), hdr, hx, hsk]
        simp only [add_e, add_k] at he he2 ⊢
        rw [List.drop_append_of_le_length (by omega)]
        exact ih _ _ (by rw [List.length_drop]; omega) he he2
      · rw [all_no p hs ht] at he2 ⊢
        have hx := tk_err_ext m (rest_ne hs) (sk_end d false) ht he2
        rw [all_no p hs' (by rw [hdr, hx]; exact ht), hdr, hx, hsk]
        exact ⟨rfl, rfl⟩
    · rw [all_end p (by omega)] at he
      exact absurd rfl he
theorem all_err_cut : ∀ (N p : Nat) (d : List UInt8), d.length ≤ N → (all p d).e ≠ 0 → (all p d).e ≠ 2 → (all p (d.take ((all p d).k - p))).e = 0 ∨ (all p (d.take ((all p d).k - p))).e = 2 := by
  intro N
  induction N with
  | zero =>
    intro p d h he
    have : d = [] := List.eq_nil_of_length_eq_zero (by omega)
    subst this
    rw [all_end p (by simp)] at he
    exact absurd rfl he
  | succ N ih =>
    intro p d h he he2
    by_cases hs : sk false d < d.length
    · by_cases ht : (tk (d.drop (sk false d))).e = 0
      · have ok := tk_ok (rest_ne hs) (sk_end d false) ht
        have h1 := ok.pos
        have h2 := ok.le
        rw [List.length_drop] at h2
        rw [all_ok p hs ht] at he he2 ⊢
        simp only [add_e, add_k] at he he2 ⊢
        have a := all_k _ (p + sk false d + (tk (d.drop (sk false d))).k) (d.drop (sk false d + (tk (d.drop (sk false d))).k)) (Nat.le_refl _)
        have hi := ih (p + sk false d + (tk (d.drop (sk false d))).k) (d.drop (sk false d + (tk (d.drop (sk false d))).k)) (by rw [List.length_drop]; omega) he he2
        have a1 := a.ge
        have a2 := a.le
        rw [List.length_drop] at a2
        generalize (all (p + sk false d + (tk (d.drop (sk false d))).k) (d.drop (sk false d + (tk (d.drop (sk false d))).k))).k = K at *
        clear a he he2
        have hj : sk false d < K - p := by omega
        have hsk := sk_take d false (K - p) hj
        have hs' : sk false (d.take (K - p)) < (d.take (K - p)).length := by rw [hsk, List.length_take]; omega
        have hdr : (d.take (K - p)).drop (sk false (d.take (K - p))) = (d.drop (sk false d)).take (K - p - sk false d) := by rw [hsk, List.drop_take]
        have hx : tk ((d.drop (sk false d)).take (K - p - sk false d)) = tk (d.drop (sk false d)) := tk_ok_ext (rest_ne hs) (sk_end d false) ht (by rw [List.take_take]; congr 1; omega) fun hk => by
          rw [List.drop_take]
          exact wn_zero_take (ok.stop hk) _
        rw [all_ok p hs' (by rw [hdr, hx]; exact ht), hdr, hx, hsk]
        simp only [add_e]
        rw [List.drop_take]
        rwa [show K - p - (sk false d + (tk (d.drop (sk false d))).k) = K - (p + sk false d + (tk (d.drop (sk false d))).k) by omega]
      · rw [all_no p hs ht] at he2 ⊢
        simp only at he2 ⊢
        have hkl := (tk_err_k (rest_ne hs) (sk_end d false) ht).1
        rw [List.length_drop] at hkl
        rw [show p + sk false d + (tk (d.drop (sk false d))).k - p = sk false d + (tk (d.drop (sk false d))).k by omega]
        by_cases hk : (tk (d.drop (sk false d))).k = 0
        · left
          rw [hk, Nat.add_zero, all_end p (by rw [sk_part d false _ (Nat.le_refl _), List.length_take]; omega)]
        · right
          have hc := tk_err_cut (rest_ne hs) (sk_end d false) ht he2 hk
          have hsk := sk_take d false (sk false d + (tk (d.drop (sk false d))).k) (by omega)
          have hdr : (d.take (sk false d + (tk (d.drop (sk false d))).k)).drop (sk false (d.take (sk false d + (tk (d.drop (sk false d))).k))) = (d.drop (sk false d)).take (tk (d.drop (sk false d))).k := by
            rw [hsk, List.drop_take]; congr 1; omega
          rw [all_no p (by rw [hsk, List.length_take]; omega) (by rw [hdr, hc]; decide), hdr]
          exact hc
    · rw [all_end p (by omega)] at he
      exact absurd rfl he

/-! ### Numbers, written -/
theorem dig_rg : ∀ n : Fin 10, rg (UInt8.ofNat (48 + n.val)) = true ∧ dg (UInt8.ofNat (48 + n.val)) = true ∧ (UInt8.ofNat (48 + n.val)).toNat = 48 + n.val := by decide
theorem dcm_mem (u : Nat) : ∀ b ∈ Lib.decDigits u, rg b = true ∧ dg b = true := by
  induction u using Nat.strongRecOn with
  | _ u ih =>
    intro b hb
    rw [Lib.decDigits] at hb
    split at hb
    · rename_i h
      simp only [List.mem_singleton] at hb
      subst hb
      have := dig_rg ⟨u, h⟩
      exact ⟨this.1, this.2.1⟩
    · rcases List.mem_append.1 hb with hb | hb
      · exact ih (u / 10) (by omega) b hb
      · simp only [List.mem_singleton] at hb
        subst hb
        have := dig_rg ⟨u % 10, by omega⟩
        exact ⟨this.1, this.2.1⟩
theorem dcm_val (u : Nat) : val (Lib.decDigits u) = u := by
  induction u using Nat.strongRecOn with
  | _ u ih =>
    rw [Lib.decDigits]
    split
    · rename_i h
      have := dig_rg ⟨u, h⟩
      have e : val ([] ++ [UInt8.ofNat (48 + u)]) = val [] * 10 + ((UInt8.ofNat (48 + u)).toNat - 48) := val_snoc [] _
      rw [List.nil_append] at e
      rw [e, this.2.2]
      simp [val, valF]
    · have := dig_rg ⟨u % 10, by omega⟩
      rw [val_snoc, ih (u / 10) (by omega), this.2.2]
      simp only
      omega
theorem dcm_ne (u : Nat) : Lib.decDigits u ≠ [] := by
  rw [Lib.decDigits]
  split <;> simp
theorem dcm_ok (u : Nat) : okD (Lib.decDigits u) = true := okD_iff.2 ⟨dcm_ne u, fun b hb => (dcm_mem u b hb).2⟩
theorem dcm_len : ∀ (k u : Nat), u < 10 ^ (k + 1) → (Lib.decDigits u).length ≤ k + 1
  | 0, u, h => by rw [Lib.decDigits, dif_pos (by simpa using h)]; simp
  | k + 1, u, h => by
    rw [Lib.decDigits]
    split
    · simp
    · have := dcm_len k (u / 10) (by rw [Nat.pow_succ] at h; omega)
      rw [List.length_append, List.length_singleton]
      omega
theorem itoa_in {n : Int} (h : inR n = true) : inN (Lib.itoa n) = n ∧ inE (Lib.itoa n) = 0 ∧ (∀ b ∈ Lib.itoa n, rg b = true) ∧ Lib.itoa n ≠ [] ∧ (Lib.itoa n).length ≤ 11 := by
  simp only [inR, Bool.and_eq_true, decide_eq_true_eq] at h
  unfold Lib.itoa
  split
  · rename_i hn
    have hv := dcm_val n.natAbs
    have := in_minus (dcm_ok n.natAbs) (by rw [hv]; omega)
    have hl := dcm_len 9 n.natAbs (by omega)
    rw [hv] at this
    refine ⟨by rw [this.1]; omega, this.2, fun b hb => ?_, by simp, by simp; omega⟩
    rcases List.mem_cons.1 hb with rfl | hb
    · decide
    · exact (dcm_mem _ b hb).1
  · rename_i hn
    have hv := dcm_val n.toNat
    have := (in_digits (dcm_ok n.toNat)).1 (by rw [hv]; omega)
    have hl := dcm_len 9 n.toNat (by omega)
    rw [hv] at this
    exact ⟨by rw [this.1]; omega, this.2, fun b hb => (dcm_mem _ b hb).1, dcm_ne _, by omega⟩

/-! ### What is written of a token is read again -/
/-- But for where it stands. -/
def key (t : Tk) : Tk := ⟨t.kind, 0, t.n, t.s⟩
theorem sh_key (t : Tk) : sh (key t) = sh t := rfl
theorem sk_rg {b : UInt8} (t : List UInt8) (h : rg b = true) : sk false (b :: t) = 0 := sk_no t (rg_not h).1.1 (rg_not h).1.2
theorem word_read {a : List UInt8} (x : List UInt8) (hne : a ≠ []) (hr : ∀ b ∈ a, rg b = true) (hx : wn x = 0) : wn (a ++ x) = a.length ∧ (a ++ x).take (wn (a ++ x)) = a ∧ tk (a ++ x) = tkWord (a ++ x) ∧ sk false (a ++ x) = 0 := by
  have h := wn_append x hr
  rw [hx, Nat.add_zero] at h
  refine ⟨h, by rw [h, List.take_left'] ; rfl, ?_, ?_⟩
  · cases a with
    | nil => exact absurd rfl hne
    | cons b t => exact tk_word _ (hr b (by simp))
  · cases a with
    | nil => exact absurd rfl hne
    | cons b t => exact sk_rg _ (hr b (by simp))
theorem hexL_dig (l : List UInt8) : ∀ b ∈ hexL l, b ≠ 62 ∧ b ≠ 60 := by
  have h : ∀ n : Fin 16, hd n.val ≠ 62 ∧ hd n.val ≠ 60 := by decide
  intro b hb
  simp only [hexL, List.mem_flatMap] at hb
  obtain ⟨c, _, hc⟩ := hb
  have := c.toNat_lt
  simp only [hx, List.mem_cons, List.not_mem_nil, or_false] at hc
  rcases hc with rfl | rfl
  · exact h ⟨c.toNat / 16, by omega⟩
  · exact h ⟨c.toNat % 16, by omega⟩
theorem sh_read (t : Tk) (hg : Gd t.kind t.n t.s) (x : List UInt8) (hx : wn x = 0) : tk (sh t ++ x) = okR t.kind t.n t.s (sh t).length ∧ sk false (sh t ++ x) = 0 ∧ 1 ≤ (sh t).length := by
  obtain ⟨kind, at_, n, s⟩ := t
  simp only at hg ⊢
  rcases hg with ⟨rfl, hn, rfl⟩ | ⟨rfl, rfl⟩ | ⟨rfl, rfl, hne, hr, he⟩ | ⟨rfl, rfl⟩ | ⟨rfl, rfl⟩ | ⟨m, hm, rfl, rfl, rfl⟩
  · obtain ⟨h1, h2, h3, h4, _⟩ := itoa_in hn
    have e : sh ⟨1, at_, n, []⟩ = Lib.itoa n := rfl
    rw [e]
    obtain ⟨w1, w2, w3, w4⟩ := word_read x h4 h3 hx
    refine ⟨?_, w4, by cases hq : Lib.itoa n with | nil => exact absurd hq h4 | cons b t => simp⟩
    rw [w3]
    unfold tkWord
    rw [w2, if_pos h2, h1, w1]
  · have e : sh ⟨2, at_, 0, s⟩ = 47 :: wrL s := rfl
    rw [e]
    have hr : ∀ b ∈ wrL s, rg b = true := fun b hb => by have := sn_wrL s b hb; simp only [sn, Bool.and_eq_true] at this; exact this.2
    have h := wn_append x hr
    rw [hx, Nat.add_zero] at h
    refine ⟨?_, rfl, by simp⟩
    rw [List.cons_append, tk_name, h, List.take_left' rfl, name_wrL, List.length_cons, Nat.add_comm]
  · have e : sh ⟨3, at_, 0, s⟩ = s := rfl
    rw [e]
    obtain ⟨w1, w2, w3, w4⟩ := word_read x hne hr hx
    refine ⟨?_, w4, by cases s with | nil => exact absurd rfl hne | cons b t => simp⟩
    rw [w3]
    unfold tkWord
    rw [w2, if_neg (by rw [he]; decide), if_pos he, w1]
  · have e : sh ⟨4, at_, 0, s⟩ = 60 :: (hexL s ++ [62]) := rfl
    rw [e]
    have e2 : (60 :: (hexL s ++ [62])) ++ x = 60 :: (hexL s ++ 62 :: x) := by simp
    rw [e2]
    have hgt : gt (hexL s ++ 62 :: x) = (hexL s).length := gt_of _ _ fun b hb => (hexL_dig s b hb).1
    have hm : mk (60 :: (hexL s ++ 62 :: x)) = 0 := by
      have : (hexL s ++ 62 :: x).head? ≠ some 60 := by
        cases hq : hexL s with
        | nil => simp
        | cons b r => have := (hexL_dig s b (by rw [hq]; simp)).2; simpa using this
      simp only [mk]
      rw [if_neg (by decide), if_neg (by decide), if_pos trivial, if_neg this]
    obtain ⟨u1, _, u3⟩ := un_good (good_hexL s)
    refine ⟨?_, rfl, by simp⟩
    rw [tk_hex hm]
    unfold tkHex
    rw [hgt, if_pos (by simp), List.take_left' rfl, if_pos u3, u1, pack_hexL]
    simp
  · have e : sh ⟨5, at_, 0, s⟩ = 40 :: (qL s ++ [41]) := rfl
    rw [e]
    have e2 : (40 :: (qL s ++ [41])) ++ x = 40 :: (qL s ++ 41 :: x) := by simp
    rw [e2]
    refine ⟨?_, rfl, by simp⟩
    rw [tk_str]
    unfold tkStr
    rw [strT_quoted]
    simp [Nat.add_comm]
  · have e : sh ⟨(m : Int), at_, 0, []⟩ = mkL m := by
      unfold sh
      simp only
      rw [if_neg (by omega), if_neg (by omega), if_neg (by omega), if_neg (by omega), if_neg (by omega)]
      rfl
    rw [e]
    have hs := mk_self hm x
    refine ⟨?_, ?_, (mkL_len hm).1⟩
    · rw [tk_mark (by rw [hs]; exact hm), hs]
    · rcases (show m = 6 ∨ m = 7 ∨ m = 8 ∨ m = 9 ∨ m = 10 ∨ m = 11 by omega) with rfl | rfl | rfl | rfl | rfl | rfl <;> rfl
theorem all_blank (p : Nat) (d : List UInt8) : all p (32 :: d) = all (p + 1) d := by
  have h : sk false (32 :: d) = sk false d + 1 := sk_wh d (by decide) (by decide)
  by_cases hs : d.length ≤ sk false d
  · rw [all_end p (by rw [h, List.length_cons]; omega), all_end (p + 1) hs, List.length_cons, Nat.add_right_comm, Nat.add_assoc]
  · rw [all, if_neg (by rw [h, List.length_cons]; omega), h, all, if_neg hs]
    simp only [List.drop_succ_cons]
    rw [show p + (sk false d + 1) = p + 1 + sk false d by omega, show ∀ k, sk false d + 1 + k = sk false d + k + 1 from fun k => by omega]
    simp only [List.drop_succ_cons]
theorem all_one (p : Nat) (t : Tk) (hg : Gd t.kind t.n t.s) (x : List UInt8) (hx : wn x = 0) : all p (sh t ++ x) = Al.add ⟨t.kind, p, t.n, t.s⟩ (all (p + (sh t).length) x) := by
  obtain ⟨h1, h2, h3⟩ := sh_read t hg x hx
  have hd : (sh t ++ x).drop (sk false (sh t ++ x)) = sh t ++ x := by rw [h2, List.drop_zero]
  rw [all_ok p (by rw [h2, List.length_append]; omega) (by rw [hd, h1]; rfl), hd, h1, h2]
  simp only [okR, Rd.tok, Nat.zero_add, Nat.add_zero]
  rw [List.drop_left' rfl]
theorem all_text : ∀ (L : List Tk) (p : Nat), (∀ t ∈ L, Gd t.kind t.n t.s) → ∃ M, all p (txL L) = ⟨M, p + (txL L).length, 0⟩ ∧ M.map key = L.map key
  | [], p, _ => ⟨[], by rw [all_end p (by simp [txL, jn])], rfl⟩
  | [t], p, h => by
    refine ⟨[⟨t.kind, p, t.n, t.s⟩], ?_, rfl⟩
    have e : txL [t] = sh t ++ [] := by simp [txL, jn]
    rw [e, all_one p t (h t (by simp)) [] rfl, all_end _ (by simp)]
    simp [Al.add]
  | t :: u :: r, p, h => by
    have e : txL (t :: u :: r) = sh t ++ 32 :: txL (u :: r) := by simp [txL, jn]
    obtain ⟨M, h1, h2⟩ := all_text (u :: r) (p + (sh t).length + 1) fun y hy => h y (by simp only [List.mem_cons] at hy ⊢; exact .inr hy)
    refine ⟨⟨t.kind, p, t.n, t.s⟩ :: M, ?_, by rw [List.map_cons, h2]; rfl⟩
    rw [e, all_one p t (h t (by simp)) _ (wn_n _ (by decide)), all_blank, h1]
    simp [Al.add]
    omega
theorem tx_key {L M : List Tk} (h : M.map key = L.map key) : txL M = txL L := by
  have e : ∀ X : List Tk, X.map sh = (X.map key).map sh := fun X => by rw [List.map_map]; rfl
  unfold txL
  rw [e M, h, ← e L]
/-- A token alone, with a remark ahead and behind. -/
theorem all_alone (t : Tk) (hg : Gd t.kind t.n t.s) : all 0 ([32, 37, 32, 120, 10, 32] ++ sh t ++ [32, 37]) = ⟨[⟨t.kind, 6, t.n, t.s⟩], 8 + (sh t).length, 0⟩ := by
  obtain ⟨h1, h2, h3⟩ := sh_read t hg [32, 37] (by decide)
  have hs : sk false ([32, 37, 32, 120, 10, 32] ++ sh t ++ [32, 37]) = 6 := by
    have := sk_text [32, 120] (32 :: (sh t ++ [32, 37])) (by decide)
    rw [sk_wh (b := 32) _ (by decide) (by decide), h2] at this
    simpa using this
  have hd : ([32, 37, 32, 120, 10, 32] ++ sh t ++ [32, 37]).drop 6 = sh t ++ [32, 37] := by simp
  rw [all_ok 0 (by rw [hs]; simp) (by rw [hs, hd, h1]; rfl), hs, hd, h1]
  simp only [okR, Rd.tok]
  have hd2 : ([32, 37, 32, 120, 10, 32] ++ sh t ++ [32, 37]).drop (6 + (sh t).length) = [32, 37] := by
    rw [← List.drop_drop, hd, List.drop_left' rfl]
  rw [hd2, all_end _ (by decide)]
  simp [Al.add]
  omega

/-! ### How long what is written is -/
theorem sh_len (t : Tk) {k : Nat} (hg : Gd t.kind t.n t.s) (h1 : 1 ≤ k) (hs : t.kind ≤ 3 → t.s.length ≤ k) (hl : 4 ≤ t.kind → t.s.length + 1 ≤ k ∨ t.s = []) : (sh t).length ≤ 11 * k := by
  obtain ⟨kind, at_, n, s⟩ := t
  simp only at hg hs hl
  rcases hg with ⟨rfl, hn, rfl⟩ | ⟨rfl, rfl⟩ | ⟨rfl, rfl, hne, hr, he⟩ | ⟨rfl, rfl⟩ | ⟨rfl, rfl⟩ | ⟨m, hm, rfl, rfl, rfl⟩
  · have := (itoa_in hn).2.2.2.2
    show (Lib.itoa n).length ≤ _
    omega
  · have := hs (by decide)
    have := (wrL_length s).2
    show (47 :: wrL s).length ≤ _
    rw [List.length_cons]; omega
  · have := hs (by decide)
    show s.length ≤ _
    omega
  · show (60 :: (hexL s ++ [62])).length ≤ _
    simp [hexL_length]
    rcases hl (by decide) with h | rfl
    · omega
    · simp; omega
  · show (40 :: (qL s ++ [41])).length ≤ _
    have := qL_length s
    simp
    rcases hl (by decide) with h | rfl
    · omega
    · simp [qL]; omega
  · have e : sh ⟨(m : Int), at_, 0, []⟩ = mkL m := by
      unfold sh
      simp only
      rw [if_neg (by omega), if_neg (by omega), if_neg (by omega), if_neg (by omega), if_neg (by omega)]
      rfl
    rw [e]
    have := mkL_len hm
    omega
/-- All bytes that are written, with one more for each. -/
def shS : List Tk → Nat
  | [] => 0
  | t :: r => (sh t).length + 1 + shS r
theorem txL_len : ∀ L : List Tk, (txL L).length ≤ shS L
  | [] => by simp [txL, jn]
  | [t] => by simp [txL, jn, shS]
  | t :: u :: r => by
    have e : txL (t :: u :: r) = sh t ++ 32 :: txL (u :: r) := by simp [txL, jn]
    have := txL_len (u :: r)
    rw [e]
    simp only [shS] at this ⊢
    simp
    omega
theorem all_shS : ∀ (N p : Nat) (d : List UInt8), d.length ≤ N → shS (all p d).l ≤ 12 * d.length := by
  intro N
  induction N with
  | zero =>
    intro p d h
    rw [all_end p (by omega)]
    simp [shS]
  | succ N ih =>
    intro p d h
    by_cases hs : sk false d < d.length
    · by_cases he : (tk (d.drop (sk false d))).e = 0
      · have ok := tk_ok (rest_ne hs) (sk_end d false) he
        have h1 := ok.pos
        have h2 := ok.le
        rw [List.length_drop] at h2
        rw [all_ok p hs he]
        have hi := ih (p + sk false d + (tk (d.drop (sk false d))).k) (d.drop (sk false d + (tk (d.drop (sk false d))).k)) (by rw [List.length_drop]; omega)
        rw [List.length_drop] at hi
        have hl := sh_len ((tk (d.drop (sk false d))).tok (p + sk false d)) ok.gd h1 ok.small ok.short
        by_cases e : (all (p + sk false d + (tk (d.drop (sk false d))).k) (d.drop (sk false d + (tk (d.drop (sk false d))).k))).e = 0
        · rw [add_l e]
          simp only [shS]
          omega
        · rw [add_no e]; omega
      · rw [all_no p hs he]
        simp [shS]
    · rw [all_end p (by omega)]
      simp [shS]
end Go.Proofs.YthcnjiigkmljnaaGreatDoor
/-
  UTF-8 as plain lists of bytes: forms, what is read of a text, and when a text is whole.
-/
namespace Go.Proofs.YthcnjiigkmljnaaGreatDoor

def b8 (n : Int) : UInt8 := UInt8.ofNat n.toNat
theorem b8_toNat {n : Int} (h0 : 0 ≤ n) (h1 : n < 256) : ((b8 n).toNat : Int) = n := by
  have : n.toNat < 256 := by omega
  unfold b8
  rw [UInt8.toNat_ofNat_of_lt' this]
  omega
/-- A scalar value's form; of what is none Repl's. -/
def formV (r : Int) : List UInt8 :=
  if r < 128 then [b8 r]
  else if r < 2048 then [b8 (192 + r / 64), b8 (128 + r % 64)]
  else if r < 65536 then [b8 (224 + r / 4096), b8 (128 + r / 64 % 64), b8 (128 + r % 64)]
  else [b8 (240 + r / 262144), b8 (128 + r / 4096 % 64), b8 (128 + r / 64 % 64), b8 (128 + r % 64)]
def form (r : Int) : List UInt8 := formV (sc r)
theorem form_sc (r : Int) : form (sc r) = form r := by unfold form; rw [sc_sc]
theorem formV_length (r : Int) : 1 ≤ (formV r).length ∧ (formV r).length ≤ 4 := by
  unfold formV
  repeat' split
  all_goals simp
def textL (l : List Int) : List UInt8 := l.flatMap form
theorem textL_cons (x : Int) (l : List Int) : textL (x :: l) = form x ++ textL l := by simp [textL]
theorem textL_append (a b : List Int) : textL (a ++ b) = textL a ++ textL b := by simp [textL]
theorem textL_length (l : List Int) : (textL l).length ≤ 4 * l.length := by
  induction l with
  | nil => simp [textL]
  | cons x l ih =>
    have h := (formV_length (sc x)).2
    have e : (form x).length ≤ 4 := h
    rw [textL_cons, List.length_append, List.length_cons]
    omega

/-- What is read at a text's head: the value, and how many bytes it has; Repl and one byte where no form begins. -/
def dec (l : List UInt8) : Nat × Nat := Lib.decodeN l.length (l[0]?.getD 0).toNat (l[1]?.getD 0).toNat (l[2]?.getD 0).toNat (l[3]?.getD 0).toNat

set_option maxRecDepth 100000 in
set_option maxHeartbeats 4000000 in
theorem decodeN_ok (n b0 b1 b2 b3 : Nat) (hn : 1 ≤ n) (h0 : b0 < 256) :
    1 ≤ (Lib.decodeN n b0 b1 b2 b3).2 ∧ (Lib.decodeN n b0 b1 b2 b3).2 ≤ n ∧ (Lib.decodeN n b0 b1 b2 b3).1 ≤ 1114111 ∧ ((Lib.decodeN n b0 b1 b2 b3).1 < 55296 ∨ 57343 < (Lib.decodeN n b0 b1 b2 b3).1) := by
  unfold Lib.decodeN
  repeat' split
  all_goals (simp only; omega)
theorem dec_ok {l : List UInt8} (h : l ≠ []) : 1 ≤ (dec l).2 ∧ (dec l).2 ≤ l.length ∧ goodB ((dec l).1 : Int) = true := by
  have hl : 1 ≤ l.length := by cases l with
    | nil => exact absurd rfl h
    | cons a r => simp
  have := decodeN_ok l.length (l[0]?.getD 0).toNat (l[1]?.getD 0).toNat (l[2]?.getD 0).toNat (l[3]?.getD 0).toNat hl (UInt8.toNat_lt _)
  rw [goodB_iff]
  unfold dec
  omega

set_option maxRecDepth 100000 in
set_option maxHeartbeats 4000000 in
/-- A form is read as its value. -/
theorem dec_formV {r : Int} (hg : goodB r = true) (rest : List UInt8) : dec (formV r ++ rest) = (r.toNat, (formV r).length) := by
  rw [goodB_iff] at hg
  have hn : ∀ k : Int, 0 ≤ k → k < 256 → (b8 k).toNat = k.toNat := fun k h0 h1 => by have := b8_toNat h0 h1; omega
  unfold formV dec
  split
  · simp only [List.singleton_append, List.length_cons, List.getElem?_cons_zero, Option.getD_some, hn r (by omega) (by omega), List.length_nil]
    have : r.toNat < 128 := by omega
    simp [Lib.decodeN, this]
  · split
    · simp only [List.cons_append, List.nil_append, List.length_cons, List.getElem?_cons_zero, List.getElem?_cons_succ, Option.getD_some, List.length_nil]
      rw [hn (192 + r / 64) (by omega) (by omega), hn (128 + r % 64) (by omega) (by omega)]
      generalize hx : (192 + r / 64).toNat = x
      generalize hy : (128 + r % 64).toNat = y
      unfold Lib.decodeN
      repeat' split
      all_goals first | (exfalso; omega) | (apply Prod.ext <;> simp only <;> omega)
    · split
      · simp only [List.cons_append, List.nil_append, List.length_cons, List.getElem?_cons_zero, List.getElem?_cons_succ, Option.getD_some, List.length_nil]
        rw [hn (224 + r / 4096) (by omega) (by omega), hn (128 + r / 64 % 64) (by omega) (by omega), hn (128 + r % 64) (by omega) (by omega)]
        generalize hx : (224 + r / 4096).toNat = x
        generalize hy : (128 + r / 64 % 64).toNat = y
        generalize hz : (128 + r % 64).toNat = z
        unfold Lib.decodeN
        repeat' split
        all_goals first | (exfalso; omega) | (apply Prod.ext <;> simp only <;> omega)
      · simp only [List.cons_append, List.nil_append, List.length_cons, List.getElem?_cons_zero, List.getElem?_cons_succ, Option.getD_some, List.length_nil]
        rw [hn (240 + r / 262144) (by omega) (by omega), hn (128 + r / 4096 % 64) (by omega) (by omega), hn (128 + r / 64 % 64) (by omega) (by omega), hn (128 + r % 64) (by omega) (by omega)]
        generalize hx : (240 + r / 262144).toNat = x
        generalize hy : (128 + r / 4096 % 64).toNat = y
        generalize hz : (128 + r / 64 % 64).toNat = z
        generalize hu : (128 + r % 64).toNat = u
        unfold Lib.decodeN
        repeat' split
        all_goals first | (exfalso; omega) | (apply Prod.ext <;> simp only <;> omega)

theorem formV_head {r : Int} (h : (formV r).length = 1) : r < 128 := by
  unfold formV at h
  by_cases h1 : r < 128
  · exact h1
  · rw [if_neg h1] at h
    split at h
    · simp at h
    · split at h
      · simp at h
      · simp at h

theorem u8_eq {a : UInt8} {n : Int} (h0 : 0 ≤ n) (h1 : n < 256) (h : (a.toNat : Int) = n) : b8 n = a := by
  apply UInt8.toNat_inj.1
  have := b8_toNat h0 h1
  omega

set_option maxRecDepth 100000 in
set_option maxHeartbeats 4000000 in
/-- What is read as a form is its value's form; and what the document's own reader reckons up is this value. -/
theorem formV_dec {l : List UInt8} (h : l ≠ []) (hb : dec l ≠ (65533, 1)) : formV ((dec l).1 : Int) = l.take (dec l).2 := by
  unfold dec at *
  match l, h with
  | [a], _ =>
    have := a.toNat_lt
    simp only [List.length_cons, List.length_nil, List.getElem?_cons_zero, Option.getD_some, Nat.zero_add, List.getElem?_cons_succ, List.getElem?_nil, Option.getD_none, UInt8.toNat_zero] at hb ⊢
    unfold Lib.decodeN at *
    split at hb
    · rename_i h1
      rw [if_pos h1]
      simp only [formV]
      rw [if_pos (by omega), u8_eq (a := a) (by omega) (by omega) rfl]
      rfl
    · exfalso
      simp at hb
  | [a, b], _ =>
    have ha := a.toNat_lt
    have hb' := b.toNat_lt
    simp only [List.length_cons, List.length_nil, List.getElem?_cons_zero, Option.getD_some, Nat.zero_add, List.getElem?_cons_succ, List.getElem?_nil, Option.getD_none, UInt8.toNat_zero] at hb ⊢
    unfold Lib.decodeN at *
    repeat' split at hb
    all_goals first
      | (exfalso; omega)
      | (exfalso; exact hb rfl)
      | skip
    · rw [if_pos (by assumption)]
      simp only [formV]
      rw [if_pos (by omega), u8_eq (a := a) (by omega) (by omega) rfl]
      rfl
    · rw [if_neg (by assumption), if_pos (by assumption), if_pos (by assumption)]
      simp only [formV]
      rw [if_neg (by omega), if_pos (by omega), u8_eq (a := a) (by omega) (by omega) (by omega), u8_eq (a := b) (by omega) (by omega) (by omega)]
      rfl
  | [a, b, c], _ =>
    have ha := a.toNat_lt
    have hb' := b.toNat_lt
    have hc := c.toNat_lt
    simp only [List.length_cons, List.length_nil, List.getElem?_cons_zero, Option.getD_some, Nat.zero_add, List.getElem?_cons_succ, List.getElem?_nil, Option.getD_none, UInt8.toNat_zero] at hb ⊢
    unfold Lib.decodeN at *
    repeat' split at hb
    all_goals first
      | (exfalso; omega)
      | (exfalso; exact hb rfl)
      | skip
    · rw [if_pos (by assumption)]
      simp only [formV]
      rw [if_pos (by omega), u8_eq (a := a) (by omega) (by omega) rfl]
      rfl
    · rw [if_neg (by assumption), if_pos (by assumption), if_pos (by assumption)]
      simp only [formV]
      rw [if_neg (by omega), if_pos (by omega), u8_eq (a := a) (by omega) (by omega) (by omega), u8_eq (a := b) (by omega) (by omega) (by omega)]
      rfl
    · rw [if_neg (by assumption), if_neg (by assumption), if_pos (by assumption), if_pos (by assumption)]
      simp only [formV]
      rw [if_neg (by omega), if_neg (by omega), if_pos (by omega), u8_eq (a := a) (by omega) (by omega) (by omega), u8_eq (a := b) (by omega) (by omega) (by omega), u8_eq (a := c) (by omega) (by omega) (by omega)]
      rfl
  | a :: b :: c :: d :: rest, _ =>
    have ha := a.toNat_lt
    have hb' := b.toNat_lt
    have hc := c.toNat_lt
    have hd := d.toNat_lt
    simp only [List.length_cons, List.getElem?_cons_zero, Option.getD_some, List.getElem?_cons_succ] at hb ⊢
    unfold Lib.decodeN at *
    repeat' split at hb
    all_goals first
      | (exfalso; omega)
      | (exfalso; exact hb rfl)
      | skip
    · rw [if_pos (by assumption)]
      simp only [formV]
      rw [if_pos (by omega), u8_eq (a := a) (by omega) (by omega) rfl]
      rfl
    · rw [if_neg (by assumption), if_pos (by assumption), if_pos (by assumption)]
      simp only [formV]
      rw [if_neg (by omega), if_pos (by omega), u8_eq (a := a) (by omega) (by omega) (by omega), u8_eq (a := b) (by omega) (by omega) (by omega)]
      rfl
    · rw [if_neg (by assumption), if_neg (by assumption), if_pos (by assumption), if_pos (by assumption)]
      simp only [formV]
      rw [if_neg (by omega), if_neg (by omega), if_pos (by omega), u8_eq (a := a) (by omega) (by omega) (by omega), u8_eq (a := b) (by omega) (by omega) (by omega), u8_eq (a := c) (by omega) (by omega) (by omega)]
      rfl
    · rw [if_neg (by assumption), if_neg (by assumption), if_neg (by assumption), if_pos (by assumption), if_pos (by assumption)]
      simp only [formV]
      rw [if_neg (by omega), if_neg (by omega), if_neg (by omega), u8_eq (a := a) (by omega) (by omega) (by omega), u8_eq (a := b) (by omega) (by omega) (by omega), u8_eq (a := c) (by omega) (by omega) (by omega), u8_eq (a := d) (by omega) (by omega) (by omega)]
      rfl
end Go.Proofs.YthcnjiigkmljnaaGreatDoor
/-
  What the range over a text reads at a place, as a plain function of lists.
-/
namespace Go.Proofs.YthcnjiigkmljnaaGreatDoor
open Go.RowKit

theorem get_str! (l : List UInt8) (i : Nat) : (str l).get! i = l[i]?.getD 0 := by
  show l.toArray[i]! = _
  by_cases h : i < l.length
  · rw [getElem!_pos l.toArray i (by simpa using h), List.getElem?_eq_getElem h]
    simp
  · rw [getElem!_neg l.toArray i (by simpa using h), List.getElem?_eq_none (by omega)]
    rfl
theorem decode_str (l : List UInt8) (k : Nat) : Utf8.decode (str l) k = dec (l.drop k) := by
  rw [Lib.decode_at]
  unfold dec
  simp only [get_str!, str_size, List.length_drop, List.getElem?_drop, Nat.add_zero]
theorem drop_ne {l : List UInt8} {k : Nat} (h : k < l.length) : l.drop k ≠ [] := by
  intro e
  have := congrArg List.length e
  rw [List.length_drop, List.length_nil] at this
  omega
theorem dec_drop {l : List UInt8} {k R K : Nat} (h : k < l.length) (hd : dec (l.drop k) = (R, K)) : 1 ≤ K ∧ k + K ≤ l.length ∧ R ≤ 1114111 := by
  have h1 := dec_ok (drop_ne h)
  rw [hd, List.length_drop, goodB_iff] at h1
  simp only at h1
  omega
end Go.Proofs.YthcnjiigkmljnaaGreatDoor
/-
  strings.IndexRune at the text of the two bytes that end a line: where a value of UTF-8 stands in it.
-/
namespace Go.Proofs.YthcnjiigkmljnaaGreatDoor
open Go.RowKit
attribute [local go_sem ↓] Go.wp_at_zero Go.wp_at_succ

set_option maxRecDepth 100000 in
set_option maxHeartbeats 1000000 in
theorem liteIndexByte_any (s : ByteArray) (c : Int) (w : World) :
    Calls Tryz.prog 108 #[.string s, .int .u8 c] w fun e w' => e = .returned (.int .i64 (Lib.indexByte s.data.toList c.toNat.toUInt8)) ∧ w' = w := by
  go_enter Tryz.func108, Tryz.ntmps108
  go_wp2
  rw [run_callFunc_extern Tryz.func120 (by kernel_rfl) (by kernel_rfl) (by kernel_rfl) (e := Extern.BytealgIndexByte.indexByte) (by kernel_rfl), Lib.run_indexByteString]
  simp only [Result.andThen]
  rw [Oper.upon_value]
  go_wp2
  go_ret
  exact ⟨rfl, rfl⟩
set_option maxHeartbeats 1000000 in
theorem IndexByte_any (s : ByteArray) (c : Int) (w : World) :
    Calls Tryz.prog 89 #[.string s, .int .u8 c] w fun e w' => e = .returned (.int .i64 (Lib.indexByte s.data.toList c.toNat.toUInt8)) ∧ w' = w := by
  go_enter Tryz.func89, Tryz.ntmps89
  go_wp2_with (go_at_call 108; refine (liteIndexByte_any _ _ _).mono ?_; rintro e w' ⟨rfl, rfl⟩)
  go_ret
  exact ⟨rfl, rfl⟩
set_option maxHeartbeats 1000000 in
theorem ValidRune_yes (r : Int) (w : World) (h : (0 ≤ r ∧ r < 55296) ∨ (57343 < r ∧ r ≤ 1114111)) :
    Calls Tryz.prog 104 #[.int .i32 r] w fun e w' => e = .returned (.bool true) ∧ w' = w := by
  rcases h with ⟨h0, h1⟩ | ⟨h0, h1⟩
  · go_enter Tryz.func104, Tryz.ntmps104
    go_wp2
    go_ret
    exact ⟨rfl, rfl⟩
  · have h2 : ¬ r < 55296 := by omega
    have h3 : (0 : Int) ≤ r := by omega
    go_enter Tryz.func104, Tryz.ntmps104
    go_wp2
    go_ret
    exact ⟨rfl, rfl⟩

/-- Where a value stands in the text of 10 and 13. -/
def ri (r : Int) : Int := if r = 10 then 0 else if r = 13 then 1 else -1
theorem ri_byte (r : Int) (h0 : 0 ≤ r) (h1 : r < 128) : Lib.indexByte [10, 13] r.toNat.toUInt8 = ri r := by
  obtain ⟨n, rfl⟩ := Int.eq_ofNat_of_zero_le h0
  have hn : n < 128 := by omega
  have key : ∀ n : Fin 128, Lib.indexByte [10, 13] ((n.val : Int).toNat.toUInt8) = ri (n.val : Int) := by decide
  exact key ⟨n, hn⟩

set_option maxRecDepth 100000 in
set_option maxHeartbeats 1000000 in
theorem IndexRune_low (r : Int) (w : World) (h0 : 0 ≤ r) (h1 : r < 128) :
    Calls Tryz.prog 80 #[.string (str [10, 13]), .int .i32 r] w fun e w' => e = .returned (.int .i64 (ri r)) ∧ w' = w := by
  have hB : ∀ w, Calls Tryz.prog 89 #[.string (str [10, 13]), .int .u8 r] w fun e w' => e = .returned (.int .i64 (ri r)) ∧ w' = w := fun w => by
    rw [← ri_byte r h0 h1]; exact IndexByte_any (str [10, 13]) r w
  have HB := Lib.hid hB
  clear hB
  go_enter Tryz.func80, Tryz.ntmps80
  go_wp2_with (go_at_call 89; refine (HB.out _).mono ?_; rintro e w' ⟨rfl, rfl⟩)
  go_ret
  exact ⟨rfl, rfl⟩

theorem dec_nl : dec ([10, 13].drop 0) = (10, 1) ∧ dec ([10, 13].drop 1) = (13, 1) := by decide
set_option maxRecDepth 100000 in
set_option maxHeartbeats 1000000 in
theorem IndexRune_err (w : World) :
    Calls Tryz.prog 80 #[.string (str [10, 13]), .int .i32 65533] w fun e w' => e = .returned (.int .i64 (-1)) ∧ Below w.heap.size w w' := by
  obtain ⟨l, hl⟩ : ∃ l : List UInt8, l = [10, 13] := ⟨_, rfl⟩
  rw [← hl]
  have h2 : l.length = 2 := by rw [hl]; rfl
  have HL := Lib.hid hl
  clear hl
  go_enter Tryz.func80, Tryz.ntmps80
  go_wp2
  have hit1 := World.iter_heap w (str l) 0
  have hb1' : Below w.heap.size w (w.iter (str l) 0) := (Below.refl _ _).alloc (Nat.le_refl _) _
  generalize w.iter (str l) 0 = w2 at *
  go_loopw [5, 6] (fun _ _ wr => ∃ k : Nat, k ≤ 2 ∧ Hid (wr.heap[w.heap.size]? = some (.stringIter (str l) k)) ∧ Below w.heap.size w wr) (fun _ _ wr => 2 - wr.iterPos w.heap.size)
  case atStart => exact ⟨0, Nat.zero_le _, hit1, hb1'⟩
  case round =>
    obtain ⟨k, hk, HI, hbel⟩ := hrel
    by_cases hlt : k < 2
    · obtain ⟨R, hR, hd⟩ : ∃ R, R ≤ 13 ∧ dec (l.drop k) = (R, 1) := by
        rw [HL.out]
        rcases (show k = 0 ∨ k = 1 by omega) with rfl | rfl
        · exact ⟨10, by decide, dec_nl.1⟩
        · exact ⟨13, by decide, dec_nl.2⟩
      have hnx : ∀ ty, (Instr.next (.pointer (some ⟨w.heap.size, 0, none⟩)) true ty).run Tryz.prog wr = .ok (.tuple #[.bool true, .int .i64 k, .int .i32 (R : Int)]) (wr.iterAt w.heap.size (str l) (k + 1)) := fun ty => by
        have := Lib.run_next_any_at (P := Tryz.prog) wr w.heap.size (str l) k ty HI.out (by rw [str_size, h2]; exact hlt)
        rwa [decode_str, hd] at this
      have hit2 := Lib.iterAt_heap wr w.heap.size (str l) k (k + 1) HI.out
      have hbel2 := Lib.below_iterAt hbel (k := w.heap.size) (Nat.le_refl _) (str l) (k + 1)
      obtain ⟨W, hW⟩ : ∃ W, wr.iterAt w.heap.size (str l) (k + 1) = W := ⟨_, rfl⟩
      rw [hW] at hnx hit2 hbel2
      have hp := iterPos_of HI.out
      have hp2 := iterPos_of hit2
      have HP := Lib.hid hp
      have HP2 := Lib.hid hp2
      have HI2 := Lib.hid hit2
      have hr1 : ((R : Int) == 65533) = false := by rw [beq_eq_false_iff_ne]; omega
      clear hd hit2 hW hp hp2
      go_wp2
      go_roundw
      case rel => exact ⟨k + 1, by omega, HI2, hbel2⟩
      case measure => rw [HP.out, HP2.out]; omega
    · have hnx : ∀ ty, (Instr.next (.pointer (some ⟨w.heap.size, 0, none⟩)) true ty).run Tryz.prog wr = _ := fun ty => Lib.run_next_end_at (P := Tryz.prog) wr w.heap.size (str l) k ty HI.out (by rw [str_size, h2]; exact hlt)
      go_wp2
      go_ret
      exact ⟨rfl, hbel⟩

theorem idx_none (y : UInt8) : Lib.indexByte [] y = -1 := rfl
set_option maxRecDepth 100000 in
set_option maxHeartbeats 2000000 in
theorem IndexRune_high (r : Int) (w : World) (h0 : 128 ≤ r) (hv : (0 ≤ r ∧ r < 55296) ∨ (57343 < r ∧ r ≤ 1114111)) (hne : r ≠ 65533) :
    Calls Tryz.prog 80 #[.string (str [10, 13]), .int .i32 r] w fun e w' => e = .returned (.int .i64 (-1)) ∧ Below w.heap.size w w' := by
  have hV : ∀ w, Calls Tryz.prog 104 #[.int .i32 r] w fun e w' => e = .returned (.bool true) ∧ w' = w := fun w => ValidRune_yes r w hv
  have HV := Lib.hid hV
  obtain ⟨s2, s4, hlast⟩ := encode_facts r (by rw [validRune_eq]; exact decide_eq_true hv) h0
  have t1 : (r == 65533) = false := by rw [beq_eq_false_iff_ne]; exact hne
  have t2 : decide (r < 128) = false := by simp; omega
  have t3 : decide (0 ≤ r) = true := by simp; omega
  generalize hE : Utf8.encode r = E at *
  obtain ⟨n, hn⟩ : ∃ n, E.size = n := ⟨_, rfl⟩
  clear hV hne hv
  rcases (show n = 2 ∨ (3 ≤ n ∧ n ≤ 4) by omega) with rfl | hn3
  · obtain ⟨y, hy⟩ : ∃ y, y = E[1]'(by omega) := ⟨_, rfl⟩
    have hy0 : 128 ≤ y.toNat := by
      have := hlast (by omega)
      simp only [hn] at this
      rw [hy]; exact this
    have hy1 := y.toNat_lt
    have hget : ∀ h, E[1]'h = y := fun h => hy.symm
    clear hlast hy
    have hsl : ∀ wx, (Instr.slice 9 (.string (str [10, 13])) (some (.int .i64 2)) none none).run Tryz.prog wx = .ok (.string (str [])) wx := fun wx => by
      rw [run_slice_string_from_if wx 9 (str [10, 13]) .i64 2 Tryz.underlying9]
      rfl
    have hB : ∀ w, Calls Tryz.prog 89 #[.string (str []), .int .u8 y.toNat] w fun e w' => e = .returned (.int .i64 (-1)) ∧ w' = w := fun w => IndexByte_any (str []) y.toNat w
    have HB := Lib.hid hB
    clear hB
    have g1 : ∀ h, (str [10, 13])[1]'h = 13 := fun h => rfl
    have ty : ((13 : Int) != (y.toNat : Int)) = true := by rw [bne_iff_ne]; omega
    go_enter Tryz.func80, Tryz.ntmps80
    go_wp2_with (go_at_call 104; refine (HV.out _).mono ?_; rintro e w' ⟨rfl, rfl⟩)
    go_step3
    go_wp2
    go_loop [9, 10] (fun i f => i = .int .i64 1 ∧ f = .int .i64 0) (fun _ _ => 0)
    case atStart => exact ⟨rfl, rfl⟩
    case round =>
      obtain ⟨rfl, rfl⟩ := hrel
      go_wp2
      go_step3
      go_wp2
      go_quiet (fail)
      go_wp2
      go_region_held (fun _ => True) (trivial) ((go_at_call 89; refine (HB.out _).mono ?_; rintro e w' ⟨rfl, rfl⟩))
      all_goals
        go_wp2
        rw [Exit.noGoto_ret]
        go_wp2
        (try rw [Exit.noGoto_ret])
        go_ret
        exact ⟨rfl, by first | exact Below.refl _ _ | exact below_drewN (Below.refl _ _) _ | exact (below_drewN (Below.refl _ _) _).drew | exact below_drewN (below_drewN (Below.refl _ _) _) _⟩
  · clear hlast
    have hn' : (2 : Int) ≤ (n : Int) - 1 := by omega
    go_enter Tryz.func80, Tryz.ntmps80
    go_wp2_with (go_at_call 104; refine (HV.out _).mono ?_; rintro e w' ⟨rfl, rfl⟩)
    go_step3
    go_wp2
    go_loop [9, 10] (fun i f => i = .int .i64 ((n : Int) - 1) ∧ f = .int .i64 0) (fun _ _ => 0)
    case atStart => exact ⟨rfl, rfl⟩
    case round =>
      obtain ⟨rfl, rfl⟩ := hrel
      go_wp2
      go_ret
      exact ⟨rfl, Below.refl _ _⟩
/-- IndexRune at the text of 10 and 13, of every value that a text may tell. -/
theorem IndexRune_nl (r : Int) (w : World) (hv : (0 ≤ r ∧ r < 55296) ∨ (57343 < r ∧ r ≤ 1114111)) :
    Calls Tryz.prog 80 #[.string (str [10, 13]), .int .i32 r] w fun e w' => e = .returned (.int .i64 (ri r)) ∧ Below w.heap.size w w' := by
  by_cases h1 : r < 128
  · exact (IndexRune_low r w (by omega) h1).mono fun e w' ⟨h, h'⟩ => ⟨h, h' ▸ Below.refl _ _⟩
  · have e : ri r = -1 := by unfold ri; rw [if_neg (by omega), if_neg (by omega)]
    rw [e]
    by_cases h2 : r = 65533
    · subst h2; exact IndexRune_err w
    · exact IndexRune_high r w (by omega) hv h2
end Go.Proofs.YthcnjiigkmljnaaGreatDoor
/-
  The library's strings.IndexAny at this program: the numbers that its functions and types have here, for the library's own law of long texts.
-/
namespace Go.Proofs.YthcnjiigkmljnaaGreatDoor
open Go.RowKit Go.Shelf

def anyRen : Go.Shelf.Ren := ⟨fun | 153 => 54 | 152 => 80 | 226 => 81 | 227 => 82 | 228 => 83 | 137 => 89 | 119 => 104 | 224 => 105 | 225 => 106 | 217 => 108 | 266 => 120 | n => n, fun | 9 => 9 | 3 => 3 | 4 => 4 | 5 => 5 | 21 => 21 | 117 => 117 | 116 => 116 | 0 => 0 | 46 => 120 | 124 => 133 | n => n, fun | n => n⟩
theorem anyLays : Go.Proofs.Lays.n153 Tryz.prog anyRen := {
  mixed := by kernel_rfl
  f119 := Tryz.func104.trans (congrArg some (by kernel_rfl))
  f137 := Tryz.func89.trans (congrArg some (by kernel_rfl))
  f152 := Tryz.func80.trans (congrArg some (by kernel_rfl))
  f153 := Tryz.func54.trans (congrArg some (by kernel_rfl))
  f217 := Tryz.func108.trans (congrArg some (by kernel_rfl))
  f224 := Tryz.func105.trans (congrArg some (by kernel_rfl))
  f225 := Tryz.func106.trans (congrArg some (by kernel_rfl))
  f226 := Tryz.func81.trans (congrArg some (by kernel_rfl))
  f227 := Tryz.func82.trans (congrArg some (by kernel_rfl))
  f228 := Tryz.func83.trans (congrArg some (by kernel_rfl))
  f266 := Tryz.func120.trans (congrArg some (by kernel_rfl))
  t0 := Tryz.underlying0
  a0 := Tryz.isAgg0
  z0 := Tryz.sizeOf0
  v0 := Tryz.zeroValue0
  t3 := Tryz.underlying3
  a3 := Tryz.isAgg3
  z3 := Tryz.sizeOf3
  v3 := Tryz.zeroValue3
  t4 := Tryz.underlying4
  a4 := Tryz.isAgg4
  z4 := Tryz.sizeOf4
  v4 := Tryz.zeroValue4
  t5 := Tryz.underlying5
  a5 := Tryz.isAgg5
  z5 := Tryz.sizeOf5
  v5 := Tryz.zeroValue5
  t9 := Tryz.underlying9
  a9 := Tryz.isAgg9
  z9 := Tryz.sizeOf9
  v9 := Tryz.zeroValue9
  t21 := Tryz.underlying21
  a21 := Tryz.isAgg21
  z21 := Tryz.sizeOf21
  v21 := Tryz.zeroValue21
  t46 := Tryz.underlying120
  a46 := Tryz.isAgg120
  z46 := Tryz.sizeOf120
  v46 := Tryz.zeroValue120
  t116 := Tryz.underlying116
  a116 := Tryz.isAgg116
  z116 := Tryz.sizeOf116
  t117 := Tryz.underlying117
  a117 := Tryz.isAgg117
  z117 := Tryz.sizeOf117
  v117 := Tryz.zeroValue117
  t124 := Tryz.underlying133
  a124 := Tryz.isAgg133
  z124 := Tryz.sizeOf133
  v124 := Tryz.zeroValue133 }
theorem anySet : (Tryz.prog.info? (anyRen.t 116)).map (fun i => (i.zero, i.size)) = some (some (.agg (Array.replicate 256 (.bool false))), 256) := by kernel_rfl
theorem IndexAny_long (s chars : ByteArray) (w : World) (h2 : 2 ≤ chars.size) (h8 : 8 < s.size) (hs : s.size < 4294967281) (hcs : chars.size < 4294967281) (hascii : ∀ (j : Nat) b, chars.data.toList[j]? = some b → b.toNat < 128) :
    Calls Tryz.prog 54 #[.string s, .string chars] w fun e w' => e = .returned (.int .i64 (Lib.indexAny s.data.toList chars.data.toList)) ∧ Below w.heap.size w w' :=
  (Any.strings_IndexAny_long anyLays (zero_of_info anySet).1 (zero_of_info anySet).2 s chars w h2 h8 hs hcs hascii).mono fun e w' ⟨h1, h2⟩ => ⟨h1, by rw [h2]; exact ((Below.refl _ _).alloc (Nat.le_refl _) _).alloc (by simp) _⟩
end Go.Proofs.YthcnjiigkmljnaaGreatDoor
/-
  strings.IndexAny at the two bytes that end a line: where a remark ends, in any text.
-/
namespace Go.Proofs.YthcnjiigkmljnaaGreatDoor
open Go.RowKit

/-- What it tells: the place of the first byte that ends a line, or -1. -/
def ia (l : List UInt8) : Int := if eol l < l.length then (eol l : Int) else -1
theorem nl_contains (b : UInt8) : ([10, 13] : List UInt8).contains b = nl b := by
  unfold nl
  simp only [List.contains_cons, List.contains_nil, Bool.or_false]
theorem indexAny_ia : ∀ l : List UInt8, Lib.indexAny l [10, 13] = ia l
  | [] => rfl
  | b :: t => by
    have ih := indexAny_ia t
    have hle := eol_le t
    unfold Lib.indexAny
    rw [nl_contains, ih]
    unfold ia
    cases hb : nl b with
    | true => rw [eol_y t hb]; simp
    | false =>
      rw [eol_n t hb, List.length_cons]
      simp only [Bool.false_eq_true, if_false]
      by_cases h : eol t < t.length
      · have hX : (if eol t < t.length then (eol t : Int) else -1) = eol t := if_pos h
        have hY : ((eol t : Int) == -1) = false := by rw [beq_eq_false_iff_ne]; omega
        rw [hX, hY, if_pos (show eol t + 1 < t.length + 1 by omega)]
        simp
      · have hX : (if eol t < t.length then (eol t : Int) else -1) = -1 := if_neg h
        rw [hX, if_neg (show ¬ eol t + 1 < t.length + 1 by omega)]
        rfl

set_option maxRecDepth 100000 in
set_option maxHeartbeats 4000000 in
theorem decodeN_nl (n b0 b1 b2 b3 : Nat) (h0 : 128 ≤ b0) (h1 : b0 < 256) : 128 ≤ (Lib.decodeN n b0 b1 b2 b3).1 ∧ (2 ≤ (Lib.decodeN n b0 b1 b2 b3).2 → 128 ≤ b1) ∧ (3 ≤ (Lib.decodeN n b0 b1 b2 b3).2 → 128 ≤ b2) ∧ (4 ≤ (Lib.decodeN n b0 b1 b2 b3).2 → 128 ≤ b3) ∧ (Lib.decodeN n b0 b1 b2 b3).2 ≤ 4 := by
  unfold Lib.decodeN
  repeat' split
  all_goals (simp only; omega)
theorem dec_low {l : List UInt8} {R K : Nat} (hd : dec l = (R, K)) (h : (l[0]?.getD 0).toNat < 128) : R = (l[0]?.getD 0).toNat ∧ K = 1 := by
  unfold dec Lib.decodeN at hd
  rw [if_pos h] at hd
  injection hd with h1 h2
  exact ⟨h1.symm, h2.symm⟩
theorem dec_high {l : List UInt8} {R K : Nat} (hd : dec l = (R, K)) (h : 128 ≤ (l[0]?.getD 0).toNat) : 128 ≤ R ∧ ∀ j, j < K → 128 ≤ (l[j]?.getD 0).toNat := by
  have := decodeN_nl l.length (l[0]?.getD 0).toNat (l[1]?.getD 0).toNat (l[2]?.getD 0).toNat (l[3]?.getD 0).toNat h (UInt8.toNat_lt _)
  unfold dec at hd
  rw [hd] at this
  simp only at this
  refine ⟨this.1, fun j hj => ?_⟩
  rcases (show j = 0 ∨ j = 1 ∨ j = 2 ∨ j = 3 by omega) with rfl | rfl | rfl | rfl
  · exact h
  · exact this.2.1 (by omega)
  · exact this.2.2.1 (by omega)
  · exact this.2.2.2.1 (by omega)
theorem nl_high {b : UInt8} (h : 128 ≤ b.toNat) : nl b = false := by
  unfold nl
  rw [Bool.or_eq_false_iff, beq_eq_false_iff_ne, beq_eq_false_iff_ne]
  constructor
  · rintro rfl; exact absurd h (by decide)
  · rintro rfl; exact absurd h (by decide)
theorem eol_skip : ∀ (K : Nat) (l : List UInt8), K ≤ l.length → (∀ j, j < K → nl (l[j]?.getD 0) = false) → eol l = K + eol (l.drop K)
  | 0, l, _, _ => by simp
  | K + 1, [], h, _ => by simp at h
  | K + 1, b :: t, h, hn => by
    have hb : nl b = false := hn 0 (by omega)
    have ih := eol_skip K t (by simpa using h) fun j hj => hn (j + 1) (by omega)
    rw [eol_n t hb, List.drop_succ_cons]
    omega
/-- A step of the range: the value is no end of a line, or it is one, and its byte is. -/
theorem nl_step {l : List UInt8} {R K : Nat} (hne : l ≠ []) (hd : dec l = (R, K)) (h1 : 1 ≤ K) (h2 : K ≤ l.length) :
    (ri (R : Int) = -1 ∧ eol l = K + eol (l.drop K)) ∨ (0 ≤ ri (R : Int) ∧ eol l = 0) := by
  by_cases hb : (l[0]?.getD 0).toNat < 128
  · obtain ⟨hR, hK⟩ := dec_low hd hb
    subst hK
    cases hn : nl (l[0]?.getD 0) with
    | false =>
      left
      refine ⟨?_, eol_skip 1 l h2 fun j hj => by rw [show j = 0 by omega]; exact hn⟩
      unfold nl at hn
      rw [Bool.or_eq_false_iff, beq_eq_false_iff_ne, beq_eq_false_iff_ne] at hn
      unfold ri
      rw [if_neg, if_neg]
      · intro e; exact hn.2 (eq_of_toNat (by rw [← hR]; show R = 13; omega))
      · intro e; exact hn.1 (eq_of_toNat (by rw [← hR]; show R = 10; omega))
    | true =>
      right
      cases l with
      | nil => exact absurd rfl hne
      | cons b t =>
        have hb' : nl b = true := hn
        refine ⟨?_, eol_y t hb'⟩
        unfold nl at hb'
        rw [Bool.or_eq_true, beq_iff_eq, beq_iff_eq] at hb'
        have hR' : R = b.toNat := hR
        rcases hb' with rfl | rfl
        · rw [hR']; decide
        · rw [hR']; decide
  · obtain ⟨hR, hj⟩ := dec_high hd (by omega)
    left
    refine ⟨?_, eol_skip K l h2 fun j h => nl_high (hj j h)⟩
    unfold ri
    rw [if_neg (by omega), if_neg (by omega)]

set_option maxHeartbeats 400000 in
theorem useSet_any (n : Int) (w : World) : Calls Tryz.prog 81 #[.int .i64 n] w fun e w' => e = .returned (.bool (decide (8 < n))) ∧ w = w' := by
  go_enter Tryz.func81, Tryz.ntmps81
  go_wp2
  go_ret
  exact ⟨rfl, rfl⟩

set_option maxRecDepth 100000 in
set_option maxHeartbeats 2000000 in
theorem IndexAny_short (l : List UInt8) (w : World) (hl : l.length ≤ 8) :
    Calls Tryz.prog 54 #[.string (str l), .string (str [10, 13])] w fun e w' => e = .returned (.int .i64 (ia l)) ∧ Below w.heap.size w w' := by
  obtain ⟨q, hq⟩ : ∃ q : List UInt8, q = [10, 13] := ⟨_, rfl⟩
  have hR : ∀ (r : Int) w, ((0 ≤ r ∧ r < 55296) ∨ (57343 < r ∧ r ≤ 1114111)) → Calls Tryz.prog 80 #[.string (str q), .int .i32 r] w fun e w' => e = .returned (.int .i64 (ri r)) ∧ Below w.heap.size w w' := fun r w hv => by rw [hq]; exact IndexRune_nl r w hv
  rw [← hq]
  have hq2 : q.length = 2 := by rw [hq]; rfl
  have hqe : q.isEmpty = false := by rw [hq]; rfl
  have HR := Lib.hid hR
  clear hq hR
  have t1 : decide ((8 : Int) < (l.length : Int)) = false := by simp; omega
  go_enter Tryz.func54, Tryz.ntmps54
  go_wp2_with (go_at_call 81; refine (useSet_any _ _).mono ?_; rintro e w' ⟨rfl, rfl⟩)
  have hit1 := World.iter_heap w (str l) 0
  have hb1' : Below w.heap.size w (w.iter (str l) 0) := (Below.refl _ _).alloc (Nat.le_refl _) _
  generalize w.iter (str l) 0 = w2 at *
  go_loopw [9, 10] (fun _ _ wr => ∃ k : Nat, k ≤ l.length ∧ Hid (k + eol (l.drop k) = eol l) ∧ Hid (wr.heap[w.heap.size]? = some (.stringIter (str l) k)) ∧ Below w.heap.size w wr) (fun _ _ wr => l.length - wr.iterPos w.heap.size)
  case atStart => exact ⟨0, Nat.zero_le _, Lib.hid (by simp), hit1, hb1'⟩
  case round =>
    obtain ⟨k, hk, HE, HI, hbel⟩ := hrel
    by_cases hlt : k < l.length
    · obtain ⟨R, K, hd⟩ : ∃ R K, dec (l.drop k) = (R, K) := ⟨_, _, rfl⟩
      obtain ⟨hK1, hK2, hR1⟩ := dec_drop hlt hd
      have hgood := (dec_ok (drop_ne hlt)).2.2
      rw [hd, goodB_iff] at hgood
      have hnx : ∀ ty, (Instr.next (.pointer (some ⟨w.heap.size, 0, none⟩)) true ty).run Tryz.prog wr = .ok (.tuple #[.bool true, .int .i64 k, .int .i32 (R : Int)]) (wr.iterAt w.heap.size (str l) (k + K)) := fun ty => by
        have := Lib.run_next_any_at (P := Tryz.prog) wr w.heap.size (str l) k ty HI.out (by rw [str_size]; exact hlt)
        rwa [decode_str, hd] at this
      have hit2 := Lib.iterAt_heap wr w.heap.size (str l) k (k + K) HI.out
      have hbel2 := Lib.below_iterAt hbel (k := w.heap.size) (Nat.le_refl _) (str l) (k + K)
      obtain ⟨W, hW⟩ : ∃ W, wr.iterAt w.heap.size (str l) (k + K) = W := ⟨_, rfl⟩
      rw [hW] at hnx hit2 hbel2
      have hp := iterPos_of HI.out
      have HP := Lib.hid hp
      have HI2 := Lib.hid hit2
      have hITW : w.heap.size < W.heap.size := (Array.getElem?_eq_some_iff.1 hit2).1
      have hC : Calls Tryz.prog 80 #[.string (str q), .int .i32 (R : Int)] W fun e w' => e = .returned (.int .i64 (ri (R : Int))) ∧ Below W.heap.size W w' := HR.out (R : Int) W (by simp only at hgood; omega)
      have hst := nl_step (drop_ne hlt) hd hK1 (by rw [List.length_drop]; omega)
      rw [List.drop_drop] at hst
      generalize ri (R : Int) = m at *
      have HC := Lib.hid hC
      have HS := Lib.hid hst
      clear hd hit2 hW hp hgood hC hst
      rcases HS.out with ⟨hm, he⟩ | ⟨hm, he⟩
      · subst hm
        have HEE := Lib.hid he
        clear he
        go_wp2_with (go_at_call 80; refine HC.out.mono ?_; rintro e w3 ⟨rfl, hb3⟩)
        have hit3 : w3.heap[w.heap.size]? = some (.stringIter (str l) (k + K)) := (hb3.block _ hITW).trans HI2.out
        have hp3 := iterPos_of hit3
        go_roundw
        case rel => exact ⟨k + K, by omega, by have := HE.out; have := HEE.out; exact Lib.hid (by omega), hit3, hbel2.trans (hb3.mono hbel2.size)⟩
        case measure => rw [HP.out, hp3]; omega
      · have hia : ia l = (k : Int) := by
          have h1 := HE.out
          unfold ia
          rw [if_pos (by omega)]
          omega
        have hge : decide ((0 : Int) ≤ m) = true := by simpa using hm
        have HIA := Lib.hid hia
        clear he hia
        go_wp2_with (go_at_call 80; refine HC.out.mono ?_; rintro e w3 ⟨rfl, hb3⟩)
        go_ret
        rw [HIA.out]
        exact ⟨rfl, hbel2.trans (hb3.mono hbel2.size)⟩
    · have hia : ia l = -1 := by
        have h1 := HE.out
        unfold ia
        rw [if_neg (by rw [List.drop_eq_nil_of_le (by omega)] at h1; simp [eol] at h1; omega)]
      have hnx : ∀ ty, (Instr.next (.pointer (some ⟨w.heap.size, 0, none⟩)) true ty).run Tryz.prog wr = _ := fun ty => Lib.run_next_end_at (P := Tryz.prog) wr w.heap.size (str l) k ty HI.out (by rw [str_size]; exact hlt)
      have HIA := Lib.hid hia
      clear hia
      go_wp2
      go_ret
      rw [HIA.out]
      exact ⟨rfl, hbel⟩

theorem IndexAny_nl (l : List UInt8) (w : World) (hl : l.length ≤ 1073741824) :
    Calls Tryz.prog 54 #[.string (str l), .string (ByteArray.mk #[10, 13])] w fun e w' => e = .returned (.int .i64 (ia l)) ∧ Below w.heap.size w w' := by
  by_cases h : l.length ≤ 8
  · exact IndexAny_short l w h
  · have := IndexAny_long (str l) (str [10, 13]) w (by decide) (by rw [str_size]; omega) (by rw [str_size]; omega) (by decide) (fun j b hb => by
      have hm : b ∈ ([10, 13] : List UInt8) := List.mem_of_getElem? hb
      simp at hm
      rcases hm with rfl | rfl <;> decide)
    rw [str_data, str_data, indexAny_ia] at this
    exact this
end Go.Proofs.YthcnjiigkmljnaaGreatDoor
/-
  lex.Class and within: what they answer, for every number.
-/
namespace Go.Proofs.YthcnjiigkmljnaaGreatDoor
open Go.RowKit

theorem dl_not {c : Int} (h : ¬ dl c) : (c == 40) = false ∧ (c == 60) = false ∧ (c == 91) = false ∧ (c == 123) = false ∧ (c == 41) = false ∧ (c == 62) = false ∧ (c == 93) = false ∧ (c == 125) = false ∧ (c == 47) = false ∧ (c == 37) = false := by
  unfold dl at h
  simp only [beq_eq_false_iff_ne]
  omega

set_option maxHeartbeats 2000000 in
theorem Class_any (c : Int) (w : World) (ht : Tab w) :
    Calls Tryz.prog 57 #[.int .i64 c] w fun e w' => e = .returned (.int .i64 (cls c)) ∧ w = w' := by
  by_cases h : dl c
  · have e : cls c = 2 := if_pos h
    rw [e]
    clear e
    rcases h with rfl | rfl | rfl | rfl | rfl | rfl | rfl | rfl | rfl | rfl
    all_goals
      go_enter Tryz.func57, Tryz.ntmps57
      go_wp2
      go_ret
      exact ⟨rfl, rfl⟩
  · obtain ⟨t1, t2, t3, t4, t5, t6, t7, t8, t9, t10⟩ := dl_not h
    by_cases hk : kz c = 1
    · have e : cls c = 1 := by unfold cls; rw [if_neg h, if_pos hk]
      have hw : (kz c == 1) = true := by simp [hk]
      rw [e]
      clear e h hk
      go_enter Tryz.func57, Tryz.ntmps57
      go_wp2_with (go_at_call 55; refine (White_any _ _ ht).mono ?_; rintro e w' ⟨rfl, rfl⟩)
      go_ret
      exact ⟨rfl, rfl⟩
    · have e : cls c = 0 := by unfold cls; rw [if_neg h, if_neg hk]
      have hw : (kz c == 1) = false := by simp [hk]
      rw [e]
      clear e h hk
      go_enter Tryz.func57, Tryz.ntmps57
      go_wp2_with (go_at_call 55; refine (White_any _ _ ht).mono ?_; rintro e w' ⟨rfl, rfl⟩)
      go_ret
      exact ⟨rfl, rfl⟩

set_option maxHeartbeats 400000 in
theorem within_any (l : List UInt8) (a : Int) (w : World) :
    Calls Tryz.prog 53 #[.string (str l), .int .i64 a] w fun e w' => e = .returned (.int .i64 (pl l.length a : Nat)) ∧ w = w' := by
  go_enter Tryz.func53, Tryz.ntmps53
  go_wp2
  all_goals
    go_ret
    refine ⟨congrArg (fun n : Int => Ending.returned (.int .i64 n)) ?_, rfl⟩
    unfold pl
    omega
end Go.Proofs.YthcnjiigkmljnaaGreatDoor
