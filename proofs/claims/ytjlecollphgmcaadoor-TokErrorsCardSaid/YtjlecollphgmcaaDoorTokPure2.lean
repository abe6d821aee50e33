/-
  Tokens as plain functions, second part: what a token and an error hang on; all tokens of a text; what is written of tokens is read again.
-/
import Derived.Test.YtjlecollphgmcaaDoorTokPure
namespace Go.Proofs.YtjlecollphgmcaaDoor

/-! ### What a token hangs on -/
theorem wn_of_take {u d : List UInt8} (h : u.take (wn d) = d.take (wn d)) (h0 : wn (u.drop (wn d)) = 0) : wn u = wn d := by
  have hl : (u.take (wn d)).length = wn d := by rw [h, List.length_take]; have := wn_le d; omega
  have := wn_append (a := u.take (wn d)) (u.drop (wn d)) (by rw [h]; exact wn_mem)
  rw [List.take_append_drop] at this
  omega
theorem take_more (a b : List UInt8) (c : UInt8) : (a ++ c :: b).take (a.length + 1) = a ++ [c] := by simp [List.take_append, List.take_of_length_le]
theorem gt_take {t : List UInt8} (h : gt t < t.length) : t.take (gt t + 1) = t.take (gt t) ++ [62] := by
  have h1 := gt_split t h
  have h2 : (t.take (gt t)).length = gt t := by rw [List.length_take]; omega
  have h3 := take_more (t.take (gt t)) (t.drop (gt t + 1)) 62
  rw [← h1, h2] at h3
  exact h3
theorem gt_ext {t v : List UInt8} (h : gt t < t.length) (hv : v.take (gt t + 1) = t.take (gt t + 1)) : gt v = gt t ∧ gt t < v.length ∧ v.take (gt t) = t.take (gt t) := by
  have e : v = t.take (gt t) ++ 62 :: v.drop (gt t + 1) := by
    conv => lhs; rw [← List.take_append_drop (gt t + 1) v, hv, gt_take h]
    simp
  have h2 : (t.take (gt t)).length = gt t := by rw [List.length_take]; omega
  refine ⟨?_, ?_, take_of_take hv (by omega)⟩
  · rw [e, gt_of _ _ (gt_mem t), h2]
  · exact len_of_take hv (by omega)
theorem tkWord_k {d : List UInt8} (h : (tkWord d).e = 0) : (tkWord d).k = wn d ∧ (tkWord d).kind ≤ 3 := by
  unfold tkWord at h ⊢
  by_cases e0 : inE (d.take (wn d)) = 0
  · rw [if_pos e0]; exact ⟨rfl, by show (1 : Int) ≤ 3; decide⟩
  · rw [if_neg e0] at h ⊢
    by_cases e3 : inE (d.take (wn d)) = 3
    · rw [if_pos e3]; exact ⟨rfl, by show (3 : Int) ≤ 3; decide⟩
    · rw [if_neg e3, noR_e] at h; exact absurd h e0
theorem tkWord_ext {d u : List UInt8} (h : u.take (wn d) = d.take (wn d)) (h0 : wn (u.drop (wn d)) = 0) : tkWord u = tkWord d := by
  have := wn_of_take h h0
  unfold tkWord
  rw [this, h]
theorem mk_60 {t v : List UInt8} (h : v.head? = t.head?) (hm : mk (60 :: t) = 0) : mk (60 :: v) = 0 := by
  simp only [mk] at hm ⊢
  rw [h]; exact hm
theorem tk_ok_ext {d u : List UInt8} (hne : d ≠ []) (h0 : sk false d = 0) (he : (tk d).e = 0) (hu : u.take (tk d).k = d.take (tk d).k) (hw : (tk d).kind ≤ 3 → wn (u.drop (tk d).k) = 0) : tk u = tk d := by
  have hh := tk_hd hne h0
  generalize hr : tk d = r at *
  cases hh with
  | mark h =>
    have hu' : u.take (mkL (mk d)).length = mkL (mk d) := Eq.trans (show u.take (mkL (mk d)).length = d.take (mkL (mk d)).length from hu) (mk_take h)
    have e : u = mkL (mk d) ++ u.drop (mkL (mk d)).length := by
      conv => lhs; rw [← List.take_append_drop (mkL (mk d)).length u, hu']
    have hm : mk u = mk d := by rw [e]; exact mk_self h _
    rw [tk_mark (by rw [hm]; exact h), hm]
  | form h hb => simp [noR_e] at he
  | name t =>
    obtain ⟨v, rfl, hv⟩ := cons_of_take (m := wn t) (show u.take (wn t + 1) = _ from by rw [Nat.add_comm]; exact hu)
    have hw1 : wn ((47 :: v).drop (1 + wn t)) = 0 := hw (by show (2 : Int) ≤ 3; decide)
    rw [Nat.add_comm, List.drop_succ_cons] at hw1
    have e := wn_of_take hv hw1
    rw [tk_name, e, hv]
  | @hex t h =>
    unfold tkHex at he hu ⊢
    by_cases hg : gt t < t.length
    · rw [if_pos hg] at he hu ⊢
      by_cases hx : unE (t.take (gt t)) = 0
      · rw [if_pos hx] at he hu ⊢
        obtain ⟨v, rfl, hv⟩ := cons_of_take (m := gt t + 1) (show u.take (gt t + 1 + 1) = _ from hu)
        obtain ⟨e1, e2, e3⟩ := gt_ext hg hv
        rw [tk_hex (mk_60 (head_of_take hv (by omega)) h)]
        unfold tkHex
        rw [e1, if_pos e2, e3, if_pos hx]
      · rw [if_neg hx] at he; rw [noR_e] at he; exact absurd he hx
    · rw [if_neg hg] at he; simp [noR_e] at he
  | str t =>
    unfold tkStr at he hu ⊢
    by_cases hs : (strT 1 t).e = 0
    · rw [if_pos hs] at he hu ⊢
      have hsz : sz (strT 1 t) = (strT 1 t).k := by simp [sz, hs]
      obtain ⟨v, rfl, hv⟩ := cons_of_take (m := (strT 1 t).k) (show u.take ((strT 1 t).k + 1) = _ from by rw [Nat.add_comm]; exact hu)
      have := strT_ext _ 1 t v (Nat.le_refl _) (by rw [hs]; decide) (by rw [hsz]; exact hv)
      rw [tk_str]
      unfold tkStr
      rw [this, if_pos hs]
    · rw [if_neg hs, noR_e] at he; exact absurd he hs
  | @word b t h =>
    obtain ⟨k1, k2⟩ := tkWord_k he
    rw [k1] at hu hw
    have hw1 := hw k2
    have e := tkWord_ext hu hw1
    obtain ⟨v, rfl, _⟩ := cons_of_take (m := wn t) (show u.take (wn t + 1) = (b :: t).take (wn t + 1) from by rw [wn_y t h] at hu; exact hu)
    rw [tk_word v h]; exact e

/-! ### What an error hangs on -/
theorem take_app {d : List UInt8} (x : List UInt8) {k : Nat} (h : k ≤ d.length) : (d ++ x).take k = d.take k := List.take_append_of_le_length h
theorem head_app {t : List UInt8} (x : List UInt8) (h : t ≠ []) : (t ++ x).head? = t.head? := by
  cases t with
  | nil => exact absurd rfl h
  | cons b t => rfl
theorem wn_app (d m : List UInt8) : (d ++ 10 :: m).take (wn d) = d.take (wn d) ∧ wn ((d ++ 10 :: m).drop (wn d)) = 0 := by
  refine ⟨take_app _ (wn_le d), ?_⟩
  rw [List.drop_append_of_le_length (wn_le d)]
  exact wn_zero_app (wn_rest d) m
theorem tk_err_ext {d : List UInt8} (m : List UInt8) (hne : d ≠ []) (h0 : sk false d = 0) (he : (tk d).e ≠ 0) (he2 : (tk d).e ≠ 2) : tk (d ++ 10 :: m) = tk d := by
  have hh := tk_hd hne h0
  generalize hr : tk d = r at *
  cases hh with
  | mark h => exact absurd rfl he
  | @form b t h hb =>
    have hm : mk ((b :: t) ++ 10 :: m) = 0 := by
      rcases hb with rfl | rfl
      · rfl
      · cases t with
        | nil => rfl
        | cons c t => simpa [mk] using h
    exact tk_form hm hb
  | name t => exact absurd rfl he
  | @hex t h =>
    unfold tkHex at he he2 ⊢
    by_cases hg : gt t < t.length
    · rw [if_pos hg] at he he2 ⊢
      have hv : (t ++ 10 :: m).take (gt t + 1) = t.take (gt t + 1) := take_app _ (by omega)
      obtain ⟨e1, e2, e3⟩ := gt_ext hg hv
      have hne : t ≠ [] := by rintro rfl; simp at hg
      show tk (60 :: (t ++ 10 :: m)) = _
      rw [tk_hex (mk_60 (head_app _ hne) h)]
      unfold tkHex
      rw [e1, if_pos e2, e3]
    · rw [if_neg hg] at he2; simp [noR_e] at he2
  | str t =>
    unfold tkStr at he he2 ⊢
    by_cases hs : (strT 1 t).e = 0
    · rw [if_pos hs] at he; exact absurd rfl he
    · rw [if_neg hs] at he he2 ⊢
      rw [noR_e] at he he2
      have hk := strT_k _ 1 t (Nat.le_refl _)
      rcases hk with ⟨e, _⟩ | ⟨_, k1, k2⟩
      · exact absurd e he2
      have := strT_ext _ 1 t (t ++ 10 :: m) (Nat.le_refl _) he2 (take_app _ k2)
      show tk (40 :: (t ++ 10 :: m)) = _
      rw [tk_str]
      unfold tkStr
      rw [this, if_neg hs]
  | @word b t h =>
    obtain ⟨e1, e2⟩ := wn_app (b :: t) m
    show tk (b :: (t ++ 10 :: m)) = _
    rw [tk_word _ h]
    exact tkWord_ext e1 e2
/-- Where an error is. -/
theorem tk_err_k {d : List UInt8} (hne : d ≠ []) (h0 : sk false d = 0) (he : (tk d).e ≠ 0) : (tk d).k ≤ d.length ∧ ((tk d).e = 2 → (tk d).k = d.length) := by
  have hh := tk_hd hne h0
  generalize hr : tk d = r at *
  cases hh with
  | mark h => exact absurd rfl he
  | @form b t h hb => exact ⟨Nat.zero_le _, fun e => by simp [noR_e] at e⟩
  | name t => exact absurd rfl he
  | @hex t h =>
    unfold tkHex at he ⊢
    by_cases hg : gt t < t.length
    · rw [if_pos hg] at he ⊢
      by_cases hx : unE (t.take (gt t)) = 0
      · rw [if_pos hx] at he; exact absurd rfl he
      · rw [if_neg hx]
        have h1 := bad_le (t.take (gt t))
        rw [List.length_take] at h1
        refine ⟨by show 1 + _ ≤ _; simp; omega, fun e => ?_⟩
        rw [noR_e] at e
        rcases unE_c (t.take (gt t)) with e' | e' <;> rw [e'] at e <;> simp at e
    · rw [if_neg hg]; exact ⟨by show 1 + t.length ≤ _; simp; omega, fun _ => by show 1 + t.length = _; simp; omega⟩
  | str t =>
    unfold tkStr at he ⊢
    by_cases hs : (strT 1 t).e = 0
    · rw [if_pos hs] at he; exact absurd rfl he
    · rw [if_neg hs]
      have hk := strT_k _ 1 t (Nat.le_refl _)
      rcases hk with ⟨e, k⟩ | ⟨e, k1, k2⟩
      · exact ⟨by show 1 + _ ≤ _; simp; omega, fun _ => by show 1 + _ = _; simp; omega⟩
      · have hsz : sz (strT 1 t) = (strT 1 t).k + 1 := by simp [sz, hs]
        exact ⟨by show 1 + _ ≤ _; simp; omega, fun e' => by have : (strT 1 t).e = 2 := e'; rcases e with e | e <;> rw [e] at this <;> simp at this⟩
  | @word b t h =>
    unfold tkWord at he ⊢
    by_cases e0 : inE ((b :: t).take (wn (b :: t))) = 0
    · rw [if_pos e0] at he; exact absurd rfl he
    · rw [if_neg e0] at he ⊢
      by_cases e3 : inE ((b :: t).take (wn (b :: t))) = 3
      · rw [if_pos e3] at he; exact absurd rfl he
      · rw [if_neg e3]
        refine ⟨Nat.zero_le _, fun e => ?_⟩
        rw [noR_e] at e
        rcases inE_cases ((b :: t).take (wn (b :: t))) with h | h | h <;> rw [h] at e <;> simp at e
/-- All ahead of an error's place, from the token on, is too short. -/
theorem tk_err_cut {d : List UInt8} (hne : d ≠ []) (h0 : sk false d = 0) (he : (tk d).e ≠ 0) (he2 : (tk d).e ≠ 2) (hk : (tk d).k ≠ 0) : (tk (d.take (tk d).k)).e = 2 := by
  have hh := tk_hd hne h0
  generalize hr : tk d = r at *
  cases hh with
  | mark h => exact absurd rfl he
  | @form b t h hb => exact absurd rfl hk
  | name t => exact absurd rfl he
  | @hex t h =>
    unfold tkHex at he he2 hk ⊢
    by_cases hg : gt t < t.length
    · rw [if_pos hg] at he he2 hk ⊢
      by_cases hx : unE (t.take (gt t)) = 0
      · rw [if_pos hx] at he; exact absurd rfl he
      · rw [if_neg hx]
        have h1 := bad_le (t.take (gt t))
        rw [List.length_take] at h1
        show (tk ((60 :: t).take (1 + bad (t.take (gt t))))).e = 2
        generalize bad (t.take (gt t)) = j at *
        rw [Nat.add_comm, List.take_succ_cons]
        have hm : mk (60 :: t.take j) = 0 := by
          cases j with
          | zero => simp [mk]
          | succ j => exact mk_60 (by cases t <;> rfl) h
        rw [tk_hex hm]
        unfold tkHex
        have hno : gt (t.take j) = (t.take j).length := gt_none _ fun b hb => gt_mem t b (by
          rw [show t.take j = (t.take (gt t)).take j by rw [List.take_take]; congr 1; omega] at hb
          exact List.mem_of_mem_take hb)
        rw [if_neg (by omega)]
        rfl
    · rw [if_neg hg] at he2; simp [noR_e] at he2
  | str t =>
    unfold tkStr at he he2 hk ⊢
    by_cases hs : (strT 1 t).e = 0
    · rw [if_pos hs] at he; exact absurd rfl he
    · rw [if_neg hs] at he he2 ⊢
      rw [noR_e] at he he2
      show (tk ((40 :: t).take (1 + (strT 1 t).k))).e = 2
      rw [Nat.add_comm, List.take_succ_cons, tk_str]
      have hsz : sz (strT 1 t) = (strT 1 t).k + 1 := by simp [sz, hs]
      have key : (strT 1 (t.take (strT 1 t).k)).e = 2 := by
        rcases strT_k _ 1 (t.take (strT 1 t).k) (Nat.le_refl _) with ⟨e, _⟩ | ⟨e, k1, k2⟩
        · exact e
        · exfalso
          have hle : (t.take (strT 1 t).k).length ≤ (strT 1 t).k := by rw [List.length_take]; omega
          have := strT_ext _ 1 (t.take (strT 1 t).k) t (Nat.le_refl _) (by rcases e with e | e <;> rw [e] <;> decide) (by rw [List.take_take]; congr 1; omega)
          rw [← this] at k2
          omega
      unfold tkStr
      rw [if_neg (by rw [key]; decide), key]
      rfl
  | @word b t h =>
    exfalso
    unfold tkWord at hk he
    by_cases e0 : inE ((b :: t).take (wn (b :: t))) = 0
    · rw [if_pos e0] at he; exact absurd rfl he
    · rw [if_neg e0] at he hk
      by_cases e3 : inE ((b :: t).take (wn (b :: t))) = 3
      · rw [if_pos e3] at he; exact absurd rfl he
      · rw [if_neg e3] at hk; exact absurd rfl hk

/-! ### What is skipped -/
theorem sk_app : ∀ (d : List UInt8) (r : Bool) (x : List UInt8), sk r d < d.length → sk r (d ++ x) = sk r d
  | [], r, x, h => by simp at h
  | b :: t, true, x, h => by
    rw [sk_t] at h ⊢
    rw [List.cons_append, sk_t, sk_app t _ x (by simpa using h)]
  | b :: t, false, x, h => by
    by_cases hb : b = 37
    · subst hb
      rw [sk_rem] at h ⊢
      rw [List.cons_append, sk_rem, sk_app t _ x (by simpa using h)]
    · cases hw : wh b with
      | true =>
        rw [sk_wh t hb hw] at h ⊢
        rw [List.cons_append, sk_wh _ hb hw, sk_app t _ x (by simpa using h)]
      | false => rw [sk_no t hb hw, List.cons_append, sk_no _ hb hw]
theorem sk_take : ∀ (d : List UInt8) (r : Bool) (j : Nat), sk r d < j → sk r (d.take j) = sk r d
  | [], r, j, h => by simp
  | b :: t, r, 0, h => by omega
  | b :: t, true, j + 1, h => by
    rw [sk_t] at h ⊢
    rw [List.take_succ_cons, sk_t, sk_take t _ j (by omega)]
  | b :: t, false, j + 1, h => by
    by_cases hb : b = 37
    · subst hb
      rw [sk_rem] at h ⊢
      rw [List.take_succ_cons, sk_rem, sk_take t _ j (by omega)]
    · cases hw : wh b with
      | true =>
        rw [sk_wh t hb hw] at h ⊢
        rw [List.take_succ_cons, sk_wh _ hb hw, sk_take t _ j (by omega)]
      | false => rw [sk_no t hb hw, List.take_succ_cons, sk_no _ hb hw]
theorem sk_part : ∀ (d : List UInt8) (r : Bool) (j : Nat), j ≤ sk r d → sk r (d.take j) = j
  | [], r, j, h => by rw [sk_nil] at h; simp [sk_nil]; omega
  | b :: t, r, 0, h => by simp [sk_nil]
  | b :: t, true, j + 1, h => by
    rw [sk_t] at h
    rw [List.take_succ_cons, sk_t, sk_part t _ j (by omega)]
  | b :: t, false, j + 1, h => by
    by_cases hb : b = 37
    · subst hb
      rw [sk_rem] at h
      rw [List.take_succ_cons, sk_rem, sk_part t _ j (by omega)]
    · cases hw : wh b with
      | true =>
        rw [sk_wh t hb hw] at h
        rw [List.take_succ_cons, sk_wh _ hb hw, sk_part t _ j (by omega)]
      | false => rw [sk_no t hb hw] at h; omega

/-! ### All tokens -/
theorem rest_ne {d : List UInt8} (h : sk false d < d.length) : d.drop (sk false d) ≠ [] := by
  intro e
  have := congrArg List.length e
  rw [List.length_drop] at this
  simp at this
  omega
theorem all_end (p : Nat) {d : List UInt8} (h : d.length ≤ sk false d) : all p d = ⟨[], p + d.length, 0⟩ := by rw [all, if_pos h]
theorem all_ok (p : Nat) {d : List UInt8} (h : sk false d < d.length) (he : (tk (d.drop (sk false d))).e = 0) :
    all p d = Al.add ((tk (d.drop (sk false d))).tok (p + sk false d)) (all (p + sk false d + (tk (d.drop (sk false d))).k) (d.drop (sk false d + (tk (d.drop (sk false d))).k))) := by
  have := (tk_ok (rest_ne h) (sk_end d false) he).pos
  rw [all, if_neg (by omega)]
  simp only
  rw [if_pos he, Nat.max_eq_right this]
theorem all_no (p : Nat) {d : List UInt8} (h : sk false d < d.length) (he : (tk (d.drop (sk false d))).e ≠ 0) :
    all p d = ⟨[], p + sk false d + (tk (d.drop (sk false d))).k, (tk (d.drop (sk false d))).e⟩ := by
  rw [all, if_neg (by omega)]
  simp only
  rw [if_neg he]
/-- What is known of all tokens of a text. -/
structure Alk (p : Nat) (d : List UInt8) (a : Al) : Prop where
  ge : p ≤ a.k
  le : a.k ≤ p + d.length
  ok : a.e = 0 → a.k = p + d.length
  short : a.e = 2 → a.k = p + d.length
  none : a.e ≠ 0 → a.l = []
  count : a.l.length ≤ d.length
  gd : ∀ t ∈ a.l, Gd t.kind t.n t.s ∧ t.s.length ≤ d.length
theorem add_e (t : Tk) (a : Al) : (Al.add t a).e = a.e := by unfold Al.add; split <;> simp_all
theorem add_k (t : Tk) (a : Al) : (Al.add t a).k = a.k := by unfold Al.add; split <;> rfl
theorem add_l {t : Tk} {a : Al} (h : a.e = 0) : (Al.add t a).l = t :: a.l := by unfold Al.add; rw [if_pos h]
theorem add_no {t : Tk} {a : Al} (h : a.e ≠ 0) : Al.add t a = a := by unfold Al.add; rw [if_neg h]
theorem all_k : ∀ (N p : Nat) (d : List UInt8), d.length ≤ N → Alk p d (all p d) := by
  intro N
  induction N with
  | zero =>
    intro p d h
    have : d = [] := List.eq_nil_of_length_eq_zero (by omega)
    subst this
    rw [all_end p (by simp)]
    exact ⟨Nat.le_refl _, by simp, fun _ => by simp, fun h => by simp at h, fun h => rfl, by simp, by simp⟩
  | succ N ih =>
    intro p d h
    by_cases hs : sk false d < d.length
    · by_cases he : (tk (d.drop (sk false d))).e = 0
      · have ok := tk_ok (rest_ne hs) (sk_end d false) he
        have h1 := ok.pos
        have h2 := ok.le
        rw [List.length_drop] at h2
        rw [all_ok p hs he]
        have a := ih (p + sk false d + (tk (d.drop (sk false d))).k) (d.drop (sk false d + (tk (d.drop (sk false d))).k)) (by rw [List.length_drop]; omega)
        have hss : (tk (d.drop (sk false d))).s.length ≤ d.length := by
          by_cases hk : (tk (d.drop (sk false d))).kind ≤ 3
          · have := ok.small hk; omega
          · rcases ok.short (by omega) with e | e
            · omega
            · rw [e]; simp
        generalize all (p + sk false d + (tk (d.drop (sk false d))).k) (d.drop (sk false d + (tk (d.drop (sk false d))).k)) = r at a ⊢
        obtain ⟨a1, a2, a3, a4, a5, a6, a7⟩ := a
        rw [List.length_drop] at a2 a3 a4 a6 a7
        refine ⟨by rw [add_k]; omega, by rw [add_k]; omega, fun e => ?_, fun e => ?_, fun e => ?_, ?_, ?_⟩
        · rw [add_e] at e; rw [add_k, a3 e]; omega
        · rw [add_e] at e; rw [add_k, a4 e]; omega
        · rw [add_e] at e; rw [add_no e]; exact a5 e
        · by_cases e : r.e = 0
          · rw [add_l e, List.length_cons]; omega
          · rw [add_no e]; omega
        · intro t ht
          by_cases e : r.e = 0
          · rw [add_l e] at ht
            rcases List.mem_cons.1 ht with rfl | ht
            · exact ⟨ok.gd, hss⟩
            · have := a7 t ht; exact ⟨this.1, by omega⟩
          · rw [add_no e] at ht
            have := a7 t ht; exact ⟨this.1, by omega⟩
      · have hk := tk_err_k (rest_ne hs) (sk_end d false) he
        rw [List.length_drop] at hk
        rw [all_no p hs he]
        exact ⟨by show p ≤ p + sk false d + _; omega, by show p + sk false d + _ ≤ _; omega, fun e => absurd e he, fun e => by show p + sk false d + _ = _; have := hk.2 e; omega, fun _ => rfl, by simp, by simp⟩
    · rw [all_end p (by omega)]
      exact ⟨by simp, Nat.le_refl _, fun _ => rfl, fun h => by simp at h, fun h => rfl, by simp, by simp⟩

/-! ### Tokens stand one behind the other -/
def Ch (s : List UInt8) : Nat → List Tk → Prop
  | _, [] => True
  | last, t :: r => ∃ q : Nat, last ≤ q ∧ q < s.length ∧ sk false (s.drop q) = 0 ∧ (tk (s.drop q)).e = 0 ∧ t = (tk (s.drop q)).tok q ∧ Ch s (q + (tk (s.drop q)).k) r
theorem all_ch (s : List UInt8) : ∀ (N p : Nat), s.length - p ≤ N → p ≤ s.length → Ch s p (all p (s.drop p)).l := by
  intro N
  induction N with
  | zero =>
    intro p h hp
    rw [all_end p (by rw [List.length_drop]; omega)]
    trivial
  | succ N ih =>
    intro p h hp
    by_cases hs : sk false (s.drop p) < (s.drop p).length
    · have hq := sk_end (s.drop p) false
      have hne := rest_ne hs
      by_cases he : (tk ((s.drop p).drop (sk false (s.drop p)))).e = 0
      · have ok := tk_ok hne hq he
        rw [all_ok p hs he]
        have h1 := ok.pos
        have h2 := ok.le
        rw [List.drop_drop] at h1 h2 he hq ⊢
        rw [List.length_drop] at hs h2
        generalize sk false (s.drop p) = j at *
        by_cases e : (all (p + j + (tk (s.drop (p + j))).k) ((s.drop p).drop (j + (tk (s.drop (p + j))).k))).e = 0
        · rw [add_l e]
          refine ⟨p + j, by omega, by omega, hq, he, rfl, ?_⟩
          rw [List.drop_drop, ← Nat.add_assoc]
          exact ih _ (by omega) (by omega)
        · rw [add_no e, (all_k _ _ _ (Nat.le_refl _)).none e]
          trivial
      · rw [all_no p hs he]
        trivial
    · rw [all_end p (by omega)]
      trivial

/-! ### Errors -/
theorem all_err_ext (m : List UInt8) : ∀ (N p : Nat) (d : List UInt8), d.length ≤ N → (all p d).e ≠ 0 → (all p d).e ≠ 2 → (all p (d ++ 10 :: m)).e = (all p d).e ∧ (all p (d ++ 10 :: m)).k = (all p d).k := by
  intro N
  induction N with
  | zero =>
    intro p d h he
    have : d = [] := List.eq_nil_of_length_eq_zero (by omega)
    subst this
    rw [all_end p (by simp)] at he
    exact absurd rfl he
  | succ N ih =>
    intro p d h he he2
    by_cases hs : sk false d < d.length
    · have hsk := sk_app d false (10 :: m) hs
      have hs' : sk false (d ++ 10 :: m) < (d ++ 10 :: m).length := by rw [hsk, List.length_append]; omega
      have hdr : (d ++ 10 :: m).drop (sk false (d ++ 10 :: m)) = d.drop (sk false d) ++ 10 :: m := by rw [hsk, List.drop_append_of_le_length (by omega)]
      by_cases ht : (tk (d.drop (sk false d))).e = 0
      · have ok := tk_ok (rest_ne hs) (sk_end d false) ht
        have h1 := ok.pos
        have h2 := ok.le
        have hx : tk (d.drop (sk false d) ++ 10 :: m) = tk (d.drop (sk false d)) := tk_ok_ext (rest_ne hs) (sk_end d false) ht (take_app _ h2) fun hk => by
          rw [List.drop_append_of_le_length h2]
          exact wn_zero_app (ok.stop hk) m
        rw [List.length_drop] at h2
        rw [all_ok p hs ht] at he he2 ⊢
        rw [all_ok p hs' (by rw [hdr, hx]; exact ht), hdr, hx, hsk]
        simp only [add_e, add_k] at he he2 ⊢
        rw [List.drop_append_of_le_length (by omega)]
        exact ih _ _ (by rw [List.length_drop]; omega) he he2
      · rw [all_no p hs ht] at he2 ⊢
        have hx := tk_err_ext m (rest_ne hs) (sk_end d false) ht he2
        rw [all_no p hs' (by rw [hdr, hx]; exact ht), hdr, hx, hsk]
        exact ⟨rfl, rfl⟩
    · rw [all_end p (by omega)] at he
      exact absurd rfl he
theorem all_err_cut : ∀ (N p : Nat) (d : List UInt8), d.length ≤ N → (all p d).e ≠ 0 → (all p d).e ≠ 2 → (all p (d.take ((all p d).k - p))).e = 0 ∨ (all p (d.take ((all p d).k - p))).e = 2 := by
  intro N
  induction N with
  | zero =>
    intro p d h he
    have : d = [] := List.eq_nil_of_length_eq_zero (by omega)
    subst this
    rw [all_end p (by simp)] at he
    exact absurd rfl he
  | succ N ih =>
    intro p d h he he2
    by_cases hs : sk false d < d.length
    · by_cases ht : (tk (d.drop (sk false d))).e = 0
      · have ok := tk_ok (rest_ne hs) (sk_end d false) ht
        have h1 := ok.pos
        have h2 := ok.le
        rw [List.length_drop] at h2
        rw [all_ok p hs ht] at he he2 ⊢
        simp only [add_e, add_k] at he he2 ⊢
        have a := all_k _ (p + sk false d + (tk (d.drop (sk false d))).k) (d.drop (sk false d + (tk (d.drop (sk false d))).k)) (Nat.le_refl _)
        have hi := ih (p + sk false d + (tk (d.drop (sk false d))).k) (d.drop (sk false d + (tk (d.drop (sk false d))).k)) (by rw [List.length_drop]; omega) he he2
        have a1 := a.ge
        have a2 := a.le
        rw [List.length_drop] at a2
        generalize (all (p + sk false d + (tk (d.drop (sk false d))).k) (d.drop (sk false d + (tk (d.drop (sk false d))).k))).k = K at *
        clear a he he2
        have hj : sk false d < K - p := by omega
        have hsk := sk_take d false (K - p) hj
        have hs' : sk false (d.take (K - p)) < (d.take (K - p)).length := by rw [hsk, List.length_take]; omega
        have hdr : (d.take (K - p)).drop (sk false (d.take (K - p))) = (d.drop (sk false d)).take (K - p - sk false d) := by rw [hsk, List.drop_take]
        have hx : tk ((d.drop (sk false d)).take (K - p - sk false d)) = tk (d.drop (sk false d)) := tk_ok_ext (rest_ne hs) (sk_end d false) ht (by rw [List.take_take]; congr 1; omega) fun hk => by
          rw [List.drop_take]
          exact wn_zero_take (ok.stop hk) _
        rw [all_ok p hs' (by rw [hdr, hx]; exact ht), hdr, hx, hsk]
        simp only [add_e]
        rw [List.drop_take]
        rwa [show K - p - (sk false d + (tk (d.drop (sk false d))).k) = K - (p + sk false d + (tk (d.drop (sk false d))).k) by omega]
      · rw [all_no p hs ht] at he2 ⊢
        simp only at he2 ⊢
        have hkl := (tk_err_k (rest_ne hs) (sk_end d false) ht).1
        rw [List.length_drop] at hkl
        rw [show p + sk false d + (tk (d.drop (sk false d))).k - p = sk false d + (tk (d.drop (sk false d))).k by omega]
        by_cases hk : (tk (d.drop (sk false d))).k = 0
        · left
          rw [hk, Nat.add_zero, all_end p (by rw [sk_part d false _ (Nat.le_refl _), List.length_take]; omega)]
        · right
          have hc := tk_err_cut (rest_ne hs) (sk_end d false) ht he2 hk
          have hsk := sk_take d false (sk false d + (tk (d.drop (sk false d))).k) (by omega)
          have hdr : (d.take (sk false d + (tk (d.drop (sk false d))).k)).drop (sk false (d.take (sk false d + (tk (d.drop (sk false d))).k))) = (d.drop (sk false d)).take (tk (d.drop (sk false d))).k := by
            rw [hsk, List.drop_take]; congr 1; omega
          rw [all_no p (by rw [hsk, List.length_take]; omega) (by rw [hdr, hc]; decide), hdr]
          exact hc
    · rw [all_end p (by omega)] at he
      exact absurd rfl he

/-! ### Numbers, written -/
theorem dig_rg : ∀ n : Fin 10, rg (UInt8.ofNat (48 + n.val)) = true ∧ dg (UInt8.ofNat (48 + n.val)) = true ∧ (UInt8.ofNat (48 + n.val)).toNat = 48 + n.val := by decide
theorem dcm_mem (u : Nat) : ∀ b ∈ Lib.decDigits u, rg b = true ∧ dg b = true := by
  induction u using Nat.strongRecOn with
  | _ u ih =>
    intro b hb
    rw [Lib.decDigits] at hb
    split at hb
    · rename_i h
      simp only [List.mem_singleton] at hb
      subst hb
      have := dig_rg ⟨u, h⟩
      exact ⟨this.1, this.2.1⟩
    · rcases List.mem_append.1 hb with hb | hb
      · exact ih (u / 10) (by omega) b hb
      · simp only [List.mem_singleton] at hb
        subst hb
        have := dig_rg ⟨u % 10, by omega⟩
        exact ⟨this.1, this.2.1⟩
theorem dcm_val (u : Nat) : val (Lib.decDigits u) = u := by
  induction u using Nat.strongRecOn with
  | _ u ih =>
    rw [Lib.decDigits]
    split
    · rename_i h
      have := dig_rg ⟨u, h⟩
      have e : val ([] ++ [UInt8.ofNat (48 + u)]) = val [] * 10 + ((UInt8.ofNat (48 + u)).toNat - 48) := val_snoc [] _
      rw [List.nil_append] at e
      rw [e, this.2.2]
      simp [val, valF]
    · have := dig_rg ⟨u % 10, by omega⟩
      rw [val_snoc, ih (u / 10) (by omega), this.2.2]
      simp only
      omega
theorem dcm_ne (u : Nat) : Lib.decDigits u ≠ [] := by
  rw [Lib.decDigits]
  split <;> simp
theorem dcm_ok (u : Nat) : okD (Lib.decDigits u) = true := okD_iff.2 ⟨dcm_ne u, fun b hb => (dcm_mem u b hb).2⟩
theorem dcm_len : ∀ (k u : Nat), u < 10 ^ (k + 1) → (Lib.decDigits u).length ≤ k + 1
  | 0, u, h => by rw [Lib.decDigits, dif_pos (by simpa using h)]; simp
  | k + 1, u, h => by
    rw [Lib.decDigits]
    split
    · simp
    · have := dcm_len k (u / 10) (by rw [Nat.pow_succ] at h; omega)
      rw [List.length_append, List.length_singleton]
      omega
theorem itoa_in {n : Int} (h : inR n = true) : inN (Lib.itoa n) = n ∧ inE (Lib.itoa n) = 0 ∧ (∀ b ∈ Lib.itoa n, rg b = true) ∧ Lib.itoa n ≠ [] ∧ (Lib.itoa n).length ≤ 11 := by
  simp only [inR, Bool.and_eq_true, decide_eq_true_eq] at h
  unfold Lib.itoa
  split
  · rename_i hn
    have hv := dcm_val n.natAbs
    have := in_minus (dcm_ok n.natAbs) (by rw [hv]; omega)
    have hl := dcm_len 9 n.natAbs (by omega)
    rw [hv] at this
    refine ⟨by rw [this.1]; omega, this.2, fun b hb => ?_, by simp, by simp; omega⟩
    rcases List.mem_cons.1 hb with rfl | hb
    · decide
    · exact (dcm_mem _ b hb).1
  · rename_i hn
    have hv := dcm_val n.toNat
    have := (in_digits (dcm_ok n.toNat)).1 (by rw [hv]; omega)
    have hl := dcm_len 9 n.toNat (by omega)
    rw [hv] at this
    exact ⟨by rw [this.1]; omega, this.2, fun b hb => (dcm_mem _ b hb).1, dcm_ne _, by omega⟩

/-! ### What is written of a token is read again -/
/-- But for where it stands. -/
def key (t : Tk) : Tk := ⟨t.kind, 0, t.n, t.s⟩
theorem sh_key (t : Tk) : sh (key t) = sh t := rfl
theorem sk_rg {b : UInt8} (t : List UInt8) (h : rg b = true) : sk false (b :: t) = 0 := sk_no t (rg_not h).1.1 (rg_not h).1.2
theorem word_read {a : List UInt8} (x : List UInt8) (hne : a ≠ []) (hr : ∀ b ∈ a, rg b = true) (hx : wn x = 0) : wn (a ++ x) = a.length ∧ (a ++ x).take (wn (a ++ x)) = a ∧ tk (a ++ x) = tkWord (a ++ x) ∧ sk false (a ++ x) = 0 := by
  have h := wn_append x hr
  rw [hx, Nat.add_zero] at h
  refine ⟨h, by rw [h, List.take_left'] ; rfl, ?_, ?_⟩
  · cases a with
    | nil => exact absurd rfl hne
    | cons b t => exact tk_word _ (hr b (by simp))
  · cases a with
    | nil => exact absurd rfl hne
    | cons b t => exact sk_rg _ (hr b (by simp))
theorem hexL_dig (l : List UInt8) : ∀ b ∈ hexL l, b ≠ 62 ∧ b ≠ 60 := by
  have h : ∀ n : Fin 16, hd n.val ≠ 62 ∧ hd n.val ≠ 60 := by decide
  intro b hb
  simp only [hexL, List.mem_flatMap] at hb
  obtain ⟨c, _, hc⟩ := hb
  have := c.toNat_lt
  simp only [hx, List.mem_cons, List.not_mem_nil, or_false] at hc
  rcases hc with rfl | rfl
  · exact h ⟨c.toNat / 16, by omega⟩
  · exact h ⟨c.toNat % 16, by omega⟩
theorem sh_read (t : Tk) (hg : Gd t.kind t.n t.s) (x : List UInt8) (hx : wn x = 0) : tk (sh t ++ x) = okR t.kind t.n t.s (sh t).length ∧ sk false (sh t ++ x) = 0 ∧ 1 ≤ (sh t).length := by
  obtain ⟨kind, at_, n, s⟩ := t
  simp only at hg ⊢
  rcases hg with ⟨rfl, hn, rfl⟩ | ⟨rfl, rfl⟩ | ⟨rfl, rfl, hne, hr, he⟩ | ⟨rfl, rfl⟩ | ⟨rfl, rfl⟩ | ⟨m, hm, rfl, rfl, rfl⟩
  · obtain ⟨h1, h2, h3, h4, _⟩ := itoa_in hn
    have e : sh ⟨1, at_, n, []⟩ = Lib.itoa n := rfl
    rw [e]
    obtain ⟨w1, w2, w3, w4⟩ := word_read x h4 h3 hx
    refine ⟨?_, w4, by cases hq : Lib.itoa n with | nil => exact absurd hq h4 | cons b t => simp⟩
    rw [w3]
    unfold tkWord
    rw [w2, if_pos h2, h1, w1]
  · have e : sh ⟨2, at_, 0, s⟩ = 47 :: wrL s := rfl
    rw [e]
    have hr : ∀ b ∈ wrL s, rg b = true := fun b hb => by have := sn_wrL s b hb; simp only [sn, Bool.and_eq_true] at this; exact this.2
    have h := wn_append x hr
    rw [hx, Nat.add_zero] at h
    refine ⟨?_, rfl, by simp⟩
    rw [List.cons_append, tk_name, h, List.take_left' rfl, name_wrL, List.length_cons, Nat.add_comm]
  · have e : sh ⟨3, at_, 0, s⟩ = s := rfl
    rw [e]
    obtain ⟨w1, w2, w3, w4⟩ := word_read x hne hr hx
    refine ⟨?_, w4, by cases s with | nil => exact absurd rfl hne | cons b t => simp⟩
    rw [w3]
    unfold tkWord
    rw [w2, if_neg (by rw [he]; decide), if_pos he, w1]
  · have e : sh ⟨4, at_, 0, s⟩ = 60 :: (hexL s ++ [62]) := rfl
    rw [e]
    have e2 : (60 :: (hexL s ++ [62])) ++ x = 60 :: (hexL s ++ 62 :: x) := by simp
    rw [e2]
    have hgt : gt (hexL s ++ 62 :: x) = (hexL s).length := gt_of _ _ fun b hb => (hexL_dig s b hb).1
    have hm : mk (60 :: (hexL s ++ 62 :: x)) = 0 := by
      have : (hexL s ++ 62 :: x).head? ≠ some 60 := by
        cases hq : hexL s with
        | nil => simp
        | cons b r => have := (hexL_dig s b (by rw [hq]; simp)).2; simpa using this
      simp only [mk]
      rw [if_neg (by decide), if_neg (by decide), if_pos trivial, if_neg this]
    obtain ⟨u1, _, u3⟩ := un_good (good_hexL s)
    refine ⟨?_, rfl, by simp⟩
    rw [tk_hex hm]
    unfold tkHex
    rw [hgt, if_pos (by simp), List.take_left' rfl, if_pos u3, u1, pack_hexL]
    simp
  · have e : sh ⟨5, at_, 0, s⟩ = 40 :: (qL s ++ [41]) := rfl
    rw [e]
    have e2 : (40 :: (qL s ++ [41])) ++ x = 40 :: (qL s ++ 41 :: x) := by simp
    rw [e2]
    refine ⟨?_, rfl, by simp⟩
    rw [tk_str]
    unfold tkStr
    rw [strT_quoted]
    simp [Nat.add_comm]
  · have e : sh ⟨(m : Int), at_, 0, []⟩ = mkL m := by
      unfold sh
      simp only
      rw [if_neg (by omega), if_neg (by omega), if_neg (by omega), if_neg (by omega), if_neg (by omega)]
      rfl
    rw [e]
    have hs := mk_self hm x
    refine ⟨?_, ?_, (mkL_len hm).1⟩
    · rw [tk_mark (by rw [hs]; exact hm), hs]
    · rcases (show m = 6 ∨ m = 7 ∨ m = 8 ∨ m = 9 ∨ m = 10 ∨ m = 11 by omega) with rfl | rfl | rfl | rfl | rfl | rfl <;> rfl
theorem all_blank (p : Nat) (d : List UInt8) : all p (32 :: d) = all (p + 1) d := by
  have h : sk false (32 :: d) = sk false d + 1 := sk_wh d (by decide) (by decide)
  by_cases hs : d.length ≤ sk false d
  · rw [all_end p (by rw [h, List.length_cons]; omega), all_end (p + 1) hs, List.length_cons, Nat.add_right_comm, Nat.add_assoc]
  · rw [all, if_neg (by rw [h, List.length_cons]; omega), h, all, if_neg hs]
    simp only [List.drop_succ_cons]
    rw [show p + (sk false d + 1) = p + 1 + sk false d by omega, show ∀ k, sk false d + 1 + k = sk false d + k + 1 from fun k => by omega]
    simp only [List.drop_succ_cons]
theorem all_one (p : Nat) (t : Tk) (hg : Gd t.kind t.n t.s) (x : List UInt8) (hx : wn x = 0) : all p (sh t ++ x) = Al.add ⟨t.kind, p, t.n, t.s⟩ (all (p + (sh t).length) x) := by
  obtain ⟨h1, h2, h3⟩ := sh_read t hg x hx
  have hd : (sh t ++ x).drop (sk false (sh t ++ x)) = sh t ++ x := by rw [h2, List.drop_zero]
  rw [all_ok p (by rw [h2, List.length_append]; omega) (by rw [hd, h1]; rfl), hd, h1, h2]
  simp only [okR, Rd.tok, Nat.zero_add, Nat.add_zero]
  rw [List.drop_left' rfl]
theorem all_text : ∀ (L : List Tk) (p : Nat), (∀ t ∈ L, Gd t.kind t.n t.s) → ∃ M, all p (txL L) = ⟨M, p + (txL L).length, 0⟩ ∧ M.map key = L.map key
  | [], p, _ => ⟨[], by rw [all_end p (by simp [txL, jn])], rfl⟩
  | [t], p, h => by
    refine ⟨[⟨t.kind, p, t.n, t.s⟩], ?_, rfl⟩
    have e : txL [t] = sh t ++ [] := by simp [txL, jn]
    rw [e, all_one p t (h t (by simp)) [] rfl, all_end _ (by simp)]
    simp [Al.add]
  | t :: u :: r, p, h => by
    have e : txL (t :: u :: r) = sh t ++ 32 :: txL (u :: r) := by simp [txL, jn]
    obtain ⟨M, h1, h2⟩ := all_text (u :: r) (p + (sh t).length + 1) fun y hy => h y (by simp only [List.mem_cons] at hy ⊢; exact .inr hy)
    refine ⟨⟨t.kind, p, t.n, t.s⟩ :: M, ?_, by rw [List.map_cons, h2]; rfl⟩
    rw [e, all_one p t (h t (by simp)) _ (wn_n _ (by decide)), all_blank, h1]
    simp [Al.add]
    omega
theorem tx_key {L M : List Tk} (h : M.map key = L.map key) : txL M = txL L := by
  have e : ∀ X : List Tk, X.map sh = (X.map key).map sh := fun X => by rw [List.map_map]; rfl
  unfold txL
  rw [e M, h, ← e L]
/-- A token alone, with a remark ahead and behind. -/
theorem all_alone (t : Tk) (hg : Gd t.kind t.n t.s) : all 0 ([32, 37, 32, 120, 10, 32] ++ sh t ++ [32, 37]) = ⟨[⟨t.kind, 6, t.n, t.s⟩], 8 + (sh t).length, 0⟩ := by
  obtain ⟨h1, h2, h3⟩ := sh_read t hg [32, 37] (by decide)
  have hs : sk false ([32, 37, 32, 120, 10, 32] ++ sh t ++ [32, 37]) = 6 := by
    have := sk_text [32, 120] (32 :: (sh t ++ [32, 37])) (by decide)
    rw [sk_wh (b := 32) _ (by decide) (by decide), h2] at this
    simpa using this
  have hd : ([32, 37, 32, 120, 10, 32] ++ sh t ++ [32, 37]).drop 6 = sh t ++ [32, 37] := by simp
  rw [all_ok 0 (by rw [hs]; simp) (by rw [hs, hd, h1]; rfl), hs, hd, h1]
  simp only [okR, Rd.tok]
  have hd2 : ([32, 37, 32, 120, 10, 32] ++ sh t ++ [32, 37]).drop (6 + (sh t).length) = [32, 37] := by
    rw [← List.drop_drop, hd, List.drop_left' rfl]
  rw [hd2, all_end _ (by decide)]
  simp [Al.add]
  omega

/-! ### How long what is written is -/
theorem sh_len (t : Tk) {k : Nat} (hg : Gd t.kind t.n t.s) (h1 : 1 ≤ k) (hs : t.kind ≤ 3 → t.s.length ≤ k) (hl : 4 ≤ t.kind → t.s.length + 1 ≤ k ∨ t.s = []) : (sh t).length ≤ 11 * k := by
  obtain ⟨kind, at_, n, s⟩ := t
  simp only at hg hs hl
  rcases hg with ⟨rfl, hn, rfl⟩ | ⟨rfl, rfl⟩ | ⟨rfl, rfl, hne, hr, he⟩ | ⟨rfl, rfl⟩ | ⟨rfl, rfl⟩ | ⟨m, hm, rfl, rfl, rfl⟩
  · have := (itoa_in hn).2.2.2.2
    show (Lib.itoa n).length ≤ _
    omega
  · have := hs (by decide)
    have := (wrL_length s).2
    show (47 :: wrL s).length ≤ _
    rw [List.length_cons]; omega
  · have := hs (by decide)
    show s.length ≤ _
    omega
  · show (60 :: (hexL s ++ [62])).length ≤ _
    simp [hexL_length]
    rcases hl (by decide) with h | rfl
    · omega
    · simp; omega
  · show (40 :: (qL s ++ [41])).length ≤ _
    have := qL_length s
    simp
    rcases hl (by decide) with h | rfl
    · omega
    · simp [qL]; omega
  · have e : sh ⟨(m : Int), at_, 0, []⟩ = mkL m := by
      unfold sh
      simp only
      rw [if_neg (by omega), if_neg (by omega), if_neg (by omega), if_neg (by omega), if_neg (by omega)]
      rfl
    rw [e]
    have := mkL_len hm
    omega
/-- All bytes that are written, with one more for each. -/
def shS : List Tk → Nat
  | [] => 0
  | t :: r => (sh t).length + 1 + shS r
theorem txL_len : ∀ L : List Tk, (txL L).length ≤ shS L
  | [] => by simp [txL, jn]
  | [t] => by simp [txL, jn, shS]
  | t :: u :: r => by
    have e : txL (t :: u :: r) = sh t ++ 32 :: txL (u :: r) := by simp [txL, jn]
    have := txL_len (u :: r)
    rw [e]
    simp only [shS] at this ⊢
    simp
    omega
theorem all_shS : ∀ (N p : Nat) (d : List UInt8), d.length ≤ N → shS (all p d).l ≤ 12 * d.length := by
  intro N
  induction N with
  | zero =>
    intro p d h
    rw [all_end p (by omega)]
    simp [shS]
  | succ N ih =>
    intro p d h
    by_cases hs : sk false d < d.length
    · by_cases he : (tk (d.drop (sk false d))).e = 0
      · have ok := tk_ok (rest_ne hs) (sk_end d false) he
        have h1 := ok.pos
        have h2 := ok.le
        rw [List.length_drop] at h2
        rw [all_ok p hs he]
        have hi := ih (p + sk false d + (tk (d.drop (sk false d))).k) (d.drop (sk false d + (tk (d.drop (sk false d))).k)) (by rw [List.length_drop]; omega)
        rw [List.length_drop] at hi
        have hl := sh_len ((tk (d.drop (sk false d))).tok (p + sk false d)) ok.gd h1 ok.small ok.short
        by_cases e : (all (p + sk false d + (tk (d.drop (sk false d))).k) (d.drop (sk false d + (tk (d.drop (sk false d))).k))).e = 0
        · rw [add_l e]
          simp only [shS]
          omega
        · rw [add_no e]; omega
      · rw [all_no p hs he]
        simp [shS]
    · rw [all_end p (by omega)]
      simp [shS]
end Go.Proofs.YtjlecollphgmcaaDoor
