/-
  Tokens, as plain functions: which bytes a token hangs on; what is written of tokens is read again.
-/
import Derived.Test.YtjlecollphgmcaaDoorTokStr
import Derived.Test.YtjlecollphgmcaaDoorHexPure
namespace Go.Proofs.YtjlecollphgmcaaDoor

/-! ### Small ones -/
theorem wn_append {a : List UInt8} (x : List UInt8) (h : ∀ b ∈ a, rg b = true) : wn (a ++ x) = a.length + wn x := by
  induction a with
  | nil => simp
  | cons b a ih =>
    have := ih fun y hy => h y (by simp [hy])
    rw [List.cons_append, wn_y _ (h b (by simp)), this, List.length_cons]; omega
theorem wn_mem {d : List UInt8} : ∀ b ∈ d.take (wn d), rg b = true := by
  intro b hb
  rw [List.mem_iff_getElem] at hb
  obtain ⟨j, hj, rfl⟩ := hb
  have hj' : j < wn d := by simp at hj; omega
  have hl := wn_le d
  have := wn_in d j hj'
  rw [List.getElem?_eq_getElem (by omega)] at this
  simpa using this
theorem wn_rest (d : List UInt8) : wn (d.drop (wn d)) = 0 := by have := wn_drop d (wn d) (Nat.le_refl _); omega
theorem wn_zero_take {x : List UInt8} (h : wn x = 0) (j : Nat) : wn (x.take j) = 0 := by
  cases x with
  | nil => simp [wn]
  | cons b t =>
    cases j with
    | zero => simp [wn]
    | succ j =>
      cases hb : rg b with
      | true => rw [wn_y _ hb] at h; omega
      | false => rw [List.take_succ_cons, wn_n _ hb]
theorem wn_zero_app {x : List UInt8} (h : wn x = 0) (m : List UInt8) : wn (x ++ 10 :: m) = 0 := by
  cases x with
  | nil => exact wn_n _ (by decide)
  | cons b t =>
    cases hb : rg b with
    | true => rw [wn_y _ hb] at h; omega
    | false => rw [List.cons_append, wn_n _ hb]
theorem gt_of : ∀ (a r : List UInt8), (∀ b ∈ a, b ≠ 62) → gt (a ++ 62 :: r) = a.length
  | [], r, _ => by simp [gt]
  | b :: a, r, h => by
    have := gt_of a r fun y hy => h y (by simp [hy])
    simp [gt, h b (by simp), this]
theorem gt_none : ∀ a : List UInt8, (∀ b ∈ a, b ≠ 62) → gt a = a.length
  | [], _ => rfl
  | b :: a, h => by
    have := gt_none a fun y hy => h y (by simp [hy])
    simp [gt, h b (by simp), this]
theorem gt_lt' : ∀ t : List UInt8, gt t ≤ t.length
  | [] => Nat.le_refl _
  | b :: t => by have := gt_lt' t; simp only [gt]; split <;> simp; omega
theorem gt_mem : ∀ t : List UInt8, ∀ b ∈ t.take (gt t), b ≠ 62
  | [] => by simp
  | c :: t => by
    intro b hb
    simp only [gt] at hb
    split at hb
    · simp at hb
    · rename_i hc
      rw [List.take_succ_cons] at hb
      rcases List.mem_cons.1 hb with rfl | hb
      · exact hc
      · exact gt_mem t b hb
theorem gt_split : ∀ t : List UInt8, gt t < t.length → t = t.take (gt t) ++ 62 :: t.drop (gt t + 1)
  | [], h => by simp at h
  | c :: t, h => by
    simp only [gt] at h ⊢
    split
    · rename_i hc; subst hc; rfl
    · rename_i hc
      rw [if_neg hc] at h
      have := gt_split t (by simpa using h)
      rw [List.take_succ_cons, List.drop_succ_cons, List.cons_append, ← this]

/-! ### The head -/
theorem mk_c {b : UInt8} (t : List UInt8) (h0 : b ≠ 60) (h1 : b ≠ 62) : mk (b :: t) = mk [b] := by simp [mk, h0, h1]
theorem mk_loc {d u : List UInt8} (h : u.take 2 = d.take 2) : mk u = mk d := by
  cases d with
  | nil => cases u with
    | nil => rfl
    | cons c v => simp at h
  | cons b t =>
    obtain ⟨v, rfl, hv⟩ := cons_of_take (m := 1) h
    have := head_of_take hv (by omega)
    simp [mk, this]
theorem rg_of {b : UInt8} (h37 : b ≠ 37) (hw : wh b = false) (h : b ≠ 40 ∧ b ≠ 60 ∧ b ≠ 91 ∧ b ≠ 123 ∧ b ≠ 41 ∧ b ≠ 62 ∧ b ≠ 93 ∧ b ≠ 125 ∧ b ≠ 47) : rg b = true := by
  have n : ∀ c : UInt8, b ≠ c → (b.toNat : Int) ≠ (c.toNat : Int) := fun c hc e => hc (eq_of_toNat (by omega))
  have hd : ¬ dl (b.toNat : Int) := by
    unfold dl
    have a1 := n 40 h.1; have a2 := n 60 h.2.1; have a3 := n 91 h.2.2.1; have a4 := n 123 h.2.2.2.1; have a5 := n 41 h.2.2.2.2.1
    have a6 := n 62 h.2.2.2.2.2.1; have a7 := n 93 h.2.2.2.2.2.2.1; have a8 := n 125 h.2.2.2.2.2.2.2.1; have a9 := n 47 h.2.2.2.2.2.2.2.2; have a10 := n 37 h37
    simp only [UInt8.reduceToNat] at a1 a2 a3 a4 a5 a6 a7 a8 a9 a10
    omega
  have hk : ¬ kz (b.toNat : Int) = 1 := by
    have : (kb b == 1) = false := hw
    rw [beq_eq_false_iff_ne] at this
    exact this
  simp [rg, cb, cls, hd, hk]
theorem rg_not {b : UInt8} (h : rg b = true) : (b ≠ 37 ∧ wh b = false) ∧ b ≠ 40 ∧ b ≠ 60 ∧ b ≠ 91 ∧ b ≠ 123 ∧ b ≠ 41 ∧ b ≠ 62 ∧ b ≠ 93 ∧ b ≠ 125 ∧ b ≠ 47 := by
  have key : ∀ c : UInt8, rg c = false → b ≠ c := fun c hc e => by rw [e, hc] at h; cases h
  refine ⟨⟨key 37 (by decide), ?_⟩, key 40 (by decide), key 60 (by decide), key 91 (by decide), key 123 (by decide), key 41 (by decide), key 62 (by decide), key 93 (by decide), key 125 (by decide), key 47 (by decide)⟩
  cases hw : wh b with
  | false => rfl
  | true =>
    have hk : kz (b.toNat : Int) = 1 := by have : (kb b == 1) = true := hw; simpa [kb] using this
    have h0 : cls (b.toNat : Int) = 0 := by have : (cb b == 0) = true := h; simpa [cb] using this
    unfold cls at h0
    rw [hk] at h0
    split at h0 <;> simp at h0
/-- What the first byte of what is not skipped may be. -/
inductive Hd : List UInt8 → Rd → Prop
  | mark {d : List UInt8} (h : 6 ≤ mk d ∧ mk d ≤ 11) : Hd d (okR (mk d) 0 [] (mkL (mk d)).length)
  | form {b : UInt8} {t : List UInt8} (h : mk (b :: t) = 0) (hb : b = 41 ∨ b = 62) : Hd (b :: t) (noR 0 3)
  | name (t : List UInt8) : Hd (47 :: t) (okR 2 0 (nameL (t.take (wn t))) (1 + wn t))
  | hex {t : List UInt8} (h : mk (60 :: t) = 0) : Hd (60 :: t) (tkHex t)
  | str (t : List UInt8) : Hd (40 :: t) (tkStr t)
  | word {b : UInt8} {t : List UInt8} (h : rg b = true) : Hd (b :: t) (tkWord (b :: t))
theorem mk_rng (d : List UInt8) : mk d = 0 ∨ (6 ≤ mk d ∧ mk d ≤ 11) := by
  cases d with
  | nil => simp [mk]
  | cons b t => simp only [mk]; repeat' split
                all_goals omega
theorem tk_form {b : UInt8} {t : List UInt8} (h : mk (b :: t) = 0) (hb : b = 41 ∨ b = 62) : tk (b :: t) = noR 0 3 := by unfold tk; simp only [h, if_true, if_pos hb]
theorem tk_name (t : List UInt8) : tk (47 :: t) = okR 2 0 (nameL (t.take (wn t))) (1 + wn t) := by
  have h : mk (47 :: t) = 0 := rfl
  unfold tk; simp only [h, if_true]; rfl
theorem tk_hex {t : List UInt8} (h : mk (60 :: t) = 0) : tk (60 :: t) = tkHex t := by unfold tk; simp only [h, if_true]; rfl
theorem tk_str (t : List UInt8) : tk (40 :: t) = tkStr t := by
  have h : mk (40 :: t) = 0 := rfl
  unfold tk; simp only [h, if_true]; rfl
theorem mk_rg {b : UInt8} (t : List UInt8) (h : rg b = true) : mk (b :: t) = 0 := by
  obtain ⟨_, h1, h2, h3, h4, h5, h6, h7, h8, h9⟩ := rg_not h
  simp [mk, h2, h3, h4, h6, h7, h8]
theorem tk_word {b : UInt8} (t : List UInt8) (h : rg b = true) : tk (b :: t) = tkWord (b :: t) := by
  obtain ⟨_, h1, h2, h3, h4, h5, h6, h7, h8, h9⟩ := rg_not h
  unfold tk
  rw [if_pos (mk_rg t h)]
  simp [h1, h2, h5, h6, h9]
theorem tk_mark {d : List UInt8} (h : 6 ≤ mk d ∧ mk d ≤ 11) : tk d = okR (mk d) 0 [] (mkL (mk d)).length := by unfold tk; rw [if_neg (by omega)]
theorem tk_hd {d : List UInt8} (hne : d ≠ []) (h0 : sk false d = 0) : Hd d (tk d) := by
  rcases mk_rng d with hm | hm
  · cases d with
    | nil => exact absurd rfl hne
    | cons b t =>
      obtain ⟨h37, hw⟩ := sk_zero h0
      by_cases a1 : b = 41 ∨ b = 62
      · rw [tk_form hm a1]; exact .form hm a1
      · by_cases a2 : b = 47
        · subst a2; rw [tk_name]; exact .name t
        · by_cases a3 : b = 60
          · subst a3; rw [tk_hex hm]; exact .hex hm
          · by_cases a4 : b = 40
            · subst a4; rw [tk_str]; exact .str t
            · have hr : rg b = true := by
                refine rg_of h37 hw ⟨a4, a3, ?_, ?_, fun e => a1 (.inl e), fun e => a1 (.inr e), ?_, ?_, a2⟩
                all_goals (rintro rfl; simp [mk] at hm)
              rw [tk_word t hr]; exact .word hr
  · rw [tk_mark hm]; exact .mark hm
theorem mkL_len {n : Nat} (h : 6 ≤ n ∧ n ≤ 11) : 1 ≤ (mkL n).length ∧ (mkL n).length ≤ 2 := by
  rcases (show n = 6 ∨ n = 7 ∨ n = 8 ∨ n = 9 ∨ n = 10 ∨ n = 11 by omega) with rfl | rfl | rfl | rfl | rfl | rfl <;> decide
theorem mk_take {d : List UInt8} (h : 6 ≤ mk d ∧ mk d ≤ 11) : d.take (mkL (mk d)).length = mkL (mk d) := by
  cases d with
  | nil => simp [mk] at h
  | cons b t =>
    simp only [mk] at h ⊢
    repeat' split
    all_goals first | (simp_all [mkL]; done) | skip
    all_goals
      cases t with
      | nil => simp_all
      | cons c u => simp_all [mkL]
theorem mk_self {n : Nat} (h : 6 ≤ n ∧ n ≤ 11) (x : List UInt8) : mk (mkL n ++ x) = n := by
  rcases (show n = 6 ∨ n = 7 ∨ n = 8 ∨ n = 9 ∨ n = 10 ∨ n = 11 by omega) with rfl | rfl | rfl | rfl | rfl | rfl <;> rfl

/-! ### What a token that was read is -/
/-- A token that may be read. -/
def Gd (kind n : Int) (s : List UInt8) : Prop :=
  (kind = 1 ∧ inR n = true ∧ s = []) ∨ (kind = 2 ∧ n = 0) ∨ (kind = 3 ∧ n = 0 ∧ s ≠ [] ∧ (∀ b ∈ s, rg b = true) ∧ inE s = 3) ∨ (kind = 4 ∧ n = 0) ∨ (kind = 5 ∧ n = 0) ∨ (∃ m : Nat, (6 ≤ m ∧ m ≤ 11) ∧ kind = m ∧ n = 0 ∧ s = [])
theorem inE_nil : inE [] = 3 := by decide
theorem inE_cases (l : List UInt8) : inE l = 0 ∨ inE l = 3 ∨ inE l = 4 := by unfold inE; split <;> (try split) <;> simp
theorem inN_R {l : List UInt8} (h : inE l = 0) : inR (inN l) = true := by
  unfold inE at h
  unfold inN
  split at h
  · split at h
    · rename_i h1 h2; simp [h1, h2]
    · simp at h
  · simp at h
theorem okR_e (a b : Int) (s : List UInt8) (k : Nat) : (okR a b s k).e = 0 := rfl
theorem noR_e (k : Nat) (e : Int) : (noR k e).e = e := rfl
theorem unE_c (l : List UInt8) : unE l = 0 ∨ unE l = 1 := by unfold unE; split <;> simp
/-- Of a token: its kind, its bytes, what stands behind it. -/
structure Ok (d : List UInt8) (r : Rd) : Prop where
  gd : Gd r.kind r.n r.s
  pos : 1 ≤ r.k
  le : r.k ≤ d.length
  stop : r.kind ≤ 3 → wn (d.drop r.k) = 0
  short : 4 ≤ r.kind → r.s.length + 1 ≤ r.k ∨ r.s = []
  small : r.kind ≤ 3 → r.s.length ≤ r.k
theorem tk_ok {d : List UInt8} (hne : d ≠ []) (h0 : sk false d = 0) (he : (tk d).e = 0) : Ok d (tk d) := by
  have hh := tk_hd hne h0
  generalize tk d = r at *
  cases hh with
  | mark h =>
    have := mkL_len h
    have hl := congrArg List.length (mk_take h)
    rw [List.length_take] at hl
    exact ⟨.inr (.inr (.inr (.inr (.inr ⟨_, h, rfl, rfl, rfl⟩)))), this.1, by show (mkL _).length ≤ _; omega, fun hk => by exfalso; have : ((mk d : Nat) : Int) ≤ 3 := hk; omega, fun _ => .inr rfl, fun hk => by exfalso; have : ((mk d : Nat) : Int) ≤ 3 := hk; omega⟩
  | form h hb => simp [noR_e] at he
  | name t =>
    have hl := wn_le t
    refine ⟨.inr (.inl ⟨rfl, rfl⟩), by show 1 ≤ 1 + _; omega, by show 1 + _ ≤ _; simp; omega, fun _ => ?_, fun h => by exfalso; have : (4 : Int) ≤ 2 := h; omega, fun _ => ?_⟩
    · show wn ((47 :: t).drop (1 + wn t)) = 0
      rw [Nat.add_comm, List.drop_succ_cons]
      exact wn_rest t
    · show (nameL _).length ≤ 1 + wn t
      have := nameL_length (t.take (wn t))
      rw [List.length_take] at this
      omega
  | @hex t h =>
    unfold tkHex at he ⊢
    have hl := gt_lt' t
    by_cases hg : gt t < t.length
    · rw [if_pos hg] at he ⊢
      by_cases hu : unE (t.take (gt t)) = 0
      · rw [if_pos hu] at he ⊢
        refine ⟨.inr (.inr (.inr (.inl ⟨rfl, rfl⟩))), by show 1 ≤ gt t + 2; omega, by show gt t + 2 ≤ _; simp; omega, fun h => by exfalso; have : (4 : Int) ≤ 3 := h; omega, fun _ => .inl ?_, fun h => by exfalso; have : (4 : Int) ≤ 3 := h; omega⟩
        show (unB _).length + 1 ≤ gt t + 2
        unfold unB
        split
        · simp
        · rw [pack_length]
          have := nibs_length (t.take (gt t))
          rw [List.length_take] at this
          omega
      · rw [if_neg hu] at he; rw [noR_e] at he; exact absurd he hu
    · rw [if_neg hg] at he; simp [noR_e] at he
  | str t =>
    unfold tkStr at he ⊢
    by_cases hs : (strT 1 t).e = 0
    · rw [if_pos hs] at he ⊢
      have hk := strT_k _ 1 t (Nat.le_refl _)
      have hsz : sz (strT 1 t) = (strT 1 t).k := by simp [sz, hs]
      have hln := strT_len _ 1 t (Nat.le_refl _) hs
      rcases hk with ⟨e, _⟩ | ⟨_, k1, k2⟩
      · rw [hs] at e; cases e
      rw [hsz] at k1 k2
      exact ⟨.inr (.inr (.inr (.inr (.inl ⟨rfl, rfl⟩)))), by show 1 ≤ 1 + _; omega, by show 1 + _ ≤ _; simp; omega, fun h => by exfalso; have : (5 : Int) ≤ 3 := h; omega, fun _ => .inl (by show _ + 1 ≤ 1 + _; show (strT 1 t).s.length + 1 ≤ _; omega), fun h => by exfalso; have : (5 : Int) ≤ 3 := h; omega⟩
    · rw [if_neg hs, noR_e] at he; exact absurd he hs
  | @word b t h =>
    have hp : 1 ≤ wn (b :: t) := by rw [wn_y t h]; omega
    have hl := wn_le (b :: t)
    unfold tkWord at he ⊢
    by_cases e0 : inE ((b :: t).take (wn (b :: t))) = 0
    · rw [if_pos e0] at he ⊢
      exact ⟨.inl ⟨rfl, inN_R e0, rfl⟩, hp, hl, fun _ => wn_rest _, fun h => by exfalso; have : (4 : Int) ≤ 1 := h; omega, fun _ => by show ([] : List UInt8).length ≤ _; simp⟩
    · rw [if_neg e0] at he ⊢
      by_cases e3 : inE ((b :: t).take (wn (b :: t))) = 3
      · rw [if_pos e3] at he ⊢
        refine ⟨.inr (.inr (.inl ⟨rfl, rfl, ?_, wn_mem, e3⟩)), hp, hl, fun _ => wn_rest _, fun h => by exfalso; have : (4 : Int) ≤ 3 := h; omega, fun _ => by show ((b :: t).take (wn (b :: t))).length ≤ wn (b :: t); rw [List.length_take]; omega⟩
        show (b :: t).take (wn (b :: t)) ≠ []
        intro e
        have := congrArg List.length e
        rw [List.length_take] at this
        simp at this
        omega
      · rw [if_neg e3, noR_e] at he; exact absurd he e0
end Go.Proofs.YtjlecollphgmcaaDoor
