/-
  Layer 6, plainly: codespaces by their numbers, and by the bounds of their bytes.
-/
import Derived.Test.YtnojapffmcnbaaaRectDoc
namespace Go.Proofs.Ytnojapffmcnbaaa

/-- A codespace: how many bytes, the lowest code, the highest. -/
structure Rc where
  n : Int
  lo : Int
  hi : Int
  deriving DecidableEq
/-- Bytes as numbers, the last one first. -/
def revN (l : List UInt8) : List Nat := l.reverse.map (·.toNat)
theorem revN_snoc (l : List UInt8) (b : UInt8) : revN (l ++ [b]) = b.toNat :: revN l := by simp [revN]
theorem revN_length (l : List UInt8) : (revN l).length = l.length := by simp [revN]
theorem be_nu : ∀ (n : Nat) (v : Int), 0 ≤ v → v < 256 ^ n → (nuR (revN (beL n v)) : Int) = v
  | 0, v, h0, h1 => by simp at h1; simp [beL, revN, nuR]; omega
  | n + 1, v, h0, h1 => by
    have e : (256 : Int) ^ (n + 1) = 256 ^ n * 256 := Int.pow_succ 256 n
    rw [e] at h1
    have ih := be_nu n (v / 256) (by omega) (by omega)
    have hb := low_byte v
    rw [beL, revN_snoc, nuR]
    omega
/-- The bounds of a codespace's bytes, the last one first. -/
def prs (r : Rc) : List (Nat × Nat) := (revN (codeL r.n r.lo)).zip (revN (codeL r.n r.hi))
/-- May a codespace be? -/
def saneR (r : Rc) : Bool := saneB r.n r.lo && saneB r.n r.hi && (prs r).all fun q => decide (q.1 ≤ q.2)
theorem codeL_sane {n v : Int} (h : saneB n v = true) : codeL n v = beL n.toNat v := by unfold codeL; rw [if_pos h]
theorem code_len {n v : Int} (h : saneB n v = true) : (codeL n v).length = n.toNat := by rw [codeL_sane h, beL_length]
theorem code_nu {n v : Int} (h : saneB n v = true) : (nuR (revN (codeL n v)) : Int) = v := by
  rw [codeL_sane h]
  have h2 := (saneB_iff n v).1 h
  exact be_nu n.toNat v h2.2.2.1 h2.2.2.2
theorem saneR_iff (r : Rc) : saneR r = true ↔ saneB r.n r.lo = true ∧ saneB r.n r.hi = true ∧ ∀ q ∈ prs r, q.1 ≤ q.2 := by
  unfold saneR
  rw [Bool.and_eq_true, Bool.and_eq_true, List.all_eq_true, and_assoc]
  simp only [decide_eq_true_eq]
theorem prs_len {r : Rc} (h : saneR r = true) : (prs r).length = r.n.toNat := by
  have h1 := (saneR_iff r).1 h
  unfold prs
  rw [List.length_zip, revN_length, revN_length, code_len h1.1, code_len h1.2.1, Nat.min_self]
theorem prs_bnd {r : Rc} (h : saneR r = true) : Bnd (prs r) := fun q hq => by
  have h1 := (saneR_iff r).1 h
  refine ⟨h1.2.2 q hq, ?_⟩
  have := (List.of_mem_zip hq).2
  unfold revN at this
  obtain ⟨b, _, e⟩ := List.mem_map.1 this
  rw [← e]
  exact b.toNat_lt
theorem prs_lo {r : Rc} (h : saneR r = true) : (prs r).map (·.1) = revN (codeL r.n r.lo) := by
  have h1 := (saneR_iff r).1 h
  exact List.map_fst_zip (by rw [revN_length, revN_length, code_len h1.1, code_len h1.2.1]; exact Nat.le_refl _)
theorem prs_hi {r : Rc} (h : saneR r = true) : (prs r).map (·.2) = revN (codeL r.n r.hi) := by
  have h1 := (saneR_iff r).1 h
  exact List.map_snd_zip (by rw [revN_length, revN_length, code_len h1.1, code_len h1.2.1]; exact Nat.le_refl _)
theorem prs_inj {a b : Rc} (ha : saneR a = true) (hb : saneR b = true) (hn : a.n = b.n) (h : prs a = prs b) : a = b := by
  have a1 := (saneR_iff a).1 ha
  have b1 := (saneR_iff b).1 hb
  have e1 : revN (codeL a.n a.lo) = revN (codeL b.n b.lo) := by rw [← prs_lo ha, ← prs_lo hb, h]
  have e2 : revN (codeL a.n a.hi) = revN (codeL b.n b.hi) := by rw [← prs_hi ha, ← prs_hi hb, h]
  have l1 := code_nu a1.1
  have l2 := code_nu b1.1
  have l3 := code_nu a1.2.1
  have l4 := code_nu b1.2.1
  rw [e1] at l1
  rw [e2] at l3
  obtain ⟨an, al, ah⟩ := a
  obtain ⟨bn, bl, bh⟩ := b
  simp only at *
  rw [hn, ← l1, ← l3, l2, l4]
/-- Is a code in one? -/
def inC (r : Rc) (n v : Int) : Bool := saneR r && saneB n v && decide (n = r.n) && wiR (prs r) (revN (codeL n v))
/-- Does one hold another one? -/
def hoC (a b : Rc) : Bool := saneR a && saneR b && decide (a.n = b.n) && hoR (prs a) (prs b)
/-- Does one go ahead of another one? -/
def ltC (a b : Rc) : Bool := decide (a.n < b.n ∨ (a.n = b.n ∧ (a.lo < b.lo ∨ (a.lo = b.lo ∧ a.hi < b.hi))))
theorem hoC_iff (a b : Rc) : hoC a b = true ↔ saneR a = true ∧ saneR b = true ∧ a.n = b.n ∧ hoR (prs a) (prs b) = true := by
  unfold hoC
  rw [Bool.and_eq_true, Bool.and_eq_true, Bool.and_eq_true, decide_eq_true_eq, and_assoc, and_assoc]
theorem ltC_iff (a b : Rc) : ltC a b = true ↔ (a.n < b.n ∨ (a.n = b.n ∧ (a.lo < b.lo ∨ (a.lo = b.lo ∧ a.hi < b.hi)))) := by
  unfold ltC
  exact decide_eq_true_iff
theorem hol : Hol saneR hoC ltC where
  okl a b h := by have := (hoC_iff a b).1 h; exact ⟨this.1, this.2.1⟩
  refl a h := (hoC_iff a a).2 ⟨h, h, rfl, hoR_refl _⟩
  trans a b c h1 h2 := by
    have q1 := (hoC_iff a b).1 h1
    have q2 := (hoC_iff b c).1 h2
    exact (hoC_iff a c).2 ⟨q1.1, q2.2.1, q1.2.2.1.trans q2.2.2.1, hoR_trans q1.2.2.2 q2.2.2.2⟩
  anti a b h1 h2 := by
    have q1 := (hoC_iff a b).1 h1
    have q2 := (hoC_iff b a).1 h2
    exact prs_inj q1.1 q1.2.1 q1.2.2.1 (hoR_anti q1.2.2.2 q2.2.2.2)
  irr a := by
    cases h : ltC a a with
    | false => rfl
    | true => have := (ltC_iff a a).1 h; omega
  ltr a b c h1 h2 := by
    have q1 := (ltC_iff a b).1 h1
    have q2 := (ltC_iff b c).1 h2
    exact (ltC_iff a c).2 (by omega)
  tot a b h := by
    rw [ltC_iff, ltC_iff]
    by_cases e1 : a.n = b.n
    · by_cases e2 : a.lo = b.lo
      · by_cases e3 : a.hi = b.hi
        · obtain ⟨an, al, ah⟩ := a
          obtain ⟨bn, bl, bh⟩ := b
          simp only at e1 e2 e3
          exact absurd (by rw [e1, e2, e3]) h
        · omega
      · omega
    · omega
theorem inC_iff (r : Rc) (n v : Int) : inC r n v = true ↔ saneR r = true ∧ saneB n v = true ∧ n = r.n ∧ wiR (prs r) (revN (codeL n v)) = true := by
  unfold inC
  rw [Bool.and_eq_true, Bool.and_eq_true, Bool.and_eq_true, decide_eq_true_eq, and_assoc, and_assoc]
/-- What is in one that is held is in the one that holds it. -/
theorem inC_held {a b : Rc} {n v : Int} (h : hoC a b = true) (hi : inC b n v = true) : inC a n v = true := by
  have q := (hoC_iff a b).1 h
  have p := (inC_iff b n v).1 hi
  exact (inC_iff a n v).2 ⟨q.1, p.2.1, p.2.2.1.trans q.2.2.1.symm, hoR_in q.2.2.2 p.2.2.2⟩
/-- How many codes are in one. -/
def sizeR (r : Rc) : Nat := if saneR r = true then szR (prs r) else 0
theorem sizeR_le (r : Rc) : sizeR r ≤ 4294967296 := by
  unfold sizeR
  split
  · rename_i h
    have h1 := (saneB_iff _ _).1 ((saneR_iff r).1 h).1
    have h2 := szR_le (prs_bnd h)
    rw [prs_len h] at h2
    have h3 : r.n.toNat ≤ 4 := by omega
    exact Nat.le_trans h2 (Nat.le_trans (Nat.pow_le_pow_right (by decide) h3) (by decide))
  · exact Nat.zero_le _
theorem sizeR_held {a b : Rc} (h : hoC a b = true) : 1 ≤ sizeR b ∧ sizeR b ≤ sizeR a := by
  have q := (hoC_iff a b).1 h
  unfold sizeR
  rw [if_pos q.1, if_pos q.2.1]
  exact ⟨szR_pos _, hoR_sz (prs_bnd q.2.1) q.2.2.2⟩
theorem nu_be : ∀ {u : List Nat}, (∀ d ∈ u, d < 256) → revN (beL u.length (nuR u : Nat)) = u ∧ nuR u < 256 ^ u.length
  | [], _ => ⟨rfl, by decide⟩
  | d :: u, h => by
    have hd := h d List.mem_cons_self
    have ih := nu_be (u := u) (fun x hx => h x (List.mem_cons_of_mem _ hx))
    refine ⟨?_, ?_⟩
    · have e1 : ((nuR (d :: u) : Nat) : Int) / 256 = (nuR u : Nat) := by rw [nuR]; omega
      have e2 : (((nuR (d :: u) : Nat) : Int) % 256).toNat = d := by rw [nuR]; omega
      rw [List.length_cons, beL, revN_snoc, e1, e2, ih.1, UInt8.toNat_ofNat_of_lt' hd]
    · rw [nuR, List.length_cons, Nat.pow_succ]
      have := ih.2
      omega
/-- The code of a number. -/
def nthC (r : Rc) (k : Nat) : Int := (nuR (ntR (prs r) k) : Nat)
theorem nthC_bytes {r : Rc} (h : saneR r = true) (k : Nat) : saneB r.n (nthC r k) = true ∧ revN (codeL r.n (nthC r k)) = ntR (prs r) k := by
  have hb := prs_bnd h
  have hw := ntR_in k hb
  have hl : (ntR (prs r) k).length = r.n.toNat := by rw [ntR_length, prs_len h]
  have hn := nu_be (wiR_small hb hw)
  rw [hl] at hn
  have h1 := (saneB_iff _ _).1 ((saneR_iff r).1 h).1
  have hs : saneB r.n (nthC r k) = true := by
    rw [saneB_iff]
    refine ⟨h1.1, h1.2.1, Int.natCast_nonneg _, ?_⟩
    have := hn.2
    unfold nthC
    have e : ((256 ^ r.n.toNat : Nat) : Int) = (256 : Int) ^ r.n.toNat := Int.natCast_pow 256 _
    rw [← e]
    exact Int.ofNat_lt.2 this
  exact ⟨hs, by rw [codeL_sane hs]; exact hn.1⟩
theorem nthC_in {r : Rc} (h : saneR r = true) (k : Nat) : inC r r.n (nthC r k) = true := by
  obtain ⟨h1, h2⟩ := nthC_bytes h k
  exact (inC_iff r _ _).2 ⟨h, h1, rfl, by rw [h2]; exact ntR_in k (prs_bnd h)⟩
theorem nthC_lt {r : Rc} (h : saneR r = true) {k m : Nat} (hk : k < m) (hm : m < sizeR r) : nthC r k < nthC r m := by
  unfold sizeR at hm
  rw [if_pos h] at hm
  have := ntR_lt (prs_bnd h) hk hm
  unfold nthC
  omega
theorem nthC_first {r : Rc} (h : saneR r = true) : nthC r 0 = r.lo := by
  unfold nthC
  rw [ntR_first, prs_lo h]
  exact code_nu ((saneR_iff r).1 h).1
theorem nthC_last {r : Rc} (h : saneR r = true) : nthC r (sizeR r - 1) = r.hi := by
  unfold nthC sizeR
  rw [if_pos h, ntR_last (prs_bnd h), prs_hi h]
  exact code_nu ((saneR_iff r).1 h).2.1
end Go.Proofs.Ytnojapffmcnbaaa
