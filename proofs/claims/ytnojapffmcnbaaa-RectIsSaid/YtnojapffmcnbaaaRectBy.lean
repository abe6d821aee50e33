/-
  Layer 6, plainly: a codespace's bytes by their places, the last byte being at 0.
-/
import Derived.Test.YtnojapffmcnbaaaRectPro1
namespace Go.Proofs.Ytnojapffmcnbaaa

theorem byJ_zero (v : Int) : byJ v 0 = v % 256 := by unfold byJ; rw [Int.pow_zero, Int.ediv_one]
theorem byJ_succ (v : Int) (j : Nat) : byJ v (j + 1) = byJ (v / 256) j := by
  unfold byJ
  rw [Int.pow_succ, Int.mul_comm, ← Int.ediv_ediv_of_nonneg (by decide)]
theorem be_at : ∀ (n : Nat) (v : Int) (j : Nat), j < n → (revN (beL n v))[j]? = some (byJ v j).toNat
  | 0, _, _, h => absurd h (Nat.not_lt_zero _)
  | n + 1, v, 0, _ => by
    rw [beL, revN_snoc, List.getElem?_cons_zero, byJ_zero]
    have := low_byte v
    congr 1
    omega
  | n + 1, v, j + 1, h => by
    rw [beL, revN_snoc, List.getElem?_cons_succ, be_at n (v / 256) j (by omega), byJ_succ]
theorem code_at {n v : Int} (h : saneB n v = true) {j : Nat} (hj : j < n.toNat) : (revN (codeL n v))[j]? = some (byJ v j).toNat := by rw [codeL_sane h]; exact be_at _ _ _ hj
theorem prs_at {r : Rc} (h1 : saneB r.n r.lo = true) (h2 : saneB r.n r.hi = true) {j : Nat} (hj : j < r.n.toNat) : (prs r)[j]? = some ((byJ r.lo j).toNat, (byJ r.hi j).toNat) := by
  unfold prs
  rw [List.getElem?_zip_eq_some]
  exact ⟨code_at h1 hj, code_at h2 hj⟩
theorem prs_len' {r : Rc} (h1 : saneB r.n r.lo = true) (h2 : saneB r.n r.hi = true) : (prs r).length = r.n.toNat := by
  unfold prs
  rw [List.length_zip, revN_length, revN_length, code_len h1, code_len h2, Nat.min_self]
/-- May a codespace be, by its bytes? -/
theorem saneR_by {r : Rc} (h1 : saneB r.n r.lo = true) (h2 : saneB r.n r.hi = true) : saneR r = true ↔ ∀ j, j < r.n.toNat → byJ r.lo j ≤ byJ r.hi j := by
  rw [saneR_iff]
  constructor
  · rintro ⟨_, _, h⟩ j hj
    have := h _ (List.mem_of_getElem? (prs_at h1 h2 hj))
    have b1 := byJ_bnd r.lo j
    have b2 := byJ_bnd r.hi j
    simp only at this
    omega
  · intro h
    refine ⟨h1, h2, fun q hq => ?_⟩
    obtain ⟨j, hj, e⟩ := List.getElem_of_mem hq
    have hj' : j < r.n.toNat := by rw [← prs_len' h1 h2]; exact hj
    have h3 := prs_at h1 h2 hj'
    rw [List.getElem?_eq_getElem hj, e] at h3
    have h4 := Option.some.inj h3
    have := h j hj'
    rw [h4]
    simp only
    omega
theorem wiR_by : ∀ {p : List (Nat × Nat)} {u : List Nat}, p.length = u.length → (wiR p u = true ↔ ∀ (j : Nat) (q : Nat × Nat) (d : Nat), p[j]? = some q → u[j]? = some d → q.1 ≤ d ∧ d ≤ q.2)
  | [], [], _ => by simp [wiR]
  | [], _ :: _, h => by simp at h
  | _ :: _, [], h => by simp at h
  | q :: t, d :: u, h => by
    have ih := wiR_by (p := t) (u := u) (by simpa using h)
    rw [wiR, Bool.and_eq_true, Bool.and_eq_true, decide_eq_true_eq, decide_eq_true_eq, ih]
    constructor
    · rintro ⟨h1, h2⟩ j q' d' hq hd
      cases j with
      | zero =>
        rw [List.getElem?_cons_zero] at hq hd
        cases hq
        cases hd
        exact h1
      | succ j =>
        rw [List.getElem?_cons_succ] at hq hd
        exact h2 j q' d' hq hd
    · intro h1
      exact ⟨h1 0 q d rfl rfl, fun j q' d' hq hd => h1 (j + 1) q' d' (by rw [List.getElem?_cons_succ]; exact hq) (by rw [List.getElem?_cons_succ]; exact hd)⟩
/-- Is a code in one, by its bytes? -/
theorem inC_by {r : Rc} {v : Int} (h : saneR r = true) (hv : saneB r.n v = true) : inC r r.n v = true ↔ ∀ j, j < r.n.toNat → byJ r.lo j ≤ byJ v j ∧ byJ v j ≤ byJ r.hi j := by
  have h0 := (saneR_iff r).1 h
  have hl : (prs r).length = (revN (codeL r.n v)).length := by rw [prs_len h, revN_length, code_len hv]
  rw [inC_iff, wiR_by hl]
  constructor
  · rintro ⟨_, _, _, h1⟩ j hj
    have h2 := h1 j _ _ (prs_at h0.1 h0.2.1 hj) (code_at hv hj)
    have b1 := byJ_bnd r.lo j
    have b2 := byJ_bnd r.hi j
    have b3 := byJ_bnd v j
    simp only at h2
    omega
  · intro h1
    refine ⟨h, hv, rfl, fun j q d hq hd => ?_⟩
    have hj : j < r.n.toNat := by
      rw [← prs_len h]
      exact (List.getElem?_eq_some_iff.1 hq).1
    rw [prs_at h0.1 h0.2.1 hj] at hq
    rw [code_at hv hj] at hd
    cases hq
    cases hd
    have h2 := h1 j hj
    simp only
    omega
theorem hoR_of_in : ∀ {p : List (Nat × Nat)} {q : List (Nat × Nat)}, Bnd q → (hoR p q = true ↔ wiR p (q.map (·.1)) = true ∧ wiR p (q.map (·.2)) = true)
  | [], [], _ => by simp [hoR, wiR]
  | [], _ :: _, _ => by simp [hoR, wiR]
  | _ :: _, [], _ => by simp [hoR, wiR]
  | a :: t, b :: u, h => by
    have ih := hoR_of_in (p := t) (q := u) (fun x hx => h x (List.mem_cons_of_mem _ hx))
    have hb := h b List.mem_cons_self
    rw [hoR, List.map_cons, List.map_cons, wiR, wiR]
    simp only [Bool.and_eq_true, decide_eq_true_eq]
    rw [ih]
    constructor
    · rintro ⟨⟨h1, h2⟩, h3, h4⟩
      exact ⟨⟨⟨h1, by omega⟩, h3⟩, ⟨by omega, h2⟩, h4⟩
    · rintro ⟨⟨⟨h1, h2⟩, h3⟩, ⟨h4, h5⟩, h6⟩
      exact ⟨⟨h1, h5⟩, h3, h6⟩
/-- One that may be is held just if its lowest and its highest code are in. -/
theorem hoC_by (a b : Rc) : hoC a b = (saneR b && inC a b.n b.lo && inC a b.n b.hi) := by
  rw [Bool.eq_iff_iff, Bool.and_eq_true, Bool.and_eq_true, hoC_iff, inC_iff, inC_iff]
  constructor
  · rintro ⟨h1, h2, h3, h4⟩
    have hb := (saneR_iff b).1 h2
    have h5 := (hoR_of_in (prs_bnd h2)).1 h4
    rw [prs_lo h2, prs_hi h2] at h5
    exact ⟨⟨h2, h1, hb.1, h3.symm, h5.1⟩, h1, hb.2.1, h3.symm, h5.2⟩
  · rintro ⟨⟨h2, h1, hb, h3, h4⟩, _, _, _, h5⟩
    refine ⟨h1, h2, h3.symm, (hoR_of_in (prs_bnd h2)).2 ?_⟩
    rw [prs_lo h2, prs_hi h2]
    exact ⟨h4, h5⟩
end Go.Proofs.Ytnojapffmcnbaaa
