/-
  The tokens of a section of codes, as many as are told or not, as plain lists: what they come to.
-/
import Derived.Test.YthcnjiigkmljnaaDoorSynEg
namespace Go.Proofs.YthcnjiigkmljnaaDoor
open Go.RowKit

def cntH (i : Nat) : Tk := ⟨4, 2 + (i : Int), 0, [UInt8.ofNat i]⟩
def cntI (i : Nat) : Tk := ⟨1, 2 + (i : Int), (i : Int), []⟩
def cntB : Nat → List Tk
  | 0 => []
  | m + 1 => cntB m ++ [cntH m, cntI m]
/-- The tokens ahead of the last one. -/
def cntF (k : Int) (m : Nat) : List Tk := [⟨1, 0, k, []⟩, ⟨3, 1, 0, wBegin⟩] ++ cntB m
def cntL (k : Int) (m : Nat) : List Tk := cntF k m ++ [⟨3, 999, 0, wEnd⟩]
def cntE : Nat → List En
  | 0 => []
  | m + 1 => cntE m ++ [⟨⟨1, (m : Int)⟩, ⟨1, (m : Int)⟩, (m : Int), [], []⟩]
theorem cntB_len : ∀ m, (cntB m).length = 2 * m
  | 0 => rfl
  | m + 1 => by rw [cntB, List.length_append, cntB_len m]; simp; omega
theorem cntE_len : ∀ m, (cntE m).length = m
  | 0 => rfl
  | m + 1 => by rw [cntE, List.length_append, cntE_len m]; simp
theorem cntF_len (k : Int) (m : Nat) : (cntF k m).length = 2 + 2 * m := by unfold cntF; rw [List.length_append, cntB_len]; simp
theorem cntL_len (k : Int) (m : Nat) : (cntL k m).length = 3 + 2 * m := by unfold cntL; rw [List.length_append, cntF_len]; simp; omega
theorem tg_left {a b : List Tk} {j : Nat} (h : j < a.length) : tg (a ++ b) j = tg a j := by unfold tg; rw [List.getElem?_append_left h]
theorem tg_right {a b : List Tk} {j : Nat} (h : a.length ≤ j) : tg (a ++ b) j = tg b (j - a.length) := by unfold tg; rw [List.getElem?_append_right h]
theorem cntB_get : ∀ (m j : Nat), j < m → tg (cntB m) (2 * j) = cntH j ∧ tg (cntB m) (2 * j + 1) = cntI j
  | 0, j, h => by omega
  | m + 1, j, h => by
    rw [cntB]
    by_cases hj : j < m
    · rw [tg_left (by rw [cntB_len]; omega), tg_left (by rw [cntB_len]; omega)]
      exact cntB_get m j hj
    · obtain rfl : j = m := by omega
      rw [tg_right (by rw [cntB_len]; omega), tg_right (by rw [cntB_len]; omega), cntB_len]
      have e1 : 2 * j - 2 * j = 0 := by omega
      have e2 : 2 * j + 1 - 2 * j = 1 := by omega
      rw [e1, e2]
      exact ⟨rfl, rfl⟩
theorem cntL_get (k : Int) (m j : Nat) (h : j < m) : tg (cntL k m) (2 + 2 * j) = cntH j ∧ tg (cntL k m) (2 + 2 * j + 1) = cntI j := by
  unfold cntL
  rw [tg_left (by rw [cntF_len]; omega), tg_left (by rw [cntF_len]; omega)]
  unfold cntF
  rw [tg_right (by simp), tg_right (by simp; omega)]
  have e1 : 2 + 2 * j - ([⟨1, 0, k, []⟩, ⟨3, 1, 0, wBegin⟩] : List Tk).length = 2 * j := by simp
  have e2 : 2 + 2 * j + 1 - ([⟨1, 0, k, []⟩, ⟨3, 1, 0, wBegin⟩] : List Tk).length = 2 * j + 1 := by simp; omega
  rw [e1, e2]
  exact cntB_get m j h
theorem cntL_end (k : Int) (m : Nat) : tg (cntL k m) (2 + 2 * m) = ⟨3, 999, 0, wEnd⟩ := by
  unfold cntL
  rw [tg_right (by rw [cntF_len]; omega), cntF_len]
  have e : 2 + 2 * m - (2 + 2 * m) = 0 := by omega
  rw [e]
  rfl
theorem cnt_ent {k : Int} {m j : Nat} {en : Int} (h : j < m) (h2 : j < 256) : entT (cntL k m) en 4 (2 + 2 * j) = .ok ⟨⟨1, (j : Int)⟩, ⟨1, (j : Int)⟩, (j : Int), [], []⟩ (2 + 2 * (j + 1)) := by
  obtain ⟨g1, g2⟩ := cntL_get k m j h
  have hl := cntL_len k m
  have t1 : takeT (cntL k m) en 4 (2 + 2 * j) = .ok (cntH j) (2 + 2 * j + 1) := by unfold takeT; rw [if_pos (by omega), g1, if_pos (show (cntH j).kind = 4 from rfl)]
  have t2 : takeT (cntL k m) en 1 (2 + 2 * j + 1) = .ok (cntI j) (2 + 2 * j + 1 + 1) := by unfold takeT; rw [if_pos (by omega), g2, if_pos (show (cntI j).kind = 1 from rfl)]
  have hn : num [UInt8.ofNat j] = (j : Int) := by
    show (0 : Int) * 256 + ((UInt8.ofNat j).toNat : Int) = j
    rw [UInt8.toNat_ofNat_of_lt' (by simpa [UInt8.size] using h2)]
    omega
  have c1 : codeT (cntL k m) en (2 + 2 * j) = .ok (⟨1, (j : Int)⟩, 2 + (j : Int)) (2 + 2 * j + 1) := by
    unfold codeT
    rw [t1, then_ok, if_pos ⟨by simp [cntH], by simp [cntH]⟩]
    show Rs.ok ((⟨(1 : Nat), num [UInt8.ofNat j]⟩ : Cd), _) _ = _
    rw [hn]
    rfl
  have c2 : toT (cntL k m) en 0 (2 + 2 * j + 1) = .ok (j : Int) (2 + 2 * j + 1 + 1) := by
    unfold toT
    rw [t2, then_ok, if_neg (by simp [cntI]; omega)]
    rfl
  unfold entT
  rw [if_neg (by decide), if_neg (by decide), if_neg (by decide), if_pos (.inl rfl), c1, then_ok, c2, then_ok]
  congr 1
theorem cnt_sec {k n en : Int} {m : Nat} (hm : m ≤ 256) : ∀ (d j : Nat), j + d = m → secT (cntL k m) en 4 n (cntE j) (2 + 2 * j) = secT (cntL k m) en 4 n (cntE m) (2 + 2 * m)
  | 0, j, h => by
    obtain rfl : j = m := by omega
    rfl
  | d + 1, j, h => by
    obtain ⟨g1, _⟩ := cntL_get k m j (by omega)
    have hat : atW (cntL k m) (2 + 2 * j) (endL 4) = false := by unfold atW atB; rw [g1]; simp [cntH]
    rw [secT_step hat, cnt_ent (by omega) (by omega), then_ok]
    exact cnt_sec hm d (j + 1) (by omega)
theorem cnt_parse {k : Int} {m : Nat} (hk : 0 ≤ k) (hm : m ≤ 256) : parseT (cntL k m) 1000 = if 100 < k then .no 0 6 else if (m : Int) = k then .ok [⟨4, 1, [], noT, cntE m⟩] (3 + 2 * m) else .no 999 6 := by
  have hl := cntL_len k m
  have e0 : tg (cntL k m) 0 = ⟨1, 0, k, []⟩ := rfl
  have e1 : tg (cntL k m) 1 = ⟨3, 1, 0, wBegin⟩ := rfl
  have eb : backT (cntL k m) 1 1 = ⟨1, 0, k, []⟩ := by unfold backT; rw [if_pos ⟨by decide, by omega⟩]; exact e0
  have hbg : begunT wBegin = 4 := by decide
  unfold parseT
  rw [items_skip (i := 0) (by omega) (by rw [e0]; simp) (by rw [e0]; simp) (by rw [e0]; simp), items_word (i := 0 + 1) (by omega) (by rw [e1]), wordT_sec (by rw [e1]; decide) (by rw [e1]; decide) (by rw [e1]; decide), e1, eb, hbg]
  unfold secW
  rw [if_pos rfl]
  by_cases h1 : 100 < k
  · rw [if_pos (.inr h1), if_pos h1, then_no]
  · rw [if_neg (by simp; omega), if_neg h1]
    have hs := cnt_sec (k := k) (n := k) (en := 1000) hm m 0 (by omega)
    have hat : atW (cntL k m) (2 + 2 * m) (endL 4) = true := by unfold atW atB; rw [cntL_end]; simp [hl]; decide
    rw [secT_end hat, cntE_len, cntL_end] at hs
    have hs' : secT (cntL k m) 1000 4 k [] (0 + 1 + 1) = if (m : Int) = k then .ok (cntE m) (2 + 2 * m + 1) else .no 999 6 := hs
    rw [hs']
    by_cases h2 : (m : Int) = k
    · rw [if_pos h2, if_pos h2, then_ok, then_ok, items_end (by omega), if_pos rfl]
      congr 1
      omega
    · rw [if_neg h2, if_neg h2, then_no, then_no]
theorem cntL_sm (k : Int) (m : Nat) (hm : m ≤ 256) : Sm (cntL k m) := by
  have hB : ∀ m, ∀ t ∈ cntB m, t.s.length ≤ 1 := by
    intro m
    induction m with
    | zero => intro t h; cases h
    | succ m ih =>
      intro t h
      rw [cntB] at h
      rcases List.mem_append.1 h with h | h
      · exact ih t h
      · rcases List.mem_cons.1 h with rfl | h
        · simp [cntH]
        · obtain rfl : t = cntI m := by simpa using h
          simp [cntI]
  refine ⟨by rw [cntL_len]; omega, fun t ht => ?_⟩
  unfold cntL cntF at ht
  simp only [List.mem_append, List.mem_cons, List.not_mem_nil, or_false] at ht
  rcases ht with ((rfl | rfl) | h) | rfl
  · simp
  · simp [wBegin]
  · have := hB m t h; omega
  · simp [wEnd]
end Go.Proofs.YthcnjiigkmljnaaDoor
