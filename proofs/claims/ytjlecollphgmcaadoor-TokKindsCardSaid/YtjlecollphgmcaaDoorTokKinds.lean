/-
  The walk of the statement TokKinds: each kind is read as it is written.
-/
import Derived.Test.YtjlecollphgmcaaDoorTokBack
import Derived.Test.YtjlecollphgmcaaDoorStrGet
import Derived.Test.YtjlecollphgmcaaDoorBits
namespace Go.Proofs.YtjlecollphgmcaaDoor
open Go.RowKit

theorem i64_mask32 (n : Int) : bits .and .i64 n 4294967295 = n % 4294967296 := by
  have h127 : (BitVec.ofInt 64 4294967295).toNat = 2 ^ 32 - 1 := by decide
  have key : (BitVec.ofInt 64 n &&& BitVec.ofInt 64 4294967295).toNat = (n % ((2 ^ 64 : Nat) : Int)).toNat % 2 ^ 32 := by
    rw [BitVec.toNat_and, BitVec.toNat_ofInt, h127, Nat.and_two_pow_sub_one_eq_mod]
  show IntKind.i64.wrap ((BitVec.ofInt 64 n &&& BitVec.ofInt 64 4294967295).toNat : Nat) = n % 4294967296
  rw [key, IntKind.wrap_i64]
  omega

set_option maxHeartbeats 1000000 in
theorem tokKinds_long (kind n : Int) (A : Option Addr) (l : List UInt8) (c : Nat) (w : World) (hT : Tb w) (hm : l.length ≤ maxLen) (h : 200 < l.length) :
    Calls Tryd.prog 6 #[.int .i64 kind, .int .i64 n, .slice A l.length c] w fun e w' => e = .returned (.bool true) ∧ Below w.heap.size w w' := by
  unfold maxLen at hm
  have d1 : decide ((200 : Int) < (l.length : Int)) = true := by simp; omega
  go_enter Tryd.func6, Tryd.ntmps6
  go_wp2_with fail
  refine (awake_any _ hT).mono ?_
  rintro e w1 ⟨rfl, hb1⟩
  go_wp2
  go_ret
  exact ⟨rfl, hb1⟩

/-- What the calls behind a token that is made hand back. -/
theorem kinds_prep (t : Tk) (hg : Gd t.kind t.n t.s) (hs : t.s.length ≤ 200) :
    ∃ q q1 q2 : List UInt8, (q.length ≤ 2211 ∧ q1.length ≤ 2217 ∧ q2.length ≤ 2219) ∧ (∀ w, Tb w → Calls Tryd.prog 14 #[tv t] w fun e w' => e = .returned (.string (str q)) ∧ Below w.heap.size w w') ∧
      ByteArray.mk #[32, 37, 32, 120, 10, 32] ++ str q = str q1 ∧ str q1 ++ ByteArray.mk #[32, 37] = str q2 ∧
      (∀ w, Tb w → Calls Tryd.prog 9 #[.string (str q2)] w fun e w' => ∃ A c, e = .returned (.tuple #[.slice A 1 c, .int .i64 ((8 + q.length : Nat) : Int), .int .i64 0]) ∧ St w' w'.heap.size A [⟨t.kind, 6, t.n, t.s⟩] ∧ Below w.heap.size w w') ∧
      (∀ (A : Option Addr) (c b : Nat) (w : World), St w w.heap.size A [⟨t.kind, 6, t.n, t.s⟩] → w.heap[b]? = some (.cells #[.int .i64 t.kind, .int .i64 t.at_, .int .i64 t.n, .string (str t.s)] 31) →
        Calls Tryd.prog 11 #[.slice A 1 c, .slice (some ⟨b, 0, none⟩) 1 1] w fun e w' => e = .returned (.bool true) ∧ Below w.heap.size w w') := by
  have hlen := sh_len t (k := 201) hg (by omega) (fun _ => by omega) (fun _ => .inl (by omega))
  refine ⟨sh t, [32, 37, 32, 120, 10, 32] ++ sh t, [32, 37, 32, 120, 10, 32] ++ sh t ++ [32, 37], ⟨by omega, by simp; omega, by simp; omega⟩, fun w hT => Show_any t w hT (gd_kd hg) (gd_sw hg (by omega)), str_append [32, 37, 32, 120, 10, 32] (sh t), str_append _ [32, 37], fun w hT => ?_, fun A c b w hA hb => ?_⟩
  · refine (All_any ([32, 37, 32, 120, 10, 32] ++ sh t ++ [32, 37]) w hT.tab hT.mks (by simp; omega)).mono fun e w' h => ?_
    rw [all_alone t hg] at h
    obtain ⟨A, c, he, _, hst, hb⟩ := h
    exact ⟨A, c, he, hst, hb⟩
  · have hlt := (Array.getElem?_eq_some_iff.1 hb).1
    refine Alike_yes [⟨t.kind, 6, t.n, t.s⟩] [t] A (some ⟨b, 0, none⟩) c 1 w hA (fun _ => ⟨b, 0, rfl, hlt, fun j hj => ?_⟩) rfl (by simp)
    have hj0 : j = 0 := by simpa using hj
    subst hj0
    have key : ∀ i v, (#[Value.int .i64 t.kind, .int .i64 t.at_, .int .i64 t.n, .string (str t.s)] : Array Value)[i]? = some v → w.cell? ⟨b, i, none⟩ = some v := fun i v hv => by
      rw [cell_of_row w b i _ _ _ hb]; exact hv
    exact ⟨key 0 _ rfl, key 1 _ rfl, key 2 _ rfl, key 3 _ rfl⟩

theorem str_nil : str [] = ⟨#[]⟩ := rfl
theorem res_tok {w w2 : World} {a b c d : Value} {t : TypeId} (h : Below (w.alloc (.cells #[a, b, c, d] t)).heap.size (w.alloc (.cells #[a, b, c, d] t)) w2) :
    w2.cell? ⟨w.heap.size, 0, none⟩ = some a ∧ w2.cell? ⟨w.heap.size, 1, none⟩ = some b ∧ w2.cell? ⟨w.heap.size, 2, none⟩ = some c ∧ w2.cell? ⟨w.heap.size, 3, none⟩ = some d ∧ w.heap.size < w2.heap.size := by
  have hs := h.size
  simp at hs
  refine ⟨?_, ?_, ?_, ?_, by omega⟩
  · exact (h.cell (p := ⟨w.heap.size, 0, none⟩) (by simp)).trans (by simp)
  · exact (h.cell (p := ⟨w.heap.size, 1, none⟩) (by simp)).trans (by simp)
  · exact (h.cell (p := ⟨w.heap.size, 2, none⟩) (by simp)).trans (by simp)
  · exact (h.cell (p := ⟨w.heap.size, 3, none⟩) (by simp)).trans (by simp)

set_option maxRecDepth 100000 in
set_option maxHeartbeats 4000000 in
theorem tokKinds_any (kind n : Int) (A : Option Addr) (l : List UInt8) (c : Nat) (w : World) (hT : Tb w) (hm : l.length ≤ maxLen) (hA : Sl w w.heap.size A l) :
    Calls Tryd.prog 6 #[.int .i64 kind, .int .i64 n, .slice A l.length c] w fun e w' => e = .returned (.bool true) ∧ Below w.heap.size w w' := by
  by_cases hlong : 200 < l.length
  · exact tokKinds_long kind n A l c w hT hm hlong
  have d1 : decide ((200 : Int) < (l.length : Int)) = false := by simp; omega
  have hl : l.length ≤ 200 := by omega
  have m1 := i64_mask16 kind
  have m2 := i64_mask32 n
  clear hlong hm
  have hr : ∃ m : Nat, m < 12 ∧ kind % 65536 % 12 = (m : Int) := ⟨(kind % 65536 % 12).toNat, by omega, by omega⟩
  have hnn : inR (n % 4294967296 - 2147483648) = true := by simp only [inR, Bool.and_eq_true, decide_eq_true_eq]; omega
  obtain ⟨m, hm, hmk⟩ := hr
  have tmk : Int.tmod (kind % 65536) 12 = (m : Int) := by rw [Int.tmod_eq_emod_of_nonneg (by omega)]; exact hmk
  have hk0 : 0 ≤ kind % 65536 := by omega
  have hk1 : kind % 65536 < 65536 := by omega
  generalize kind % 65536 = kk at *
  have hn0 : -2147483648 ≤ n % 4294967296 - 2147483648 := by omega
  have hn1 : n % 4294967296 - 2147483648 < 2147483648 := by omega
  have hq0 : 0 ≤ n % 4294967296 := by omega
  have hq1 : n % 4294967296 < 4294967296 := by omega
  generalize n % 4294967296 = nn at *
  by_cases h1 : m = 1
  · subst h1
    obtain ⟨q, q1, q2, ⟨l0, l1, l2⟩, hS, ap1, ap2, hAl, hAk⟩ := kinds_prep ⟨1, 0, nn - 2147483648, []⟩ (.inl ⟨rfl, hnn, rfl⟩) (by simp)
    simp only [tv, str_nil] at hS hAl hAk
    have HS := Lib.hid hS
    have HA := Lib.hid hAl
    have HK := Lib.hid hAk
    clear hS hAl hAk
    go_enter Tryd.func6, Tryd.ntmps6
    go_wp2_with fail
    refine (awake_any _ hT).mono ?_
    rintro e w1 ⟨rfl, hb1⟩
    have hT1 := hT.below' hb1
    have hTa := hT1.below' ((Below.refl w1.heap.size w1).alloc (Nat.le_refl _) (.cells #[.int .i64 1, .int .i64 0, .int .i64 (nn - 2147483648), .string ⟨#[]⟩] 31))
    have hba := hb1.alloc hb1.size (.cells #[.int .i64 1, .int .i64 0, .int .i64 (nn - 2147483648), .string ⟨#[]⟩] 31)
    go_wp2_with (first | (go_at_call 14; refine (HS.out _ hTa).mono ?_; rintro e w2 ⟨rfl, hb2⟩; have hT2 := hTa.below' hb2; obtain ⟨c0, c1, c2, c3, hs2⟩ := res_tok hb2; have hb2' := hba.trans (hb2.mono hba.size)) | (go_at_call 9; refine (HA.out _ hT2).mono ?_; rintro e w3 ⟨A3, c', rfl, hst3, hb3⟩; have c0' := (hb3.cell (p := ⟨w1.heap.size, 0, none⟩) hs2).trans c0; have c1' := (hb3.cell (p := ⟨w1.heap.size, 1, none⟩) hs2).trans c1; have c2' := (hb3.cell (p := ⟨w1.heap.size, 2, none⟩) hs2).trans c2; have c3' := (hb3.cell (p := ⟨w1.heap.size, 3, none⟩) hs2).trans c3; have hb3' := hb2'.trans (hb3.mono hb2'.size); clear c0 c1 c2 c3) | (go_at_call 11; refine (HK.out _ _ _ _ ((hst3.over ((Below.refl w3.heap.size w3).alloc (Nat.le_refl _) _))) (heap_alloc_new w3 _)).mono ?_; rintro e w4 ⟨rfl, hb4⟩))
    go_ret
    exact ⟨rfl, (hb3'.alloc hb3'.size _).trans (hb4.mono (by have := hb3'.size; simp; omega))⟩
  by_cases h2 : m = 2 ∨ m = 4 ∨ m = 5
  · rcases h2 with rfl | rfl | rfl
    · obtain ⟨q, q1, q2, ⟨l0, l1, l2⟩, hS, ap1, ap2, hAl, hAk⟩ := kinds_prep ⟨2, 0, 0, l⟩ (.inr (.inl ⟨rfl, rfl⟩)) hl
      simp only [tv] at hS hAl hAk
      have HS := Lib.hid hS
      have HA := Lib.hid hAl
      have HK := Lib.hid hAk
      clear hS hAl hAk
      go_enter Tryd.func6, Tryd.ntmps6
      go_wp2_with fail
      refine (awake_any _ hT).mono ?_
      rintro e w1 ⟨rfl, hb1⟩
      have hT1 := hT.below' hb1
      have hTa := hT1.below' ((Below.refl w1.heap.size w1).alloc (Nat.le_refl _) (.cells #[.int .i64 2, .int .i64 0, .int .i64 0, .string (str l)] 31))
      have hba := hb1.alloc hb1.size (.cells #[.int .i64 2, .int .i64 0, .int .i64 0, .string (str l)] 31)
      have hcv := conv8 ((hA.over hb1).alloc (Nat.le_refl _) (.cells #[.int .i64 2, .int .i64 0, .int .i64 0, .string ⟨#[]⟩] 31)) c
      go_wp2_with (first | (go_at_call 14; refine (HS.out _ hTa).mono ?_; rintro e w2 ⟨rfl, hb2⟩; have hT2 := hTa.below' hb2; obtain ⟨c0, c1, c2, c3, hs2⟩ := res_tok hb2; have hb2' := hba.trans (hb2.mono hba.size)) | (go_at_call 9; refine (HA.out _ hT2).mono ?_; rintro e w3 ⟨A3, c', rfl, hst3, hb3⟩; have c0' := (hb3.cell (p := ⟨w1.heap.size, 0, none⟩) hs2).trans c0; have c1' := (hb3.cell (p := ⟨w1.heap.size, 1, none⟩) hs2).trans c1; have c2' := (hb3.cell (p := ⟨w1.heap.size, 2, none⟩) hs2).trans c2; have c3' := (hb3.cell (p := ⟨w1.heap.size, 3, none⟩) hs2).trans c3; have hb3' := hb2'.trans (hb3.mono hb2'.size); clear c0 c1 c2 c3) | (go_at_call 11; refine (HK.out _ _ _ _ ((hst3.over ((Below.refl w3.heap.size w3).alloc (Nat.le_refl _) _))) (heap_alloc_new w3 _)).mono ?_; rintro e w4 ⟨rfl, hb4⟩))
      go_ret
      exact ⟨rfl, (hb3'.alloc hb3'.size _).trans (hb4.mono (by have := hb3'.size; simp; omega))⟩
    · obtain ⟨q, q1, q2, ⟨l0, l1, l2⟩, hS, ap1, ap2, hAl, hAk⟩ := kinds_prep ⟨4, 0, 0, l⟩ (.inr (.inr (.inr (.inl ⟨rfl, rfl⟩)))) hl
      simp only [tv] at hS hAl hAk
      have HS := Lib.hid hS
      have HA := Lib.hid hAl
      have HK := Lib.hid hAk
      clear hS hAl hAk
      go_enter Tryd.func6, Tryd.ntmps6
      go_wp2_with fail
      refine (awake_any _ hT).mono ?_
      rintro e w1 ⟨rfl, hb1⟩
      have hT1 := hT.below' hb1
      have hTa := hT1.below' ((Below.refl w1.heap.size w1).alloc (Nat.le_refl _) (.cells #[.int .i64 4, .int .i64 0, .int .i64 0, .string (str l)] 31))
      have hba := hb1.alloc hb1.size (.cells #[.int .i64 4, .int .i64 0, .int .i64 0, .string (str l)] 31)
      have hcv := conv8 ((hA.over hb1).alloc (Nat.le_refl _) (.cells #[.int .i64 4, .int .i64 0, .int .i64 0, .string ⟨#[]⟩] 31)) c
      go_wp2_with (first | (go_at_call 14; refine (HS.out _ hTa).mono ?_; rintro e w2 ⟨rfl, hb2⟩; have hT2 := hTa.below' hb2; obtain ⟨c0, c1, c2, c3, hs2⟩ := res_tok hb2; have hb2' := hba.trans (hb2.mono hba.size)) | (go_at_call 9; refine (HA.out _ hT2).mono ?_; rintro e w3 ⟨A3, c', rfl, hst3, hb3⟩; have c0' := (hb3.cell (p := ⟨w1.heap.size, 0, none⟩) hs2).trans c0; have c1' := (hb3.cell (p := ⟨w1.heap.size, 1, none⟩) hs2).trans c1; have c2' := (hb3.cell (p := ⟨w1.heap.size, 2, none⟩) hs2).trans c2; have c3' := (hb3.cell (p := ⟨w1.heap.size, 3, none⟩) hs2).trans c3; have hb3' := hb2'.trans (hb3.mono hb2'.size); clear c0 c1 c2 c3) | (go_at_call 11; refine (HK.out _ _ _ _ ((hst3.over ((Below.refl w3.heap.size w3).alloc (Nat.le_refl _) _))) (heap_alloc_new w3 _)).mono ?_; rintro e w4 ⟨rfl, hb4⟩))
      go_ret
      exact ⟨rfl, (hb3'.alloc hb3'.size _).trans (hb4.mono (by have := hb3'.size; simp; omega))⟩
    · obtain ⟨q, q1, q2, ⟨l0, l1, l2⟩, hS, ap1, ap2, hAl, hAk⟩ := kinds_prep ⟨5, 0, 0, l⟩ (.inr (.inr (.inr (.inr (.inl ⟨rfl, rfl⟩))))) hl
      simp only [tv] at hS hAl hAk
      have HS := Lib.hid hS
      have HA := Lib.hid hAl
      have HK := Lib.hid hAk
      clear hS hAl hAk
      go_enter Tryd.func6, Tryd.ntmps6
      go_wp2_with fail
      refine (awake_any _ hT).mono ?_
      rintro e w1 ⟨rfl, hb1⟩
      have hT1 := hT.below' hb1
      have hTa := hT1.below' ((Below.refl w1.heap.size w1).alloc (Nat.le_refl _) (.cells #[.int .i64 5, .int .i64 0, .int .i64 0, .string (str l)] 31))
      have hba := hb1.alloc hb1.size (.cells #[.int .i64 5, .int .i64 0, .int .i64 0, .string (str l)] 31)
      have hcv := conv8 ((hA.over hb1).alloc (Nat.le_refl _) (.cells #[.int .i64 5, .int .i64 0, .int .i64 0, .string ⟨#[]⟩] 31)) c
      go_wp2_with (first | (go_at_call 14; refine (HS.out _ hTa).mono ?_; rintro e w2 ⟨rfl, hb2⟩; have hT2 := hTa.below' hb2; obtain ⟨c0, c1, c2, c3, hs2⟩ := res_tok hb2; have hb2' := hba.trans (hb2.mono hba.size)) | (go_at_call 9; refine (HA.out _ hT2).mono ?_; rintro e w3 ⟨A3, c', rfl, hst3, hb3⟩; have c0' := (hb3.cell (p := ⟨w1.heap.size, 0, none⟩) hs2).trans c0; have c1' := (hb3.cell (p := ⟨w1.heap.size, 1, none⟩) hs2).trans c1; have c2' := (hb3.cell (p := ⟨w1.heap.size, 2, none⟩) hs2).trans c2; have c3' := (hb3.cell (p := ⟨w1.heap.size, 3, none⟩) hs2).trans c3; have hb3' := hb2'.trans (hb3.mono hb2'.size); clear c0 c1 c2 c3) | (go_at_call 11; refine (HK.out _ _ _ _ ((hst3.over ((Below.refl w3.heap.size w3).alloc (Nat.le_refl _) _))) (heap_alloc_new w3 _)).mono ?_; rintro e w4 ⟨rfl, hb4⟩))
      go_ret
      exact ⟨rfl, (hb3'.alloc hb3'.size _).trans (hb4.mono (by have := hb3'.size; simp; omega))⟩
  by_cases h3 : m = 0 ∨ m = 3
  · rcases h3 with rfl | rfl
    all_goals
      go_enter Tryd.func6, Tryd.ntmps6
      go_wp2_with fail
      refine (awake_any _ hT).mono ?_
      rintro e w1 ⟨rfl, hb1⟩
      go_wp2
      go_ret
      exact ⟨rfl, hb1.alloc hb1.size _⟩
  have hm6 : 6 ≤ m ∧ m ≤ 11 := by omega
  obtain ⟨q, q1, q2, ⟨l0, l1, l2⟩, hS, ap1, ap2, hAl, hAk⟩ := kinds_prep ⟨(m : Int), 0, 0, []⟩ (.inr (.inr (.inr (.inr (.inr ⟨m, hm6, rfl, rfl, rfl⟩))))) (by simp)
  have b1 : ((m : Int) == 1) = false := by rw [beq_eq_false_iff_ne]; omega
  have b2 : ((m : Int) == 2) = false := by rw [beq_eq_false_iff_ne]; omega
  have b3 : ((m : Int) == 3) = false := by rw [beq_eq_false_iff_ne]; omega
  have b4 : ((m : Int) == 4) = false := by rw [beq_eq_false_iff_ne]; omega
  have b5 : ((m : Int) == 5) = false := by rw [beq_eq_false_iff_ne]; omega
  have b0 : ((m : Int) == 0) = false := by rw [beq_eq_false_iff_ne]; omega
  clear hm6 h1 h2 h3 hmk
  simp only [tv, str_nil] at hS hAl hAk
  have HS := Lib.hid hS
  have HA := Lib.hid hAl
  have HK := Lib.hid hAk
  clear hS hAl hAk
  go_enter Tryd.func6, Tryd.ntmps6
  go_wp2_with fail
  refine (awake_any _ hT).mono ?_
  rintro e w1 ⟨rfl, hb1⟩
  have hT1 := hT.below' hb1
  have hTa := hT1.below' ((Below.refl w1.heap.size w1).alloc (Nat.le_refl _) (.cells #[.int .i64 (m : Int), .int .i64 0, .int .i64 0, .string ⟨#[]⟩] 31))
  have hba := hb1.alloc hb1.size (.cells #[.int .i64 (m : Int), .int .i64 0, .int .i64 0, .string ⟨#[]⟩] 31)
  go_wp2_with (first | (go_at_call 14; refine (HS.out _ hTa).mono ?_; rintro e w2 ⟨rfl, hb2⟩; have hT2 := hTa.below' hb2; obtain ⟨c0, c1, c2, c3, hs2⟩ := res_tok hb2; have hb2' := hba.trans (hb2.mono hba.size)) | (go_at_call 9; refine (HA.out _ hT2).mono ?_; rintro e w3 ⟨A3, c', rfl, hst3, hb3⟩; have c0' := (hb3.cell (p := ⟨w1.heap.size, 0, none⟩) hs2).trans c0; have c1' := (hb3.cell (p := ⟨w1.heap.size, 1, none⟩) hs2).trans c1; have c2' := (hb3.cell (p := ⟨w1.heap.size, 2, none⟩) hs2).trans c2; have c3' := (hb3.cell (p := ⟨w1.heap.size, 3, none⟩) hs2).trans c3; have hb3' := hb2'.trans (hb3.mono hb2'.size); clear c0 c1 c2 c3) | (go_at_call 11; refine (HK.out _ _ _ _ ((hst3.over ((Below.refl w3.heap.size w3).alloc (Nat.le_refl _) _))) (heap_alloc_new w3 _)).mono ?_; rintro e w4 ⟨rfl, hb4⟩))
  go_ret
  exact ⟨rfl, (hb3'.alloc hb3'.size _).trans (hb4.mono (by have := hb3'.size; simp; omega))⟩
end Go.Proofs.YtjlecollphgmcaaDoor
