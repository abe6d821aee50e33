/-
  The walk of the statement SynCounts: a section of codes, as many as are told or not.
-/
import Derived.Test.YthcnjiigkmljnaaDoorSynCntP
import Derived.Test.YthcnjiigkmljnaaDoorSynAwake
import Derived.Test.YthcnjiigkmljnaaDoorSynTs
import Derived.Test.YthcnjiigkmljnaaDoorPart1
namespace Go.Proofs.YthcnjiigkmljnaaDoor
open Go.RowKit
theorem i64_and1 (n : Int) : bits .and .i64 n 1 = n % 2 := by
  have h127 : (BitVec.ofInt 64 1).toNat = 2 ^ 1 - 1 := by decide
  have key : (BitVec.ofInt 64 n &&& BitVec.ofInt 64 1).toNat = (n % ((2 ^ 64 : Nat) : Int)).toNat % 2 ^ 1 := by
    rw [BitVec.toNat_and, BitVec.toNat_ofInt, h127, Nat.and_two_pow_sub_one_eq_mod]
  show IntKind.i64.wrap ((BitVec.ofInt 64 n &&& BitVec.ofInt 64 1).toNat : Nat) = n % 2
  rw [key, IntKind.wrap_i64]
  omega
theorem i64_and127 (n : Int) : bits .and .i64 n 127 = n % 128 := by
  have h127 : (BitVec.ofInt 64 127).toNat = 2 ^ 7 - 1 := by decide
  have key : (BitVec.ofInt 64 n &&& BitVec.ofInt 64 127).toNat = (n % ((2 ^ 64 : Nat) : Int)).toNat % 2 ^ 7 := by
    rw [BitVec.toNat_and, BitVec.toNat_ofInt, h127, Nat.and_two_pow_sub_one_eq_mod]
  show IntKind.i64.wrap ((BitVec.ofInt 64 n &&& BitVec.ofInt 64 127).toNat : Nat) = n % 128
  rw [key, IntKind.wrap_i64]
  omega
theorem i64_and2 (n : Int) : bits .and .i64 n 2 = 0 ∨ bits .and .i64 n 2 = 2 := by
  have h2 : (BitVec.ofInt 64 2).toNat = 2 := by decide
  have e : bits .and .i64 n 2 = IntKind.i64.wrap ((BitVec.ofInt 64 n &&& BitVec.ofInt 64 2).toNat : Nat) := rfl
  rw [e, BitVec.toNat_and, h2]
  have hle : (BitVec.ofInt 64 n).toNat &&& 2 ≤ 2 := Nat.and_le_right
  have hmod : ((BitVec.ofInt 64 n).toNat &&& 2) % 2 ^ 1 = 0 := by rw [Nat.and_mod_two_pow]; simp
  rw [IntKind.wrap_i64]
  omega

/-- One item's cells. -/
theorem cnt_cells {w : World} {X : Nat → Prop} {v : Value} {es : List En} (h : Ix w X v [⟨4, 1, [], noT, es⟩]) : ∃ b o c A2 c2, v = .slice (some ⟨b, o, none⟩) 1 c ∧ b < w.heap.size ∧
    w.cell? ⟨b, o + 1, none⟩ = some (.int .i64 1) ∧ w.cell? ⟨b, o + 7, none⟩ = some (.slice A2 es.length c2) := by
  obtain ⟨d, hd, ⟨A, c, hv, _, hcl⟩, hex⟩ := h
  match d, hd with
  | [(i0, e0)], hd =>
    simp at hd
    subst hd
    obtain ⟨b, o, hA, hb, _, hc⟩ := hcl (by simp)
    obtain ⟨d2, hd2, ⟨A2, c2, hv2, _, _⟩, _⟩ := hex _ (List.mem_cons_self)
    simp only at hv2 hd2
    have hl : es.length = d2.length := by rw [hd2]; simp
    subst hA hv2
    rw [hl]
    exact ⟨b, o, c, A2, c2, hv, hb, by simpa using hc 0 _ rfl 1 _ rfl, by simpa using hc 0 _ rfl 7 _ rfl⟩
set_option maxRecDepth 100000 in
set_option maxHeartbeats 1000000 in
theorem synCounts_any (n more : Int) (w : World) (hT : Ts w) :
    Calls Tryd.prog 4 #[.int .i64 n, .int .i64 more] w fun e w' => e = .returned (.bool true) ∧ Below w.heap.size w w' := by
  obtain ⟨i0, hi0, hz0, hz1, hz2⟩ := info_parts infoT
  have hk := i64_and127 n
  obtain ⟨k, hk2⟩ : ∃ m : Nat, n % 128 = (m : Int) := ⟨(n % 128).toNat, by omega⟩
  rw [hk2] at hk
  have hk3 : k < 128 := by omega
  have ha := i64_and1 more
  obtain ⟨a, ha2⟩ : ∃ m : Nat, more % 2 = (m : Int) := ⟨(more % 2).toNat, by omega⟩
  rw [ha2] at ha
  have ha3 : a < 2 := by omega
  obtain ⟨b, hb, hb2⟩ : ∃ b : Int, bits .and .i64 more 2 = b ∧ (b = 0 ∨ b = 2) := by
    rcases i64_and2 more with h | h
    · exact ⟨0, h, .inl rfl⟩
    · exact ⟨2, h, .inr rfl⟩
  obtain ⟨M, hM⟩ : ∃ M : Int, M = (k : Int) + (a : Int) - b := ⟨_, rfl⟩
  obtain ⟨m, hm⟩ : ∃ m : Nat, m = M.toNat := ⟨_, rfl⟩
  have hm2 : m ≤ 128 := by omega
  have hMl : -2 ≤ M := by omega
  have hMh : M ≤ 128 := by omega
  have HM : Hid (m = ((k : Int) + (a : Int) - b).toNat) := Lib.hid (by rw [hm, hM])
  have hMl2 : -2 ≤ (k : Int) + (a : Int) - b := by omega
  clear hk2 ha2 hm hMl hMh hM
  clear M
  go_enter Tryd.func4, Tryd.ntmps4
  go_wp2_with fail
  refine (awake_any _ hT).mono ?_
  rintro e w1 ⟨rfl, hb1⟩
  have HT1 := Lib.hid (hT.below' hb1)
  have HB1 := Lib.hid hb1
  clear hb1 hT
  have hown0 : (w1.alloc (.cells #[.int .i64 1, .int .i64 0, .int .i64 (k : Int), .string ⟨#[]⟩, .int .i64 3, .int .i64 1, .int .i64 0, .string ⟨#[98, 101, 103, 105, 110, 99, 105, 100, 99, 104, 97, 114]⟩] 30)).ownsRow w1.heap.size 30 4 (.slice (some ⟨w1.heap.size, 0, none⟩) 2 2) 2 (tvs (cntF (k : Int) 0)) := ⟨rfl, .inr ⟨w1.heap.size, 2, #[.int .i64 1, .int .i64 0, .int .i64 (k : Int), .string ⟨#[]⟩, .int .i64 3, .int .i64 1, .int .i64 0, .string ⟨#[98, 101, 103, 105, 110, 99, 105, 100, 99, 104, 97, 114]⟩], rfl, by omega, heap_alloc_new w1 _, Nat.le_refl _, by decide, rfl, rfl⟩⟩
  have hb0 : Below w1.heap.size w1 (w1.alloc (.cells #[.int .i64 1, .int .i64 0, .int .i64 (k : Int), .string ⟨#[]⟩, .int .i64 3, .int .i64 1, .int .i64 0, .string ⟨#[98, 101, 103, 105, 110, 99, 105, 100, 99, 104, 97, 114]⟩] 30)) := (Below.refl _ _).alloc (Nat.le_refl _) _
  have HO0 := Lib.hid hown0
  have HB0 := Lib.hid hb0
  clear hown0 hb0
  go_wp2
  go_loopw [8, 9] (fun v i wr => ∃ (j : Nat) (out : List Tk), j ≤ m ∧ i = .int .i64 (j : Int) ∧ out.length = 2 + 2 * j ∧ Hid (out = cntF (k : Int) j) ∧ Hid (wr.ownsRow w1.heap.size 30 4 v out.length (tvs out)) ∧ Hid (Below w1.heap.size w1 wr)) (fun _ i _ => m - (intOf i).toNat)
  case atStart => exact ⟨0, cntF (k : Int) 0, Nat.zero_le _, rfl, rfl, Lib.hid rfl, HO0, HB0⟩
  case round =>
    obtain ⟨j, out, hj, rfl, hol, HE, HO, HB⟩ := hrel
    have hsz := HB.out.size
    by_cases hjm : j < m
    · have t0 : decide ((j : Int) < (k : Int) + (a : Int) - b) = true := by have := HM.out; simp; omega
      have hx : ((UInt8.ofNat j).toNat : Int) = (j : Int) := by rw [UInt8.toNat_ofNat_of_lt' (by simp [UInt8.size]; omega)]
      have hconv := run_str (P := Tryd.prog) (Sl.one wr (UInt8.ofNat j) 5) 1 42 9 5 Tryd.underlying42 Tryd.underlying5 Tryd.underlying9
      rw [hx] at hconv
      simp only [List.length_singleton] at hconv
      go_wp2_with (at_builtin; refine wpList_append_lies _ rfl _ _ _ rfl w1.heap.size 30 i0 (.agg #[.int .i64 0, .int .i64 0, .int .i64 0, .string ⟨#[]⟩]) 4 40 Tryd.underlying22 hi0 hz0 hz1 hz2 rfl (by omega) _ _ _ rfl ((HO.out.alloc _).alloc _) ⟨wr.heap.size + 1, 0, none⟩ 2 2 (tvs [cntH j, cntI j]) rfl rfl (World.news_of_block (heap_alloc_two wr _ _)) (tvs_one [cntH j, cntI j]) (by omega) (by unfold maxLen; omega) (by omega) (by simp; omega) _ rfl ?_; intro g cap w3 hown3 hgrow hat hgl)
      have hb3 : Below w1.heap.size w1 w3 := ((HB.out.alloc hsz _).alloc (by simp; omega) _).grown hgrow (by simp; omega) (fun q hq => (HO.out.lt q hq).1)
      have ec : cntF (k : Int) (j + 1) = out ++ [cntH j, cntI j] := by rw [HE.out]; unfold cntF; rw [cntB, List.append_assoc]
      refine ⟨⟨j + 1, cntF (k : Int) (j + 1), by omega, by go_num, (cntF_len _ _).trans (by omega), Lib.hid rfl, Lib.hid ?_, Lib.hid hb3⟩, by simp [intOf]; omega⟩
      rw [ec, tvs_append, List.length_append]
      first
        | exact hown3
        | (rw [hol] at hown3 ⊢; exact hown3)
        | (rw [hol]; exact hown3)
    · have t0 : decide ((j : Int) < (k : Int) + (a : Int) - b) = false := by have := HM.out; simp; omega
      obtain rfl : j = m := by omega
      go_wp2_with (at_builtin; refine wpList_append_lies _ rfl _ _ _ rfl w1.heap.size 30 i0 (.agg #[.int .i64 0, .int .i64 0, .int .i64 0, .string ⟨#[]⟩]) 4 40 Tryd.underlying22 hi0 hz0 hz1 hz2 rfl (by omega) _ _ _ rfl (HO.out.alloc _) ⟨wr.heap.size, 0, none⟩ 1 1 (tq ⟨3, 999, 0, wEnd⟩) rfl rfl (World.news_of_block (heap_alloc_new wr _)) (by intro u hu; exact tvs_one [⟨3, 999, 0, wEnd⟩] u (by simpa [tvs] using hu)) (by omega) (by unfold maxLen; omega) (by omega) (by simp; omega) _ rfl ?_; intro g cap w3 hown3 hgrow hat hgl)
      have hb3 : Below w1.heap.size w1 w3 := (HB.out.alloc hsz _).grown hgrow (by simp; omega) (fun q hq => (HO.out.lt q hq).1)
      have hown4 : w3.ownsRow w1.heap.size 30 4 (.slice (some ⟨g, 0, none⟩) (out.length + 1) cap) (out ++ ([⟨3, 999, 0, wEnd⟩] : List Tk)).length (tvs (out ++ ([⟨3, 999, 0, wEnd⟩] : List Tk))) := own_tok hown3 rfl
      have ec : out ++ ([⟨3, 999, 0, wEnd⟩] : List Tk) = cntL (k : Int) j := by rw [HE.out]; rfl
      have hst3 : St w3 w3.heap.size (some ⟨g, 0, none⟩) (cntL (k : Int) j) := by
        rw [ec] at hown4
        obtain ⟨c', _, _, A', hv, hs⟩ := St.of_own hown4
        injection hv with e1 _ _
        subst e1
        exact hs
      have hT3 := HT1.out.below' hb3
      have hP := Parse_any (L := cntL (k : Int) j) (en := 1000) (c := cap) w3 hst3 hT3.sec (.inl (cntL_sm (k : Int) j (by omega)))
      rw [cntL_len] at hP
      have el : 3 + 2 * j = 2 + 2 * j + 1 := by omega
      rw [el] at hP
      have HP := Lib.hid hP
      have HR := Lib.hid (cnt_parse (k := (k : Int)) (m := j) (by omega) (by omega))
      have HB3 := Lib.hid hb3
      clear hP hst3 hown4 hown3 hgrow hat hb3 hT3 ec HE HO HB
      go_wp2_with fail
      refine HP.out.mono ?_
      rintro r w4 ⟨hb4, h4⟩
      rw [HR.out] at h4
      have hbz : Below w.heap.size w w4 := HB1.out.trans ((HB3.out.trans (hb4.mono HB3.out.size)).mono HB1.out.size)
      by_cases h1 : 100 < k
      · rw [if_pos (by omega)] at h4
        rcases h4 with ⟨a5, e5, q, _, rfl⟩ | ⟨_, _, _, _, q, _⟩
        · injection q with q1 q2
          subst q1 q2
          have d1 : decide ((100 : Int) < (k : Int)) = true := by simp; omega
          go_wp2
          go_ret
          exact ⟨rfl, hbz⟩
        · cases q
      · rw [if_neg (by omega)] at h4
        have d1 : decide ((100 : Int) < (k : Int)) = false := by simp; omega
        by_cases h2 : j = k
        · have dm : max (0 : Int) ((k : Int) + (a : Int) - b) = (k : Int) := by have := HM.out; omega
          rw [if_pos (by omega)] at h4
          rcases h4 with ⟨_, _, q, _⟩ | ⟨x, j2, A', c', q, rfl, hix⟩
          · cases q
          · injection q with q1 _
            subst q1
            obtain ⟨b5, o5, c5, A5, ce5, hv, hbl5, g1, g7⟩ := cnt_cells hix
            rw [cntE_len] at g7
            injection hv with hA _ _
            subst hA
            simp only [List.length_singleton]
            clear hix HP HR
            go_wp2
            go_ret
            exact ⟨rfl, hbz⟩
        · have dm : max (0 : Int) ((k : Int) + (a : Int) - b) ≠ (k : Int) := by have := HM.out; omega
          rw [if_neg (by omega)] at h4
          rcases h4 with ⟨a5, e5, q, _, rfl⟩ | ⟨_, _, _, _, q, _⟩
          · injection q with q1 q2
            subst q1 q2
            go_wp2
            go_ret
            exact ⟨rfl, hbz⟩
          · cases q
end Go.Proofs.YthcnjiigkmljnaaDoor
