/-
  The walk of the statement LexInts: a number that is written is read.
-/
import Derived.Test.YtpobiaibkmmjpaaDoorLexAwake
namespace Go.Proofs.YtpobiaibkmmjpaaDoor
open Go.RowKit

theorem dig_toNat {m : Nat} (h : m < 10) : (UInt8.ofNat (48 + m)).toNat = 48 + m := UInt8.toNat_ofNat_of_lt' (by show _ < 256; omega)
theorem dig_dg {m : Nat} (h : m < 10) : dg (UInt8.ofNat (48 + m)) = true := by rw [dg_iff, dig_toNat h]; omega
theorem valF_step {k : Nat} {o : List UInt8} : valF (k / 10) (UInt8.ofNat (48 + k % 10) :: o) = valF k o := by
  rw [valF_cons, dig_toNat (by omega)]
  congr 1
  omega

/-- What the loop's rounds take down. -/
def left10 (s k : Value) : Nat := (intOf k).toNat + (match s with | .string b => if b.size = 0 then 1 else 0 | _ => 0)
theorem left10_of (o : List UInt8) (m : Nat) : left10 (.string (str o)) (.int .i64 (m : Int)) = m + (if o.length = 0 then 1 else 0) := by
  unfold left10
  simp [intOf, str_size]
theorem in_next {o : List UInt8} {v m c : Nat} (h : okD o = true) (hv : val o = v) (hc : c < 10) (hm : m = v * 10 + c) : (m ≤ 2147483647 → inN (o ++ [UInt8.ofNat (48 + c)]) = (m : Int) ∧ inE (o ++ [UInt8.ofNat (48 + c)]) = 0) ∧ (2147483647 < m → inN (o ++ [UInt8.ofNat (48 + c)]) = 0 ∧ inE (o ++ [UInt8.ofNat (48 + c)]) = 4) := by
  have h1 := in_digits (okD_snoc h (dig_dg hc))
  have h2 : val (o ++ [UInt8.ofNat (48 + c)]) = m := by rw [val_snoc, dig_toNat hc, hv, hm]; omega
  rw [h2] at h1
  exact h1

set_option maxHeartbeats 4000000 in
theorem lexInts_walk (n d : Int) (w : World) (ht : Tab w) :
    Calls Tryd.prog 8 #[.int .i64 n, .int .i64 d] w fun e w' => e = .returned (.bool true) ∧ Below w.heap.size w w' := by
  obtain ⟨v, hv⟩ : ∃ v : Nat, bits .and .i64 n 2147483647 = (v : Int) := ⟨(n % 2147483648).toNat, by rw [i64_mask31]; omega⟩
  have hv1 : v ≤ 2147483647 := by have := i64_mask31 n; omega
  obtain ⟨q, hq⟩ : ∃ q : Nat, bits .and .i64 d 65535 = (q : Int) := ⟨(d % 65536).toNat, by rw [i64_mask16]; omega⟩
  have hq1 : q < 65536 := by have := i64_mask16 d; omega
  go_enter Tryd.func8, Tryd.ntmps8
  go_wp2_with fail
  refine (awake_any _ ht).mono ?_
  rintro e w1 ⟨rfl, hb1⟩
  go_wp2_with fail
  go_loopw [7, 8] (fun s k wr => ∃ (m : Nat) (o : List UInt8), m ≤ v ∧ o.length + m ≤ v + 1 ∧ s = .string (str o) ∧ k = .int .i64 m ∧ Hid (valF m o = v) ∧ Hid (∀ b ∈ o, dg b = true) ∧ Hid (o = [] → m = v) ∧ Below w.heap.size w wr) (fun s k _ => left10 s k)
  case atStart => exact ⟨v, [], Nat.le_refl _, by simp, rfl, rfl, Lib.hid rfl, Lib.hid (by simp), Lib.hid (fun _ => rfl), hb1⟩
  case round =>
    obtain ⟨m, o, hm, hol, rfl, rfl, HV, HD, HO, hbel⟩ := hrel
    have hsz := hbel.size
    by_cases hgo : 0 < m ∨ o = []
    · obtain ⟨x, hx⟩ : ∃ x, x = UInt8.ofNat (48 + m % 10) := ⟨_, rfl⟩
      have hxv : (48 : Int) + (m : Int) % 10 = (x.toNat : Int) := by rw [hx, dig_toNat (by omega)]; omega
      have hx1 := x.toNat_lt
      have hsl4 := Sl.one wr x 5
      have hcv : (convert 35 9 (.slice (some ⟨wr.heap.size, 0, none⟩) 1 1)).run Tryd.prog (wr.alloc (.cells #[.int .u8 (x.toNat : Int)] 5)) = .ok (.string (str [x])) (wr.alloc (.cells #[.int .u8 (x.toNat : Int)] 5)) := conv8 hsl4 1
      have hap : str [x] ++ str o = str (x :: o) := str_append [x] o
      have hsum : ([x] : List UInt8).length + o.length ≤ 9223372036854775807 := by simp; omega
      have hst : valF (m / 10) (x :: o) = v := by rw [hx, valF_step]; exact HV.out
      have hdd : ∀ b ∈ x :: o, dg b = true := fun b hb => by
        rcases List.mem_cons.1 hb with rfl | hb
        · rw [hx]; exact dig_dg (by omega)
        · exact HD.out b hb
      have hb4 : Below w.heap.size w (wr.alloc (.cells #[.int .u8 (x.toNat : Int)] 5)) := hbel.alloc hsz _
      have HST := Lib.hid hst
      have HDD := Lib.hid hdd
      have hle : (x :: o).length + m / 10 ≤ v + 1 := by
        rcases hgo with h | h
        · simp; omega
        · have := HO.out h; subst h; simp; omega
      have hlt : left10 (.string (str (x :: o))) (.int .i64 ((m / 10 : Nat) : Int)) < left10 (.string (str o)) (.int .i64 (m : Int)) := by
        rw [left10_of, left10_of]
        rcases hgo with h | h
        · simp; omega
        · have := HO.out h; subst h; simp; omega
      have hdiv : ((m / 10 : Nat) : Int) = (m : Int) / 10 := by omega
      rw [hdiv] at hlt
      have HLT := Lib.hid hlt
      have hne2 : x :: o ≠ [] := by simp
      have HNE := Lib.hid hne2
      by_cases hm0 : 0 < m
      · have t1 : decide ((0 : Int) < (m : Int)) = true := by simp; omega
        clear hx hsl4 hst hdd hlt hgo hne2
        generalize x :: o = o2 at *
        go_wp2
        go_roundw
        case rel => exact ⟨m / 10, o2, by omega, hle, rfl, by go_num, HST, HDD, Lib.hid (fun h => absurd h HNE.out), hb4⟩
        case measure => exact HLT.out
      · obtain rfl : m = 0 := by omega
        have ho : o = [] := by rcases hgo with h | h; omega; exact h
        subst ho
        have hx48 : x = 48 := by rw [hx]; rfl
        subst hx48
        have hcv0 : (convert 35 9 (.slice (some ⟨wr.heap.size, 0, none⟩) 1 1)).run Tryd.prog (wr.alloc (.cells #[.int .u8 48] 5)) = .ok (.string (str [48])) (wr.alloc (.cells #[.int .u8 48] 5)) := hcv
        have hb5 : Below w.heap.size w (wr.alloc (.cells #[.int .u8 48] 5)) := hb4
        have hap0 : str [48] ++ str [] = str [48] := hap
        clear hcv hb4 hap hxv hx hsl4 hst hdd hlt hgo hne2 hx1 hdiv hsum
        go_wp2
        go_roundw
        case rel => exact ⟨0, [48], by omega, hle, rfl, by go_num, HST, HDD, Lib.hid (fun h => absurd h HNE.out), hb5⟩
        case measure => exact HLT.out
    · have hm0 : m = 0 := by
        rcases Nat.eq_zero_or_pos m with h | h
        · exact h
        · exact absurd (.inl h) hgo
      subst hm0
      have hne : o ≠ [] := fun h => hgo (.inr h)
      have hval : val o = v := HV.out
      have hok : okD o = true := okD_iff.2 ⟨hne, HD.out⟩
      obtain ⟨c, hc⟩ : ∃ c, c = q % 10 := ⟨_, rfl⟩
      have hc10 : c < 10 := by omega
      have hcq : (q : Int) % 10 = (c : Int) := by omega
      obtain ⟨y, hy⟩ : ∃ y, y = UInt8.ofNat (48 + c) := ⟨_, rfl⟩
      have hyv : (48 : Int) + (c : Int) = (y.toNat : Int) := by rw [hy, dig_toNat hc10]; omega
      have hy1 := y.toNat_lt
      obtain ⟨M, hM⟩ : ∃ M, M = v * 10 + c := ⟨_, rfl⟩
      have hMi : (v : Int) * 10 + (c : Int) = (M : Int) := by omega
      have hMb : M ≤ 21474836479 := by omega
      have hd1 := (in_digits hok).1 (by omega)
      have hd2 := in_minus hok (by omega)
      have hd3 := in_next hok hval hc10 hM
      rw [← hy] at hd3
      rw [hval] at hd1 hd2
      have hol' : o.length ≤ 2147483648 := by omega
      have k1 : ∀ w, Calls Tryd.prog 13 #[.string (str o)] w fun e w' => e = .returned (.tuple #[.int .i64 (v : Int), .int .i64 0]) ∧ Below w.heap.size w w' := fun w => by
        have := Int_any o w (by omega)
        rwa [hd1.1, hd1.2] at this
      have k2 : ∀ w, Calls Tryd.prog 13 #[.string (str (45 :: o))] w fun e w' => e = .returned (.tuple #[.int .i64 (-(v : Int)), .int .i64 0]) ∧ Below w.heap.size w w' := fun w => by
        have := Int_any (45 :: o) w (by simp; omega)
        rwa [hd2.1, hd2.2] at this
      have k3 : ∀ w, Calls Tryd.prog 13 #[.string (str (o ++ [y]))] w fun e w' => e = .returned (.tuple #[.int .i64 (inN (o ++ [y])), .int .i64 (inE (o ++ [y]))]) ∧ Below w.heap.size w w' := fun w => Int_any (o ++ [y]) w (by simp; omega)
      have hap2 : ByteArray.mk #[45] ++ str o = str (45 :: o) := str_append [45] o
      have hap3 : str o ++ str [y] = str (o ++ [y]) := str_append o [y]
      have t0 : o.isEmpty = false := by simpa using hne
      have hl1 : o.length + 1 ≤ 9223372036854775807 := by omega
      have HK1 := Lib.hid k1
      have HK2 := Lib.hid k2
      have hsel : (M ≤ 2147483647 ∧ inN (o ++ [y]) = (M : Int) ∧ inE (o ++ [y]) = 0) ∨ (2147483647 < M ∧ inN (o ++ [y]) = 0 ∧ inE (o ++ [y]) = 4) := by
        rcases Nat.lt_or_ge 2147483647 M with h | h
        · exact .inr ⟨h, hd3.2 h⟩
        · exact .inl ⟨h, hd3.1 h⟩
      clear hne hval hok hc hy hM hd1 hd2 hd3 k1 k2 hgo
      generalize o ++ [y] = o3 at *
      generalize 45 :: o = o2 at *
      rcases hsel with ⟨hs, e1, e2⟩ | ⟨hs, e1, e2⟩
      · rw [e1, e2] at k3
        have HK3 := Lib.hid k3
        have s1 : decide ((M : Int) ≤ 2147483647) = true := by simp; omega
        clear k3 e1 e2
        go_wp2_with fail
        refine (HK1.out _).mono ?_
        rintro e w2 ⟨rfl, hb2⟩
        have hb2' := hbel.trans (hb2.mono hbel.size)
        go_wp2_with fail
        refine (HK2.out _).mono ?_
        rintro e w3 ⟨rfl, hb3⟩
        have hb3' := hb2'.trans (hb3.mono hb2'.size)
        have hsl4 := Sl.one w3 y 5
        have hcv : (convert 35 9 (.slice (some ⟨w3.heap.size, 0, none⟩) 1 1)).run Tryd.prog (w3.alloc (.cells #[.int .u8 (y.toNat : Int)] 5)) = .ok (.string (str [y])) (w3.alloc (.cells #[.int .u8 (y.toNat : Int)] 5)) := conv8 hsl4 1
        have hb4 : Below w.heap.size w (w3.alloc (.cells #[.int .u8 (y.toNat : Int)] 5)) := hb3'.alloc hb3'.size _
        clear hsl4
        go_wp2_with fail
        refine (HK3.out _).mono ?_
        rintro e w5 ⟨rfl, hb5⟩
        go_wp2
        go_ret
        exact ⟨rfl, hb4.trans (hb5.mono hb4.size)⟩
      · rw [e1, e2] at k3
        have HK3 := Lib.hid k3
        have s1 : decide ((M : Int) ≤ 2147483647) = false := by simp; omega
        have s2 : decide ((2147483647 : Int) < (M : Int)) = true := by simp; omega
        clear k3 e1 e2
        go_wp2_with fail
        refine (HK1.out _).mono ?_
        rintro e w2 ⟨rfl, hb2⟩
        have hb2' := hbel.trans (hb2.mono hbel.size)
        go_wp2_with fail
        refine (HK2.out _).mono ?_
        rintro e w3 ⟨rfl, hb3⟩
        have hb3' := hb2'.trans (hb3.mono hb2'.size)
        have hsl4 := Sl.one w3 y 5
        have hcv : (convert 35 9 (.slice (some ⟨w3.heap.size, 0, none⟩) 1 1)).run Tryd.prog (w3.alloc (.cells #[.int .u8 (y.toNat : Int)] 5)) = .ok (.string (str [y])) (w3.alloc (.cells #[.int .u8 (y.toNat : Int)] 5)) := conv8 hsl4 1
        have hb4 : Below w.heap.size w (w3.alloc (.cells #[.int .u8 (y.toNat : Int)] 5)) := hb3'.alloc hb3'.size _
        clear hsl4
        go_wp2_with fail
        refine (HK3.out _).mono ?_
        rintro e w5 ⟨rfl, hb5⟩
        go_wp2
        go_ret
        exact ⟨rfl, hb4.trans (hb5.mono hb4.size)⟩
end Go.Proofs.YtpobiaibkmmjpaaDoor
