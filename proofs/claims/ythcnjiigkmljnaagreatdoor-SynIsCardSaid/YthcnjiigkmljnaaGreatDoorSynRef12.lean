/-
  The document's own parser: word.
-/
import Derived.Test.YthcnjiigkmljnaaGreatDoorSynRef11
import Derived.Test.YthcnjiigkmljnaaGreatDoorSynWord0
import Derived.Test.YthcnjiigkmljnaaGreatDoorSynItem0
namespace Go.Proofs.YthcnjiigkmljnaaGreatDoor
open Go.RowKit

@[go_sem] theorem bldJ4 (k at_ : Int) (s : ByteArray) (a b n : Int) (z : ByteArray) (w : World) : (Instr.build 61 #[(0, .int .i64 k), (1, .int .i64 at_), (2, .string s), (3, .agg #[.int .i64 a, .int .i64 b, .int .i64 n, .string z])]).run Tryz.prog w = .ok (.agg #[.int .i64 k, .int .i64 at_, .string s, .int .i64 a, .int .i64 b, .int .i64 n, .string z, .slice none 0 0]) w := run_build w 61 _ _ (by kernel_rfl)
@[go_sem] theorem bldJ3 (k at_ : Int) (s : ByteArray) (w : World) : (Instr.build 61 #[(0, .int .i64 k), (1, .int .i64 at_), (2, .string s)]).run Tryz.prog w = .ok (.agg #[.int .i64 k, .int .i64 at_, .string s, .int .i64 0, .int .i64 0, .int .i64 0, .string ⟨#[]⟩, .slice none 0 0]) w := run_build w 61 _ _ (by kernel_rfl)
@[go_sem] theorem bldJ5 (k at_ : Int) (A : Option Addr) (n c : Nat) (w : World) : (Instr.build 61 #[(0, .int .i64 k), (1, .int .i64 at_), (4, .slice A n c)]).run Tryz.prog w = .ok (.agg #[.int .i64 k, .int .i64 at_, .string ⟨#[]⟩, .int .i64 0, .int .i64 0, .int .i64 0, .string ⟨#[]⟩, .slice A n c]) w := run_build w 61 _ _ (by kernel_rfl)
set_option maxRecDepth 100000 in
set_option maxHeartbeats 4000000 in
theorem pahead_len {w : World} {P : Nat} {A : Option Addr} {c : Nat} {L : List Tk} {i : Nat} {en a e : Int} (h : Ps w P A c L i en a e) (hi : i ≤ L.length) (hL1 : L.length ≤ 1048576) (n : Nat) (hn : 1 ≤ n) (hn2 : n ≤ 2) :
    Calls Tryz.prog 28 #[.pointer (some ⟨P, 0, none⟩), .int .i64 (n : Int)] w fun r w' => r = .returned (tv (backT L i n)) ∧ Ps w' P A c L i en a e ∧ Fr w w' P := by
  have c0 := h.c0
  have c1 := h.c1
  have hlt := h.lt
  unfold backT
  by_cases hb : n ≤ i ∧ i - n < L.length
  · rw [if_pos hb]
    obtain ⟨b, o, hAe, hbP, hcl⟩ := h.tl (by omega)
    obtain ⟨g0, g1, g2, g3⟩ := hcl (i - n) hb.2
    subst hAe
    have HP := Lib.hid h
    clear h hcl
    unfold tv
    generalize (tg L (i - n)).kind = q1 at *
    generalize (tg L (i - n)).at_ = q2 at *
    generalize (tg L (i - n)).n = q3 at *
    generalize (tg L (i - n)).s = q4 at *
    have ek : (i : Int) - (n : Int) = ((i - n : Nat) : Int) := by omega
    obtain ⟨hb1, hb2⟩ := hb
    generalize i - n = k at *
    have t0 : decide (((k : Nat) : Int) < 0) = false := by simp
    have t1 : decide (L.length ≤ k) = false := by simp; omega
    have hbw : b < w.heap.size := by omega
    have hPw : P ≠ w.heap.size := by omega
    go_enter Tryz.func28, Tryz.ntmps28
    go_wp2
    refine bodyPost_ret (v := _) (by simp [results, Tryz.results28, go_sem]; try rfl) rfl ⟨rfl, HP.out.alloc _, (Fr.refl w P).alloc _⟩
  · rw [if_neg hb]
    have HP := Lib.hid h
    clear h
    have t0 : decide ((i : Int) - (n : Int) < 0) = true := by simp; omega
    clear hb
    go_enter Tryz.func28, Tryz.ntmps28
    go_wp2
    refine bodyPost_ret (v := _) (by simp [results, Tryz.results28, go_sem]; try rfl) rfl ⟨rfl, HP.out.alloc _, (Fr.refl w P).alloc _⟩
/-- A block of four cells: a token. -/
structure Tc (w : World) (S : Nat) (k a n : Int) (s : List UInt8) : Prop where
  c0 : w.cell? ⟨S, 0, none⟩ = some (.int .i64 k)
  c1 : w.cell? ⟨S, 1, none⟩ = some (.int .i64 a)
  c2 : w.cell? ⟨S, 2, none⟩ = some (.int .i64 n)
  c3 : w.cell? ⟨S, 3, none⟩ = some (.string (str s))
  lt : S < w.heap.size
section
variable {w w' : World} {S P : Nat} {k a n : Int} {s : List UInt8}
theorem Tc.fr (h : Tc w S k a n s) (hf : Fr w w' P) (hne : S ≠ P) : Tc w' S k a n s :=
  ⟨(hf.cell ⟨S, 0, none⟩ h.lt hne).trans h.c0, (hf.cell ⟨S, 1, none⟩ h.lt hne).trans h.c1, (hf.cell ⟨S, 2, none⟩ h.lt hne).trans h.c2, (hf.cell ⟨S, 3, none⟩ h.lt hne).trans h.c3, Nat.lt_of_lt_of_le h.lt hf.size⟩
theorem Tc.over (h : Tc w S k a n s) (hb : Below w.heap.size w w') : Tc w' S k a n s :=
  ⟨(hb.cell (p := ⟨S, 0, none⟩) h.lt).trans h.c0, (hb.cell (p := ⟨S, 1, none⟩) h.lt).trans h.c1, (hb.cell (p := ⟨S, 2, none⟩) h.lt).trans h.c2, (hb.cell (p := ⟨S, 3, none⟩) h.lt).trans h.c3, Nat.lt_of_lt_of_le h.lt hb.size⟩
theorem Tc.new (w : World) (k a n : Int) (s : List UInt8) (t : TypeId) : Tc (w.alloc (.cells #[.int .i64 k, .int .i64 a, .int .i64 n, .string (str s)] t)) w.heap.size k a n s := ⟨by simp, by simp, by simp, by simp, by simp⟩
end
theorem Ix.one (w : World) (im : Im) (ve : Value) (t : TypeId) {X : Nat → Prop} (hX : ¬ X w.heap.size) (hx : Ex w X ve im.ents) :
    Ix (w.alloc (.cells #[.int .i64 im.kind, .int .i64 im.at_, .string (str im.name), .int .i64 im.val.kind, .int .i64 im.val.at_, .int .i64 im.val.n, .string (str im.val.s), ve] t)) X (.slice (some ⟨w.heap.size, 0, none⟩) 1 1) [im] := by
  refine ⟨[(im, ve)], rfl, ⟨some ⟨w.heap.size, 0, none⟩, 1, rfl, ⟨Nat.le_refl _, fun h => by cases h⟩, fun _ => ⟨w.heap.size, 0, rfl, by simp, hX, fun j x hj i u hu => ?_⟩⟩, fun p hp => ?_⟩
  · cases j with
    | zero =>
      obtain rfl : (im, ve) = x := by simpa using hj
      have := World.news_of_block (heap_alloc_new w (.cells (iq (im, ve)).toArray t)) i u hu
      rw [addr_add] at this
      have e : 0 + 0 * 8 + i = 0 + i := by omega
      rw [e]
      exact this
    | succ j => simp at hj
  · obtain rfl : p = (im, ve) := by simpa using hp
    exact hx.to (Kp.of_below ((Below.refl _ _).alloc (Nat.le_refl _) _)) (fun _ _ h => h)
theorem Ex.shape {w : World} {X : Nat → Prop} {v : Value} {es : List En} (h : Ex w X v es) : ∃ A n c, v = .slice A n c := by
  obtain ⟨d, _, ⟨A, c, hv, _⟩, _⟩ := h
  exact ⟨A, _, c, hv⟩
theorem word_of_sec {L : List Tk} {en kind n tt a : Int} {i i6 : Nat} {a6 e6 : Int} {es : List En} (hw : wordT L en i = (secT L en kind n [] (i + 1)).then fun x j => .ok [(⟨kind, tt, [], noT, x⟩ : Im)] j) (hD : ((0 : Int) ≠ 0 ∧ a6 = a ∧ e6 = 0) ∨ ((0 : Int) = 0 ∧ SecD L en kind n (i + 1) a es i6 a6 e6)) :
    (e6 ≠ 0 ∧ wordT L en i = .no a6 e6) ∨ (e6 = 0 ∧ a6 = a ∧ wordT L en i = .ok [(⟨kind, tt, [], noT, es⟩ : Im)] i6) := by
  rcases hD with ⟨h, _⟩ | ⟨_, ⟨h1, h2⟩ | ⟨h1, h2, h3⟩⟩
  · exact absurd rfl h
  · exact .inl ⟨h1, by rw [hw, h2, then_no]⟩
  · exact .inr ⟨h1, h2, by rw [hw, h3, then_ok]⟩
theorem word_of_bad {L : List Tk} {en kind n a0 e0 a : Int} {i i6 : Nat} {a6 e6 : Int} {es : List En} {x : List Im} (hw : wordT L en i = .no a0 e0) (h0 : e0 ≠ 0) (hD : (e0 ≠ 0 ∧ a6 = a0 ∧ e6 = e0) ∨ (e0 = 0 ∧ SecD L en kind n (i + 1) a0 es i6 a6 e6)) :
    (e6 ≠ 0 ∧ wordT L en i = .no a6 e6) ∨ (e6 = 0 ∧ a6 = a ∧ wordT L en i = .ok x i6) := by
  rcases hD with ⟨h1, h2, h3⟩ | ⟨h1, _⟩
  · subst h2 h3; exact .inl ⟨h1, hw⟩
  · exact absurd h1 h0
/-- What word leaves. -/
def Pw (w : World) (P : Nat) (A : Option Addr) (c : Nat) (L : List Tk) (en : Int) (i : Nat) (a : Int) (r : Ending) (w' : World) : Prop :=
  ∃ (v : Value) (x : List Im) (i' : Nat) (a' e' : Int), r = .returned v ∧ x.length ≤ 1 ∧ (x = [] → v = .slice none 0 0) ∧ Ix w' (fun b => b < w.heap.size) v x ∧ Ps w' P A c L i' en a' e' ∧ i' ≤ L.length ∧ Fr w w' P ∧ ((e' ≠ 0 ∧ wordT L en i = .no a' e') ∨ (e' = 0 ∧ a' = a ∧ wordT L en i = .ok x i'))
section
variable {w : World} {P : Nat} {A : Option Addr} {c : Nat} {L : List Tk} {i : Nat} {en a : Int}
set_option maxRecDepth 100000 in
set_option maxHeartbeats 4000000 in
theorem pword_any (h : Ps w P A c L i en a 0) (hi : i < L.length) (hL1 : L.length ≤ 1048576) (hs : Sm L ∨ Idle (tg L i).s) :
    Calls Tryz.prog 18 #[.pointer (some ⟨P, 0, none⟩), tv (tg L i)] w (Pw w P A c L en i a) := by
  have hlt := h.lt
  have hdef := @wordT_def L en i
  have huse := @wordT_use L en i
  have hnon := @wordT_none L en i
  have hsec := @wordT_sec L en i
  have hfull : wordT L en i = wordT L en i := rfl
  have hA1 := pahead_len (n := 1) (h.alloc (.cells #[.int .i64 (tg L i).kind, .int .i64 (tg L i).at_, .int .i64 (tg L i).n, .string (str (tg L i).s)] 42)) (Nat.le_of_lt hi) hL1 (by decide) (by decide)
  have hA2 : ∀ w', Ps w' P A c L i en a 0 → Calls Tryz.prog 28 #[.pointer (some ⟨P, 0, none⟩), .int .i64 2] w' fun r w'' => r = .returned (tv (backT L i 2)) ∧ Ps w'' P A c L i en a 0 ∧ Fr w' w'' P := fun w' hp => pahead_len (n := 2) hp (Nat.le_of_lt hi) hL1 (by decide) (by decide)
  generalize htg : tg L i = t at *
  generalize hta : backT L i 1 = ta at *
  generalize htb : backT L i 2 = tb at *
  obtain ⟨tk, tt, tn, ts⟩ := t
  obtain ⟨ak, aa, an, as_⟩ := ta
  obtain ⟨bk, ba, bn, bs⟩ := tb
  unfold tv at *
  simp only at *
  have hT0 := Tc.new w tk tt tn ts 42
  have hF0 : Fr w (w.alloc (.cells #[.int .i64 tk, .int .i64 tt, .int .i64 tn, .string (str ts)] 42)) P := (Fr.refl w P).alloc _
  have HA1 := Lib.hid hA1
  have HA2 := Lib.hid hA2
  have HT0 := Lib.hid hT0
  have HF0 := Lib.hid hF0
  have HDef := Lib.hid hdef
  have HUse := Lib.hid huse
  have HNon := Lib.hid hnon
  have HSec := Lib.hid hsec
  have Htg := Lib.hid htg
  have Hta := Lib.hid hta
  have Htb := Lib.hid htb
  have Hs := Lib.hid hs
  clear hA1 hA2 hT0 hF0 hdef huse hnon hsec hfull h htg hta htb hs
  go_enter Tryz.func18, Tryz.ntmps18
  go_wp2_with fail
  refine HA1.out.mono ?_
  rintro r w1 ⟨rfl, hp1, hf1⟩
  have hT1 := HT0.out.fr hf1 (show w.heap.size ≠ P by omega)
  have hF1 := HF0.out.trans hf1
  have hbA : Below w1.heap.size w1 (w1.alloc (.cells #[.int .i64 ak, .int .i64 aa, .int .i64 an, .string (str as_)] 42)) := (Below.refl _ _).alloc (Nat.le_refl _) _
  have hTa := Tc.new w1 ak aa an as_ 42
  have hT1' := hT1.over hbA
  have hF1' := hF1.over hbA
  have hp1' := hp1.over hbA
  have HP1 := Lib.hid hp1'
  have HT1 := Lib.hid hT1'
  have HTa := Lib.hid hTa
  have HF1 := Lib.hid hF1'
  have hsz1 := hT1.lt
  have hPw1 := hp1.lt
  clear hT1 hF1 hbA hTa hT1' hF1' hp1 hp1' hf1 HA1 HT0 HF0
  go_wp2_with fail
  refine (HA2.out _ HP1.out).mono ?_
  rintro r w2 ⟨rfl, hp2, hf2⟩
  have hsz2 := hf2.size
  simp at hsz2
  have hbB : Below w2.heap.size w2 (w2.alloc (.cells #[.int .i64 bk, .int .i64 ba, .int .i64 bn, .string (str bs)] 42)) := (Below.refl _ _).alloc (Nat.le_refl _) _
  have HT2 := Lib.hid ((HT1.out.fr hf2 (by omega)).over hbB)
  have HTa2 := Lib.hid ((HTa.out.fr hf2 (by omega)).over hbB)
  have HTb := Lib.hid (Tc.new w2 bk ba bn bs 42)
  have HF2 := Lib.hid ((HF1.out.trans hf2).over hbB)
  have HP2 := Lib.hid (hp2.over hbB)
  have y3 := HT2.out.c3
  have hsw : w2.heap.size < (w2.alloc (.cells #[.int .i64 bk, .int .i64 ba, .int .i64 bn, .string (str bs)] 42)).heap.size := by simp
  clear hp2 hf2 HA2 HP1 HT1 HTa HF1
  go_wp2_with fail
  refine (begun_any ts _).mono ?_
  rintro r w3 ⟨rfl, hb3⟩
  have hT3 := HT2.out.over hb3
  have hA3 := HTa2.out.over hb3
  have hB3 := HTb.out.over hb3
  have hF3 := HF2.out.over hb3
  have hP3 := HP2.out.over hb3
  have c1 := hP3.c1
  have z1 := hP3.z1
  have hsz3 := hb3.size
  have hpn := hP3.next (i + 1)
  have hfs : Fr w3 (w3.setCell ⟨P, 1, none⟩ (.int .i64 ((i + 1 : Nat) : Int))) P := (Fr.refl w3 P).set 1 _
  have eir : (((i + 1 : Nat) : Int)) = (i : Int) + 1 := by omega
  rw [eir] at hpn hfs
  have HT4 := Lib.hid (hT3.fr hfs (by omega))
  have HA4 := Lib.hid (hA3.fr hfs (by omega))
  have HB4 := Lib.hid (hB3.fr hfs (by omega))
  have HF4 := Lib.hid (hF3.trans hfs)
  have HP4 := Lib.hid hpn
  have hs4 := hfs.size
  have hg1 : w.heap.size < w1.heap.size := by omega
  have hg2 : w1.heap.size < w2.heap.size := by omega
  have hg3 : w2.heap.size < w3.heap.size := by omega
  clear hT3 hA3 hB3 hF3 hP3 hpn hfs HT2 HTa2 HTb HF2 HP2 y3 hb3 hbB
  generalize hkd : begunT ts = kd at *
  have Hkd := Lib.hid hkd
  clear hkd
  have hg4 : w2.heap.size < (w3.setCell ⟨P, 1, none⟩ (.int .i64 ((i : Int) + 1))).heap.size := by omega
  clear hs4
  generalize hgT1 : w1.heap.size = g1 at *
  generalize hgT2 : w2.heap.size = g2 at *
  have y3 := HT4.out.c3
  have y1 := HT4.out.c1
  have b0 := HB4.out.c0
  have b3 := HB4.out.c3
  have x0 := HA4.out.c0
  have x1 := HA4.out.c1
  have x2 := HA4.out.c2
  have x3 := HA4.out.c3
  have hX : ∀ W : World, w.heap.size < W.heap.size → ¬ (fun b => b < w.heap.size) W.heap.size := fun W h1 h2 => by have : W.heap.size < w.heap.size := h2; omega
  have hs4 : (w3.setCell ⟨P, 1, none⟩ (.int .i64 ((i : Int) + 1))).heap.size = w3.heap.size := by simp
  have hg5 : w.heap.size < (w3.setCell ⟨P, 1, none⟩ (.int .i64 ((i : Int) + 1))).heap.size := by omega
  have hnil : wordT L en i = .ok [] (i + 1) → Pw w P A c L en i a (.returned (.slice none 0 0)) (w3.setCell ⟨P, 1, none⟩ (.int .i64 ((i : Int) + 1))) := fun hw => ⟨_, [], i + 1, a, 0, rfl, Nat.zero_le _, fun _ => rfl, Ix.nil, HP4.out, hi, HF4.out, .inr ⟨rfl, rfl, hw⟩⟩
  have HNil := Lib.hid hnil
  clear hnil
  by_cases h1 : ts = [100, 101, 102]
  · have e1 : (ts == [100, 101, 102]) = true := by rw [h1]; rfl
    have e2 : (ts == [117, 115, 101, 99, 109, 97, 112]) = false := by rw [h1]; rfl
    have hkz : kd = 0 := by rw [← Hkd.out, h1]; decide
    have hwd := HDef.out h1
    unfold defT at hwd
    simp only at hwd
    have HWd := Lib.hid hwd
    clear hwd
    subst hkz
    by_cases hc : bk = 2 ∧ (ak = 1 ∨ ak = 2 ∨ ak = 5)
    · have hix := Ix.one (w3.setCell ⟨P, 1, none⟩ (.int .i64 ((i : Int) + 1))) (⟨0, tt, bs, ⟨ak, aa, an, as_⟩, []⟩ : Im) (.slice none 0 0) 61 (X := fun b => b < w.heap.size) (hX _ hg5) Ex.nil
      rw [hs4] at hix
      simp only at hix
      have HFin : Hid (Pw w P A c L en i a (.returned (.slice (some ⟨w3.heap.size, 0, none⟩) 1 1)) ((w3.setCell ⟨P, 1, none⟩ (.int .i64 ((i : Int) + 1))).alloc (.cells #[.int .i64 0, .int .i64 tt, .string (str bs), .int .i64 ak, .int .i64 aa, .int .i64 an, .string (str as_), .slice none 0 0] 61))) := Lib.hid ⟨_, _, i + 1, a, 0, rfl, Nat.le_refl _, (fun h => by cases h), hix, HP4.out.alloc _, hi, HF4.out.alloc _, .inr ⟨rfl, rfl, by rw [HWd.out, if_pos hc]⟩⟩
      clear hix
      have tb : (bk == 2) = true := by simpa using hc.1
      have hta : (ak == 1) = true ∨ ((ak == 1) = false ∧ (ak == 2) = true) ∨ ((ak == 1) = false ∧ (ak == 2) = false ∧ (ak == 5) = true) := by
        rcases hc.2 with h | h | h <;> subst h
        · exact .inl rfl
        · exact .inr (.inl ⟨rfl, rfl⟩)
        · exact .inr (.inr ⟨rfl, rfl, rfl⟩)
      clear hc h1
      rcases hta with ta1 | ⟨ta1, ta2⟩ | ⟨ta1, ta2, ta3⟩
      all_goals
        go_wp2
        refine bodyPost_ret (v := _) (by simp [results, Tryz.results18, go_sem]; try rfl) rfl HFin.out
    · have HFin := Lib.hid (HNil.out (by rw [HWd.out, if_neg hc]))
      have htc : (bk == 2) = false ∨ ((bk == 2) = true ∧ (ak == 1) = false ∧ (ak == 2) = false ∧ (ak == 5) = false) := by
        by_cases hb : bk = 2
        · right
          refine ⟨by simpa using hb, ?_, ?_, ?_⟩
          · rw [beq_eq_false_iff_ne]; exact fun h => hc ⟨hb, .inl h⟩
          · rw [beq_eq_false_iff_ne]; exact fun h => hc ⟨hb, .inr (.inl h)⟩
          · rw [beq_eq_false_iff_ne]; exact fun h => hc ⟨hb, .inr (.inr h)⟩
        · left; rw [beq_eq_false_iff_ne]; exact hb
      clear hc h1
      rcases htc with tb | ⟨tb, ta1, ta2, ta3⟩
      all_goals
        go_wp2
        refine bodyPost_ret (v := _) (by simp [results, Tryz.results18, go_sem]; try rfl) rfl HFin.out
  · have e1 : (ts == [100, 101, 102]) = false := by rw [beq_eq_false_iff_ne]; exact h1
    by_cases h2 : ts = [117, 115, 101, 99, 109, 97, 112]
    · have e2 : (ts == [117, 115, 101, 99, 109, 97, 112]) = true := by rw [h2]; rfl
      have hwd := HUse.out h2
      unfold useT at hwd
      simp only at hwd
      have HWd := Lib.hid hwd
      clear hwd
      by_cases hc : ak = 2
      · have hix := Ix.one (w3.setCell ⟨P, 1, none⟩ (.int .i64 ((i : Int) + 1))) (⟨1, tt, as_, noT, []⟩ : Im) (.slice none 0 0) 61 (X := fun b => b < w.heap.size) (hX _ hg5) Ex.nil
        rw [hs4] at hix
        simp only at hix
        have HFin : Hid (Pw w P A c L en i a (.returned (.slice (some ⟨w3.heap.size, 0, none⟩) 1 1)) ((w3.setCell ⟨P, 1, none⟩ (.int .i64 ((i : Int) + 1))).alloc (.cells #[.int .i64 1, .int .i64 tt, .string (str as_), .int .i64 0, .int .i64 0, .int .i64 0, .string ⟨#[]⟩, .slice none 0 0] 61))) := Lib.hid ⟨_, _, i + 1, a, 0, rfl, Nat.le_refl _, (fun h => by cases h), hix, HP4.out.alloc _, hi, HF4.out.alloc _, .inr ⟨rfl, rfl, by rw [HWd.out, if_pos hc]⟩⟩
        clear hix
        have ta : (ak != 2) = false := by simpa using hc
        clear hc h1 h2
        go_wp2
        refine bodyPost_ret (v := _) (by simp [results, Tryz.results18, go_sem]; try rfl) rfl HFin.out
      · have ta : (ak != 2) = true := by simpa using hc
        have HEq := Lib.hid (show wordT L en i = .no tt 3 by rw [HWd.out, if_neg hc])
        have hFl := pfail_any HP4.out tt 3
        rw [if_pos rfl, if_pos rfl] at hFl
        have HFl := Lib.hid hFl
        clear hc h1 h2 hFl
        go_wp2_with fail
        refine HFl.out.mono ?_
        rintro r w5 ⟨rfl, hp5, hf5⟩
        have hT5 := HT4.out.fr hf5 (by omega)
        have hA5 := HA4.out.fr hf5 (by omega)
        have hF5 := HF4.out.trans hf5
        have hs5 := hf5.size
        have v1 := hT5.c1
        have v3 := hA5.c3
        have hix := Ix.one w5 (⟨1, tt, as_, noT, []⟩ : Im) (.slice none 0 0) 61 (X := fun b => b < w.heap.size) (hX _ (by omega)) Ex.nil
        simp only at hix
        have HFin : Hid (Pw w P A c L en i a (.returned (.slice (some ⟨w5.heap.size, 0, none⟩) 1 1)) (w5.alloc (.cells #[.int .i64 1, .int .i64 tt, .string (str as_), .int .i64 0, .int .i64 0, .int .i64 0, .string ⟨#[]⟩, .slice none 0 0] 61))) := Lib.hid ⟨_, _, i + 1, tt, 3, rfl, Nat.le_refl _, (fun h => by cases h), hix, hp5.alloc _, hi, hF5.alloc _, .inl ⟨by decide, HEq.out⟩⟩
        clear hix hp5 hf5 hT5 hA5 hF5
        go_wp2
        refine bodyPost_ret (v := _) (by simp [results, Tryz.results18, go_sem]; try rfl) rfl HFin.out
    · have e2 : (ts == [117, 115, 101, 99, 109, 97, 112]) = false := by rw [beq_eq_false_iff_ne]; exact h2
      by_cases hk0 : kd = 0
      · have HFin := Lib.hid (HNil.out (HNon.out h1 h2 hk0))
        subst hk0
        clear h1 h2
        go_wp2
        refine bodyPost_ret (v := _) (by simp [results, Tryz.results18, go_sem]; try rfl) rfl HFin.out
      · have hL : Sm L := by
          rcases Hs.out with h | h
          · exact h
          · exact absurd (Hkd.out.symm.trans h.2.2) hk0
        obtain ⟨k, hk2, hk8, hkk⟩ := (begunT_range ts).resolve_left (by rw [Hkd.out]; exact hk0)
        rw [Hkd.out] at hkk
        subst hkk
        have hwd := HSec.out h1 h2 hk0
        unfold secW at hwd
        simp only at hwd
        have HWd := Lib.hid hwd
        have hkz : ((k : Int) == 0) = false := by rw [beq_eq_false_iff_ne]; exact hk0
        have hkn : (k == 0) = false := by rw [beq_eq_false_iff_ne]; omega
        clear hwd h1 h2 hk0
        have hPx : ∀ (w' : World) (a' e' : Int), Ps w' P A c L (i + 1) en a' e' → Calls Tryz.prog 30 #[.pointer (some ⟨P, 0, none⟩), .int .i64 (k : Int), .int .i64 an] w' (Px w' P A c L en (k : Int) an (i + 1) a' e') := fun w' a' e' hp => psection_any hp hi hL k hk2 hk8 an
        have HPx := Lib.hid hPx
        clear hPx
        by_cases hc : ak = 1
        · have ta : (ak != 1) = false := by simpa using hc
          by_cases hd : an < 0 ∨ 100 < an
          · have HEq := Lib.hid (show wordT L en i = .no aa 6 by rw [HWd.out, if_pos hc, if_pos hd])
            have htd : decide (an < 0) = true ∨ (decide (an < 0) = false ∧ decide ((100 : Int) < an) = true) := by simp; omega
            have hFl := pfail_any HP4.out aa 6
            rw [if_pos rfl, if_pos rfl] at hFl
            have HFl := Lib.hid hFl
            clear hc hd hFl
            rcases htd with td1 | ⟨td1, td2⟩
            · go_wp2_with fail
              refine HFl.out.mono ?_
              rintro r w5 ⟨rfl, hp5, hf5⟩
              have hT5 := HT4.out.fr hf5 (by omega)
              have hA5 := HA4.out.fr hf5 (by omega)
              have HF5 := Lib.hid (HF4.out.trans hf5)
              have hs5 := hf5.size
              have HP5 := Lib.hid hp5
              clear hp5 hf5 HFl
              go_wp2
              have hk0c := hT5.c1
              have hk1c := hA5.c2
              have HS6 : Hid (∀ w', Fr w5.drew w' P → w'.cell? ⟨w.heap.size, 1, none⟩ = some (.int .i64 tt) ∧ w'.cell? ⟨g1, 2, none⟩ = some (.int .i64 an)) := Lib.hid (fun w' hf => ⟨(hf.cell ⟨w.heap.size, 1, none⟩ (show w.heap.size < w5.heap.size by omega) (show w.heap.size ≠ P by omega)).trans hk0c, (hf.cell ⟨g1, 2, none⟩ (show g1 < w5.heap.size by omega) (show g1 ≠ P by omega)).trans hk1c⟩)
              go_region_held (fun w' => w'.cell? ⟨w.heap.size, 1, none⟩ = some (.int .i64 tt) ∧ w'.cell? ⟨g1, 2, none⟩ = some (.int .i64 an))
                (first | with_reducible exact hcells2 | with_reducible exact hcells | exact ⟨hk0c, hk1c⟩)
                ((go_at_call 30; refine (HPx.out _ _ _ HP5.out.drew).mono ?_; rintro r w6 ⟨ve, es, i6, a6, e6, rfl, hex, hp6, hi6, hf6, hD6⟩; obtain ⟨Ae, ne, ce, hve⟩ := hex.shape; subst hve; have hcells := HS6.out w6 hf6; have hcells2 : (w6.alloc (.cells #[.int .i64 (k : Int), .int .i64 tt, .string ⟨#[]⟩, .int .i64 0, .int .i64 0, .int .i64 0, .string ⟨#[]⟩, .slice Ae ne ce] 61)).cell? ⟨w.heap.size, 1, none⟩ = some (.int .i64 tt) ∧ (w6.alloc (.cells #[.int .i64 (k : Int), .int .i64 tt, .string ⟨#[]⟩, .int .i64 0, .int .i64 0, .int .i64 0, .string ⟨#[]⟩, .slice Ae ne ce] 61)).cell? ⟨g1, 2, none⟩ = some (.int .i64 an) := ⟨cell_more hcells.1 _, cell_more hcells.2 _⟩; have hs6 : w5.heap.size ≤ w6.heap.size := hf6.size; have hix := Ix.one w6 (⟨(k : Int), tt, [], noT, es⟩ : Im) (.slice Ae ne ce) 61 (X := fun b => b < w.heap.size) (hX _ (by omega)) (hex.to (Kp.refl _ _) (fun b _ hb => by have : b < w.heap.size := hb; show b < w5.heap.size; omega)); have HFin : Hid (Pw w P A c L en i a (.returned (.slice (some ⟨w6.heap.size, 0, none⟩) 1 1)) (w6.alloc (.cells #[.int .i64 (k : Int), .int .i64 tt, .string ⟨#[]⟩, .int .i64 0, .int .i64 0, .int .i64 0, .string ⟨#[]⟩, .slice Ae ne ce] 61))) := Lib.hid (⟨_, _, i6, a6, e6, rfl, Nat.le_refl _, (fun h => by cases h), hix, hp6.alloc _, hi6, ((HF5.out.drew).trans hf6).alloc _, word_of_bad HEq.out (by decide) hD6⟩); clear hix hp6 hf6 hD6 hex))
              go_wp2
              refine bodyPost_ret (v := _) (by simp [results, Tryz.results18, go_sem]; try rfl) rfl HFin.out
            · go_wp2_with fail
              refine HFl.out.mono ?_
              rintro r w5 ⟨rfl, hp5, hf5⟩
              have hT5 := HT4.out.fr hf5 (by omega)
              have hA5 := HA4.out.fr hf5 (by omega)
              have HF5 := Lib.hid (HF4.out.trans hf5)
              have hs5 := hf5.size
              have HP5 := Lib.hid hp5
              clear hp5 hf5 HFl
              go_wp2
              have hk0c := hT5.c1
              have hk1c := hA5.c2
              have HS6 : Hid (∀ w', Fr w5.drew w' P → w'.cell? ⟨w.heap.size, 1, none⟩ = some (.int .i64 tt) ∧ w'.cell? ⟨g1, 2, none⟩ = some (.int .i64 an)) := Lib.hid (fun w' hf => ⟨(hf.cell ⟨w.heap.size, 1, none⟩ (show w.heap.size < w5.heap.size by omega) (show w.heap.size ≠ P by omega)).trans hk0c, (hf.cell ⟨g1, 2, none⟩ (show g1 < w5.heap.size by omega) (show g1 ≠ P by omega)).trans hk1c⟩)
              go_region_held (fun w' => w'.cell? ⟨w.heap.size, 1, none⟩ = some (.int .i64 tt) ∧ w'.cell? ⟨g1, 2, none⟩ = some (.int .i64 an))
                (first | with_reducible exact hcells2 | with_reducible exact hcells | exact ⟨hk0c, hk1c⟩)
                ((go_at_call 30; refine (HPx.out _ _ _ HP5.out.drew).mono ?_; rintro r w6 ⟨ve, es, i6, a6, e6, rfl, hex, hp6, hi6, hf6, hD6⟩; obtain ⟨Ae, ne, ce, hve⟩ := hex.shape; subst hve; have hcells := HS6.out w6 hf6; have hcells2 : (w6.alloc (.cells #[.int .i64 (k : Int), .int .i64 tt, .string ⟨#[]⟩, .int .i64 0, .int .i64 0, .int .i64 0, .string ⟨#[]⟩, .slice Ae ne ce] 61)).cell? ⟨w.heap.size, 1, none⟩ = some (.int .i64 tt) ∧ (w6.alloc (.cells #[.int .i64 (k : Int), .int .i64 tt, .string ⟨#[]⟩, .int .i64 0, .int .i64 0, .int .i64 0, .string ⟨#[]⟩, .slice Ae ne ce] 61)).cell? ⟨g1, 2, none⟩ = some (.int .i64 an) := ⟨cell_more hcells.1 _, cell_more hcells.2 _⟩; have hs6 : w5.heap.size ≤ w6.heap.size := hf6.size; have hix := Ix.one w6 (⟨(k : Int), tt, [], noT, es⟩ : Im) (.slice Ae ne ce) 61 (X := fun b => b < w.heap.size) (hX _ (by omega)) (hex.to (Kp.refl _ _) (fun b _ hb => by have : b < w.heap.size := hb; show b < w5.heap.size; omega)); have HFin : Hid (Pw w P A c L en i a (.returned (.slice (some ⟨w6.heap.size, 0, none⟩) 1 1)) (w6.alloc (.cells #[.int .i64 (k : Int), .int .i64 tt, .string ⟨#[]⟩, .int .i64 0, .int .i64 0, .int .i64 0, .string ⟨#[]⟩, .slice Ae ne ce] 61))) := Lib.hid (⟨_, _, i6, a6, e6, rfl, Nat.le_refl _, (fun h => by cases h), hix, hp6.alloc _, hi6, ((HF5.out.drew).trans hf6).alloc _, word_of_bad HEq.out (by decide) hD6⟩); clear hix hp6 hf6 hD6 hex))
              go_wp2
              refine bodyPost_ret (v := _) (by simp [results, Tryz.results18, go_sem]; try rfl) rfl HFin.out
          · have hwd := HWd.out
            rw [if_pos hc, if_neg hd] at hwd
            have HEq := Lib.hid hwd
            have td1 : decide (an < 0) = false := by simp; omega
            have td2 : decide ((100 : Int) < an) = false := by simp; omega
            clear hc hd hwd
            go_wp2
            have hk0c := HT4.out.c1
            have hk1c := HA4.out.c2
            have HS6 : Hid (∀ w', Fr (w3.setCell ⟨P, 1, none⟩ (.int .i64 ((i : Int) + 1))).drew w' P → w'.cell? ⟨w.heap.size, 1, none⟩ = some (.int .i64 tt) ∧ w'.cell? ⟨g1, 2, none⟩ = some (.int .i64 an)) := Lib.hid (fun w' hf => ⟨(hf.cell ⟨w.heap.size, 1, none⟩ (show w.heap.size < (w3.setCell ⟨P, 1, none⟩ (.int .i64 ((i : Int) + 1))).heap.size by omega) (show w.heap.size ≠ P by omega)).trans hk0c, (hf.cell ⟨g1, 2, none⟩ (show g1 < (w3.setCell ⟨P, 1, none⟩ (.int .i64 ((i : Int) + 1))).heap.size by omega) (show g1 ≠ P by omega)).trans hk1c⟩)
            go_region_held (fun w' => w'.cell? ⟨w.heap.size, 1, none⟩ = some (.int .i64 tt) ∧ w'.cell? ⟨g1, 2, none⟩ = some (.int .i64 an))
              (first | with_reducible exact hcells2 | with_reducible exact hcells | exact ⟨hk0c, hk1c⟩)
              ((go_at_call 30; refine (HPx.out _ _ _ HP4.out.drew).mono ?_; rintro r w6 ⟨ve, es, i6, a6, e6, rfl, hex, hp6, hi6, hf6, hD6⟩; obtain ⟨Ae, ne, ce, hve⟩ := hex.shape; subst hve; have hcells := HS6.out w6 hf6; have hcells2 : (w6.alloc (.cells #[.int .i64 (k : Int), .int .i64 tt, .string ⟨#[]⟩, .int .i64 0, .int .i64 0, .int .i64 0, .string ⟨#[]⟩, .slice Ae ne ce] 61)).cell? ⟨w.heap.size, 1, none⟩ = some (.int .i64 tt) ∧ (w6.alloc (.cells #[.int .i64 (k : Int), .int .i64 tt, .string ⟨#[]⟩, .int .i64 0, .int .i64 0, .int .i64 0, .string ⟨#[]⟩, .slice Ae ne ce] 61)).cell? ⟨g1, 2, none⟩ = some (.int .i64 an) := ⟨cell_more hcells.1 _, cell_more hcells.2 _⟩; have hs6 : (w3.setCell ⟨P, 1, none⟩ (.int .i64 ((i : Int) + 1))).heap.size ≤ w6.heap.size := hf6.size; have hix := Ix.one w6 (⟨(k : Int), tt, [], noT, es⟩ : Im) (.slice Ae ne ce) 61 (X := fun b => b < w.heap.size) (hX _ (by omega)) (hex.to (Kp.refl _ _) (fun b _ hb => by have : b < w.heap.size := hb; show b < (w3.setCell ⟨P, 1, none⟩ (.int .i64 ((i : Int) + 1))).heap.size; omega)); have HFin : Hid (Pw w P A c L en i a (.returned (.slice (some ⟨w6.heap.size, 0, none⟩) 1 1)) (w6.alloc (.cells #[.int .i64 (k : Int), .int .i64 tt, .string ⟨#[]⟩, .int .i64 0, .int .i64 0, .int .i64 0, .string ⟨#[]⟩, .slice Ae ne ce] 61))) := Lib.hid (⟨_, _, i6, a6, e6, rfl, Nat.le_refl _, (fun h => by cases h), hix, hp6.alloc _, hi6, ((HF4.out.drew).trans hf6).alloc _, word_of_sec HEq.out hD6⟩); clear hix hp6 hf6 hD6 hex))
            go_wp2
            refine bodyPost_ret (v := _) (by simp [results, Tryz.results18, go_sem]; try rfl) rfl HFin.out
        · have ta : (ak != 1) = true := by simpa using hc
          have HEq := Lib.hid (show wordT L en i = .no tt 3 by rw [HWd.out, if_neg hc])
          have hFl := pfail_any HP4.out tt 3
          rw [if_pos rfl, if_pos rfl] at hFl
          have HFl := Lib.hid hFl
          clear hc hFl
          go_wp2_with fail
          refine HFl.out.mono ?_
          rintro r w5 ⟨rfl, hp5, hf5⟩
          have hT5 := HT4.out.fr hf5 (by omega)
          have hA5 := HA4.out.fr hf5 (by omega)
          have HF5 := Lib.hid (HF4.out.trans hf5)
          have hs5 := hf5.size
          have HP5 := Lib.hid hp5
          clear hp5 hf5 HFl
          go_wp2
          have hk0c := hT5.c1
          have hk1c := hA5.c2
          have HS6 : Hid (∀ w', Fr w5.drew w' P → w'.cell? ⟨w.heap.size, 1, none⟩ = some (.int .i64 tt) ∧ w'.cell? ⟨g1, 2, none⟩ = some (.int .i64 an)) := Lib.hid (fun w' hf => ⟨(hf.cell ⟨w.heap.size, 1, none⟩ (show w.heap.size < w5.heap.size by omega) (show w.heap.size ≠ P by omega)).trans hk0c, (hf.cell ⟨g1, 2, none⟩ (show g1 < w5.heap.size by omega) (show g1 ≠ P by omega)).trans hk1c⟩)
          go_region_held (fun w' => w'.cell? ⟨w.heap.size, 1, none⟩ = some (.int .i64 tt) ∧ w'.cell? ⟨g1, 2, none⟩ = some (.int .i64 an))
            (first | with_reducible exact hcells2 | with_reducible exact hcells | exact ⟨hk0c, hk1c⟩)
            ((go_at_call 30; refine (HPx.out _ _ _ HP5.out.drew).mono ?_; rintro r w6 ⟨ve, es, i6, a6, e6, rfl, hex, hp6, hi6, hf6, hD6⟩; obtain ⟨Ae, ne, ce, hve⟩ := hex.shape; subst hve; have hcells := HS6.out w6 hf6; have hcells2 : (w6.alloc (.cells #[.int .i64 (k : Int), .int .i64 tt, .string ⟨#[]⟩, .int .i64 0, .int .i64 0, .int .i64 0, .string ⟨#[]⟩, .slice Ae ne ce] 61)).cell? ⟨w.heap.size, 1, none⟩ = some (.int .i64 tt) ∧ (w6.alloc (.cells #[.int .i64 (k : Int), .int .i64 tt, .string ⟨#[]⟩, .int .i64 0, .int .i64 0, .int .i64 0, .string ⟨#[]⟩, .slice Ae ne ce] 61)).cell? ⟨g1, 2, none⟩ = some (.int .i64 an) := ⟨cell_more hcells.1 _, cell_more hcells.2 _⟩; have hs6 : w5.heap.size ≤ w6.heap.size := hf6.size; have hix := Ix.one w6 (⟨(k : Int), tt, [], noT, es⟩ : Im) (.slice Ae ne ce) 61 (X := fun b => b < w.heap.size) (hX _ (by omega)) (hex.to (Kp.refl _ _) (fun b _ hb => by have : b < w.heap.size := hb; show b < w5.heap.size; omega)); have HFin : Hid (Pw w P A c L en i a (.returned (.slice (some ⟨w6.heap.size, 0, none⟩) 1 1)) (w6.alloc (.cells #[.int .i64 (k : Int), .int .i64 tt, .string ⟨#[]⟩, .int .i64 0, .int .i64 0, .int .i64 0, .string ⟨#[]⟩, .slice Ae ne ce] 61))) := Lib.hid (⟨_, _, i6, a6, e6, rfl, Nat.le_refl _, (fun h => by cases h), hix, hp6.alloc _, hi6, ((HF5.out.drew).trans hf6).alloc _, word_of_bad HEq.out (by decide) hD6⟩); clear hix hp6 hf6 hD6 hex))
          go_wp2
          refine bodyPost_ret (v := _) (by simp [results, Tryz.results18, go_sem]; try rfl) rfl HFin.out
end
end Go.Proofs.YthcnjiigkmljnaaGreatDoor
