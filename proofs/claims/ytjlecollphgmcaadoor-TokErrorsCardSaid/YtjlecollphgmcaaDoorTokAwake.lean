/-
  The head of every statement of layer 4: the document's example.
-/
import Derived.Test.YtjlecollphgmcaaDoorTokAll
import Derived.Test.YtjlecollphgmcaaDoorTokText
namespace Go.Proofs.YtjlecollphgmcaaDoor
open Go.RowKit

/-- The example's tokens. -/
def egT : List Tk := [⟨1, 0, 2, []⟩, ⟨2, 2, 0, [97, 32, 98]⟩, ⟨4, 9, 0, [74, 80]⟩]
theorem itoa_two : Lib.itoa 2 = [50] := by
  unfold Lib.itoa
  rw [if_neg (by decide), Lib.decDigits, dif_pos (by decide)]
  rfl
theorem eg_all : all 0 [50, 32, 47, 97, 35, 50, 48, 98, 32, 60, 52, 65, 53, 62] = ⟨egT, 14, 0⟩ := by
  have e1 : ([50, 32, 47, 97, 35, 50, 48, 98, 32, 60, 52, 65, 53, 62] : List UInt8) = sh ⟨1, 0, 2, []⟩ ++ [32, 47, 97, 35, 50, 48, 98, 32, 60, 52, 65, 53, 62] := by
    show _ = Lib.itoa 2 ++ _
    rw [itoa_two]; rfl
  have l1 : (sh ⟨1, 0, 2, []⟩).length = 1 := by show (Lib.itoa 2).length = 1; rw [itoa_two]; rfl
  have e2 : ([47, 97, 35, 50, 48, 98, 32, 60, 52, 65, 53, 62] : List UInt8) = sh ⟨2, 0, 0, [97, 32, 98]⟩ ++ [32, 60, 52, 65, 53, 62] := by kernel_rfl
  have l2 : (sh ⟨2, 0, 0, [97, 32, 98]⟩).length = 6 := by kernel_rfl
  have h3 : tk [60, 52, 65, 53, 62] = okR 4 0 [74, 80] 5 := by
    rw [tk_hex (by decide)]
    kernel_rfl
  have a3 : all 9 [60, 52, 65, 53, 62] = ⟨[⟨4, 9, 0, [74, 80]⟩], 14, 0⟩ := by
    have hs : sk false [60, 52, 65, 53, 62] = 0 := by decide
    have hd : ([60, 52, 65, 53, 62] : List UInt8).drop (sk false [60, 52, 65, 53, 62]) = [60, 52, 65, 53, 62] := by rw [hs]; rfl
    rw [all_ok 9 (by decide) (by rw [hd, h3]; rfl), hd, h3, hs, all_end _ (by decide)]
    rfl
  rw [e1, all_one 0 ⟨1, 0, 2, []⟩ (.inl ⟨rfl, by decide, rfl⟩) _ (by decide), l1, all_blank, e2, all_one 2 ⟨2, 0, 0, [97, 32, 98]⟩ (.inr (.inl ⟨rfl, rfl⟩)) _ (by decide), l2, all_blank, a3]
  rfl
theorem eg_text : txL egT = [50, 32, 47, 97, 35, 50, 48, 98, 32, 60, 52, 65, 53, 48, 62] := by
  show Lib.itoa 2 ++ 32 :: (sh ⟨2, 2, 0, [97, 32, 98]⟩ ++ 32 :: sh ⟨4, 9, 0, [74, 80]⟩) = _
  rw [itoa_two]
  kernel_rfl
theorem All_eg (w : World) (hT : Tb w) : Calls Tryd.prog 9 #[.string (ByteArray.mk #[50, 32, 47, 97, 35, 50, 48, 98, 32, 60, 52, 65, 53, 62])] w fun e w' => RetTk w ⟨egT, 14, 0⟩ e w' := by
  have := All_any [50, 32, 47, 97, 35, 50, 48, 98, 32, 60, 52, 65, 53, 62] w hT.tab hT.mks (by decide)
  rw [eg_all] at this
  exact this
theorem Text_eg (A : Option Addr) (c : Nat) (w : World) (hT : Tb w) (hA : St w w.heap.size A egT) : Calls Tryd.prog 10 #[.slice A 3 c] w fun e w' => e = .returned (.string (ByteArray.mk #[50, 32, 47, 97, 35, 50, 48, 98, 32, 60, 52, 65, 53, 48, 62])) ∧ Below w.heap.size w w' := by
  have := Text_any egT A c w hT hA (by intro t ht; simp only [egT, List.mem_cons, List.not_mem_nil, or_false] at ht; rcases ht with rfl | rfl | rfl <;> simp [Kd]) (by intro t ht; simp only [egT, List.mem_cons, List.not_mem_nil, or_false] at ht; rcases ht with rfl | rfl | rfl <;> simp [Sw]) (by decide) (by rw [eg_text]; decide)
  rw [eg_text] at this
  exact this

set_option maxHeartbeats 1000000 in
theorem awake_any (w : World) (hT : Tb w) : Calls Tryd.prog 8 #[] w fun e w' => e = .returned (.bool true) ∧ Below w.heap.size w w' := by
  go_enter Tryd.func8, Tryd.ntmps8
  go_wp2_with fail
  refine (All_eg _ hT).mono ?_
  rintro e w1 ⟨A, c, rfl, hc, hst, hb1⟩
  have hT1 := hT.below' hb1
  obtain ⟨b, o, hAe, hbl, hcl⟩ := hst (by decide)
  have hTx := Text_eg A c w1 hT1 hst
  subst hAe
  obtain ⟨g0, g1, g2, g3⟩ := hcl 0 (by decide)
  obtain ⟨f0, f1, f2, f3⟩ := hcl 1 (by decide)
  obtain ⟨_, _, _, k3⟩ := hcl 2 (by decide)
  simp only [egT, Nat.zero_mul, Nat.add_zero, Nat.one_mul, Nat.reduceMul, tg, List.getElem?_cons_zero, List.getElem?_cons_succ, Option.getD_some] at g0 g1 g2 g3 f0 f1 f2 f3 k3
  have el : egT.length = 3 := rfl
  rw [el] at hc ⊢
  have HT := Lib.hid hTx
  clear hst hcl hTx
  go_wp2_with fail
  refine HT.out.mono ?_
  rintro e w2 ⟨rfl, hb2⟩
  go_wp2
  go_ret
  exact ⟨rfl, hb1.trans (hb2.mono hb1.size)⟩
end Go.Proofs.YtjlecollphgmcaaDoor
