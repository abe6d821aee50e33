/-
  The document's example of layer 5: its tokens, and what they come to.
-/
import Derived.Test.YthcnjiigkmljnaaGreatDoorSynItem0
import Derived.Test.YthcnjiigkmljnaaGreatDoorPart4
namespace Go.Proofs.YthcnjiigkmljnaaGreatDoor
open Go.RowKit

def wBegin : List UInt8 := [98, 101, 103, 105, 110, 99, 105, 100, 99, 104, 97, 114]
def wEnd : List UInt8 := [101, 110, 100, 99, 105, 100, 99, 104, 97, 114]
/-- The example's tokens. -/
def egS : List Tk := [⟨1, 0, 1, []⟩, ⟨3, 2, 0, wBegin⟩, ⟨4, 15, 0, [65]⟩, ⟨1, 20, 7, []⟩, ⟨3, 22, 0, wEnd⟩, ⟨2, 33, 0, [87]⟩, ⟨1, 36, 1, []⟩, ⟨3, 38, 0, [100, 101, 102]⟩]
def egE : En := ⟨⟨1, 65⟩, ⟨1, 65⟩, 7, [], []⟩
def egI : List Im := [⟨4, 2, [], noT, [egE]⟩, ⟨0, 38, [87], ⟨1, 36, 1, []⟩, []⟩]
def egB : List UInt8 := [49, 32, 98, 101, 103, 105, 110, 99, 105, 100, 99, 104, 97, 114, 32, 60, 52, 49, 62, 32, 55, 32, 101, 110, 100, 99, 105, 100, 99, 104, 97, 114, 32, 47, 87, 32, 49, 32, 100, 101, 102]
theorem itoa_small (n : Nat) (h : n < 10) : Lib.itoa (n : Int) = [UInt8.ofNat (48 + n)] := by
  unfold Lib.itoa
  rw [if_neg (by omega), Int.toNat_natCast, Lib.decDigits, dif_pos h]
theorem eg_all5 : all 0 egB = ⟨egS, 41, 0⟩ := by
  have i1 : Lib.itoa 1 = [49] := itoa_small 1 (by decide)
  have i7 : Lib.itoa 7 = [55] := itoa_small 7 (by decide)
  have s1 : ∀ p, sh ⟨1, p, 1, []⟩ = [49] := fun p => i1
  have s7 : ∀ p, sh ⟨1, p, 7, []⟩ = [55] := fun p => i7
  have t7 : all 38 [100, 101, 102] = ⟨[⟨3, 38, 0, [100, 101, 102]⟩], 41, 0⟩ := by
    have := all_one 38 ⟨3, 38, 0, [100, 101, 102]⟩ (.inr (.inr (.inl ⟨rfl, rfl, by decide, by decide, by decide⟩))) [] (by decide)
    have e : sh ⟨3, 38, 0, [100, 101, 102]⟩ = [100, 101, 102] := rfl
    rw [e] at this
    rw [show ([100, 101, 102] : List UInt8) = [100, 101, 102] ++ [] from rfl, this, all_end _ (by decide)]
    rfl
  have t6 : all 36 (49 :: 32 :: [100, 101, 102]) = ⟨[⟨1, 36, 1, []⟩, ⟨3, 38, 0, [100, 101, 102]⟩], 41, 0⟩ := by
    have := all_one 36 ⟨1, 36, 1, []⟩ (.inl ⟨rfl, by decide, rfl⟩) (32 :: [100, 101, 102]) (by decide)
    rw [s1] at this
    rw [show (49 :: 32 :: [100, 101, 102] : List UInt8) = [49] ++ 32 :: [100, 101, 102] from rfl, this, all_blank]
    show Al.add _ (all 38 _) = _
    rw [t7]
    rfl
  have t5 : all 33 (47 :: 87 :: 32 :: 49 :: 32 :: [100, 101, 102]) = ⟨[⟨2, 33, 0, [87]⟩, ⟨1, 36, 1, []⟩, ⟨3, 38, 0, [100, 101, 102]⟩], 41, 0⟩ := by
    have := all_one 33 ⟨2, 33, 0, [87]⟩ (.inr (.inl ⟨rfl, rfl⟩)) (32 :: 49 :: 32 :: [100, 101, 102]) (by decide)
    have e : sh ⟨2, 33, 0, [87]⟩ = [47, 87] := by kernel_rfl
    rw [e] at this
    rw [show (47 :: 87 :: 32 :: 49 :: 32 :: [100, 101, 102] : List UInt8) = [47, 87] ++ 32 :: 49 :: 32 :: [100, 101, 102] from rfl, this, all_blank]
    show Al.add _ (all 36 _) = _
    rw [t6]
    rfl
  have t4 : all 22 (wEnd ++ 32 :: 47 :: 87 :: 32 :: 49 :: 32 :: [100, 101, 102]) = ⟨[⟨3, 22, 0, wEnd⟩, ⟨2, 33, 0, [87]⟩, ⟨1, 36, 1, []⟩, ⟨3, 38, 0, [100, 101, 102]⟩], 41, 0⟩ := by
    have := all_one 22 ⟨3, 22, 0, wEnd⟩ (.inr (.inr (.inl ⟨rfl, rfl, by decide, by decide, by decide⟩))) (32 :: 47 :: 87 :: 32 :: 49 :: 32 :: [100, 101, 102]) (by decide)
    have e : sh ⟨3, 22, 0, wEnd⟩ = wEnd := rfl
    rw [e] at this
    rw [this, all_blank]
    show Al.add _ (all 33 _) = _
    rw [t5]
    rfl
  have t3 : all 20 (55 :: 32 :: (wEnd ++ 32 :: 47 :: 87 :: 32 :: 49 :: 32 :: [100, 101, 102])) = ⟨[⟨1, 20, 7, []⟩, ⟨3, 22, 0, wEnd⟩, ⟨2, 33, 0, [87]⟩, ⟨1, 36, 1, []⟩, ⟨3, 38, 0, [100, 101, 102]⟩], 41, 0⟩ := by
    have := all_one 20 ⟨1, 20, 7, []⟩ (.inl ⟨rfl, by decide, rfl⟩) (32 :: (wEnd ++ 32 :: 47 :: 87 :: 32 :: 49 :: 32 :: [100, 101, 102])) (by decide)
    rw [s7] at this
    rw [show (55 :: 32 :: (wEnd ++ 32 :: 47 :: 87 :: 32 :: 49 :: 32 :: [100, 101, 102]) : List UInt8) = [55] ++ 32 :: (wEnd ++ 32 :: 47 :: 87 :: 32 :: 49 :: 32 :: [100, 101, 102]) from rfl, this, all_blank]
    show Al.add _ (all 22 _) = _
    rw [t4]
    rfl
  have t2 : all 15 (60 :: 52 :: 49 :: 62 :: 32 :: 55 :: 32 :: (wEnd ++ 32 :: 47 :: 87 :: 32 :: 49 :: 32 :: [100, 101, 102])) = ⟨[⟨4, 15, 0, [65]⟩, ⟨1, 20, 7, []⟩, ⟨3, 22, 0, wEnd⟩, ⟨2, 33, 0, [87]⟩, ⟨1, 36, 1, []⟩, ⟨3, 38, 0, [100, 101, 102]⟩], 41, 0⟩ := by
    have := all_one 15 ⟨4, 15, 0, [65]⟩ (.inr (.inr (.inr (.inl ⟨rfl, rfl⟩)))) (32 :: 55 :: 32 :: (wEnd ++ 32 :: 47 :: 87 :: 32 :: 49 :: 32 :: [100, 101, 102])) (by decide)
    have e : sh ⟨4, 15, 0, [65]⟩ = [60, 52, 49, 62] := by kernel_rfl
    rw [e] at this
    rw [show (60 :: 52 :: 49 :: 62 :: 32 :: 55 :: 32 :: (wEnd ++ 32 :: 47 :: 87 :: 32 :: 49 :: 32 :: [100, 101, 102]) : List UInt8) = [60, 52, 49, 62] ++ 32 :: 55 :: 32 :: (wEnd ++ 32 :: 47 :: 87 :: 32 :: 49 :: 32 :: [100, 101, 102]) from rfl, this, all_blank]
    show Al.add _ (all 20 _) = _
    rw [t3]
    rfl
  have t1 : all 2 (wBegin ++ 32 :: 60 :: 52 :: 49 :: 62 :: 32 :: 55 :: 32 :: (wEnd ++ 32 :: 47 :: 87 :: 32 :: 49 :: 32 :: [100, 101, 102])) = ⟨⟨3, 2, 0, wBegin⟩ :: [⟨4, 15, 0, [65]⟩, ⟨1, 20, 7, []⟩, ⟨3, 22, 0, wEnd⟩, ⟨2, 33, 0, [87]⟩, ⟨1, 36, 1, []⟩, ⟨3, 38, 0, [100, 101, 102]⟩], 41, 0⟩ := by
    have := all_one 2 ⟨3, 2, 0, wBegin⟩ (.inr (.inr (.inl ⟨rfl, rfl, by decide, by decide, by decide⟩))) (32 :: 60 :: 52 :: 49 :: 62 :: 32 :: 55 :: 32 :: (wEnd ++ 32 :: 47 :: 87 :: 32 :: 49 :: 32 :: [100, 101, 102])) (by decide)
    have e : sh ⟨3, 2, 0, wBegin⟩ = wBegin := rfl
    rw [e] at this
    rw [this, all_blank]
    show Al.add _ (all 15 _) = _
    rw [t2]
    rfl
  have := all_one 0 ⟨1, 0, 1, []⟩ (.inl ⟨rfl, by decide, rfl⟩) (32 :: (wBegin ++ 32 :: 60 :: 52 :: 49 :: 62 :: 32 :: 55 :: 32 :: (wEnd ++ 32 :: 47 :: 87 :: 32 :: 49 :: 32 :: [100, 101, 102]))) (by decide)
  rw [s1] at this
  show all 0 ([49] ++ 32 :: (wBegin ++ 32 :: 60 :: 52 :: 49 :: 62 :: 32 :: 55 :: 32 :: (wEnd ++ 32 :: 47 :: 87 :: 32 :: 49 :: 32 :: [100, 101, 102]))) = _
  rw [this, all_blank]
  show Al.add _ (all 2 _) = _
  rw [t1]
  rfl
theorem eg_parse : parseT egS 41 = .ok egI 8 := by
  have hw : wordT egS 41 1 = .ok [⟨4, 2, [], noT, [egE]⟩] 5 := by
    rw [wordT_sec (by decide) (by decide) (by decide)]
    have hb : begunT (tg egS 1).s = 4 := by decide
    rw [hb]
    unfold secW
    rw [if_pos (by decide), if_neg (by decide)]
    have he : entT egS 41 4 2 = .ok egE 4 := by kernel_rfl
    have hn : (backT egS 1 1).n = 1 := rfl
    rw [hn, secT_step (by decide), he, then_ok, secT_end (by decide), if_pos (by decide), then_ok]
    rfl
  have hd : wordT egS 41 7 = .ok [⟨0, 38, [87], ⟨1, 36, 1, []⟩, []⟩] 8 := by
    rw [wordT_def (by decide)]
    kernel_rfl
  unfold parseT
  rw [items_skip (i := 0) (by decide) (by decide) (by decide) (by decide), items_word (i := 1) (by decide) (by decide), hw, then_ok, items_skip (i := 5) (by decide) (by decide) (by decide) (by decide), items_skip (i := 6) (by decide) (by decide) (by decide) (by decide), items_word (i := 7) (by decide) (by decide), hd, then_ok, items_end (by decide), if_pos rfl]
  rfl
end Go.Proofs.YthcnjiigkmljnaaGreatDoor
