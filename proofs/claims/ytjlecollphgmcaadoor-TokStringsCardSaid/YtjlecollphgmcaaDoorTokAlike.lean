/-
  hornbookref04.Alike: where tokens are the same but for where they stand, it says yes.
-/
import Derived.Test.YtjlecollphgmcaaDoorTokMem
import Derived.Test.YtjlecollphgmcaaDoorTokPure2
import Derived.BigQuiet
import Derived.Deep.QuietTactic
namespace Go.Proofs.YtjlecollphgmcaaDoor
open Go.RowKit

theorem tg_key {L M : List Tk} (h : L.map key = M.map key) (k : Nat) : key (tg L k) = key (tg M k) := by
  have e : ∀ X : List Tk, key (tg X k) = (X.map key)[k]?.getD noT := fun X => by
    unfold tg
    rw [List.getElem?_map]
    cases X[k]? <;> rfl
  rw [e L, e M, h]

set_option maxRecDepth 100000 in
set_option maxHeartbeats 4000000 in
theorem Alike_yes (L M : List Tk) (A B : Option Addr) (c d : Nat) (w : World) (hA : St w w.heap.size A L) (hB : St w w.heap.size B M) (h : L.map key = M.map key) (hL : L.length ≤ 1048576) :
    Calls Tryd.prog 11 #[.slice A L.length c, .slice B M.length d] w fun e w' => e = .returned (.bool true) ∧ Below w.heap.size w w' := by
  have hlen : M.length = L.length := by simpa using (congrArg List.length h).symm
  rw [hlen]
  go_enter Tryd.func11, Tryd.ntmps11
  go_wp2
  go_loopw [5] (fun i wr => ∃ k : Nat, k ≤ L.length ∧ i = .int .i64 k ∧ Below w.heap.size w wr) (fun i _ => L.length - (intOf i).toNat)
  case atStart => exact ⟨0, Nat.zero_le _, rfl, Below.refl _ _⟩
  case round =>
    obtain ⟨k, hk, rfl, hbel⟩ := hrel
    have hsz := hbel.size
    by_cases hlt : k < L.length
    · obtain ⟨b, o, rfl, hbl, hc⟩ := hA (by omega)
      obtain ⟨b2, o2, rfl, hbl2, hc2⟩ := hB (by omega)
      obtain ⟨h0, _, h2, h3⟩ := hc k hlt
      obtain ⟨i0, _, i2, i3⟩ := hc2 k (by omega)
      have hkey := tg_key h k
      have e1 : (tg M k).kind = (tg L k).kind := (congrArg Tk.kind hkey).symm
      have e2 : (tg M k).n = (tg L k).n := (congrArg Tk.n hkey).symm
      have e3 : (tg M k).s = (tg L k).s := (congrArg Tk.s hkey).symm
      rw [e1] at i0
      rw [e2] at i2
      rw [e3] at i3
      have g0 := (hbel.cell (p := ⟨b, o + k * 4, none⟩) hbl).trans h0
      have g2 := (hbel.cell (p := ⟨b, o + k * 4 + 2, none⟩) hbl).trans h2
      have g3 := (hbel.cell (p := ⟨b, o + k * 4 + 3, none⟩) hbl).trans h3
      have f0 := (hbel.cell (p := ⟨b2, o2 + k * 4, none⟩) hbl2).trans i0
      have f2 := (hbel.cell (p := ⟨b2, o2 + k * 4 + 2, none⟩) hbl2).trans i2
      have f3 := (hbel.cell (p := ⟨b2, o2 + k * 4 + 3, none⟩) hbl2).trans i3
      generalize (tg L k).kind = q1 at *
      generalize (tg L k).n = q3 at *
      generalize (tg L k).s = q4 at *
      have t0 : decide ((k : Int) < (L.length : Int)) = true := by simp; omega
      have b1 : (q1 != q1) = false := by simp
      have b2' : (q3 != q3) = false := by simp
      clear hc hc2 h0 h2 h3 i0 i2 i3 e1 e2 e3 hkey h hlen
      go_wp2
      go_quiet (fail)
      go_wp2
      go_roundw
      case rel => exact ⟨k + 1, by omega, by go_num, below_drewN hbel _⟩
      case measure => simp [intOf]; omega
    · have t0 : decide ((k : Int) < (L.length : Int)) = false := by simp; omega
      go_wp2
      go_ret
      exact ⟨rfl, hbel⟩
end Go.Proofs.YtjlecollphgmcaaDoor
