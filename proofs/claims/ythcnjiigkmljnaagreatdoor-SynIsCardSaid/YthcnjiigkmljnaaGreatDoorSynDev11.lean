/-
  The program's parser: atWord, entryOf.
-/
import Derived.Test.YthcnjiigkmljnaaGreatDoorSynDev10
namespace Go.Proofs.YthcnjiigkmljnaaGreatDoor
open Go.RowKit

/-- Is the next token that word? -/
def atW (L : List Tk) (i : Nat) (s : List UInt8) : Bool := atB L i 3 && ((tg L i).s == s)
section
variable {w : World} {P : Nat} {A : Option Addr} {c : Nat} {L : List Tk} {i : Nat} {en a e : Int} {vc vi : Value}
set_option maxRecDepth 100000 in
set_option maxHeartbeats 1000000 in
theorem qat_quiet (h : Qs w P A c L i en vc vi a e) (kind : Int) :
    Calls Tryz.prog 99 #[.pointer (some ⟨P, 0, none⟩), .int .i64 kind] w fun r w' => r = .returned (.bool (atB L i kind)) ∧ ∃ n, w' = w.drewN n := by
  have c0 := h.c0
  have c2 := h.c2
  have hlt := h.lt
  by_cases hi : i < L.length
  · obtain ⟨b, o, hAe, hbP, hcl⟩ := h.tl (by omega)
    obtain ⟨g0, _, _, _⟩ := hcl i hi
    subst hAe
    have hB : atB L i kind = ((tg L i).kind == kind) := by simp [atB, hi]
    rw [hB]
    clear h hcl hB
    generalize (tg L i).kind = q1 at *
    have t0 : decide (i < L.length) = true := by simp; omega
    have t0' : decide ((i : Int) < (L.length : Int)) = true := by simp; omega
    have hbw : b < w.heap.size := by omega
    go_enter Tryz.func99, Tryz.ntmps99
    go_wp2
    go_quiet (fail)
    go_wp2
    go_ret
    exact ⟨rfl, _, rfl⟩
  · have hB : atB L i kind = false := by simp [atB, hi]
    rw [hB]
    clear h hB
    have t0 : decide (i < L.length) = false := by simp; omega
    have t0' : decide ((i : Int) < (L.length : Int)) = false := by simp; omega
    go_enter Tryz.func99, Tryz.ntmps99
    go_wp2
    go_quiet (fail)
    go_wp2
    go_ret
    exact ⟨rfl, _, rfl⟩
set_option maxRecDepth 100000 in
set_option maxHeartbeats 1000000 in
theorem qatWord_any (h : Qs w P A c L i en vc vi a e) (s : List UInt8) :
    Calls Tryz.prog 72 #[.pointer (some ⟨P, 0, none⟩), .string (str s)] w fun r w' => r = .returned (.bool (atW L i s)) ∧ Below w.heap.size w w' := by
  have c0 := h.c0
  have c2 := h.c2
  have hlt := h.lt
  have hA : ∀ w', Qs w' P A c L i en vc vi a e → Calls Tryz.prog 99 #[.pointer (some ⟨P, 0, none⟩), .int .i64 3] w' fun r w'' => r = .returned (.bool (atB L i 3)) ∧ ∃ n, w'' = w'.drewN n := fun w' hq => qat_quiet hq 3
  unfold atW
  cases hb : atB L i 3 with
  | true =>
    have hi : i < L.length := by simp [atB] at hb; exact hb.1
    rw [hb] at hA
    obtain ⟨b, o, hAe, hbP, hcl⟩ := h.tl (by omega)
    obtain ⟨_, _, _, g3⟩ := hcl i hi
    subst hAe
    have HP := Lib.hid h
    have HA := Lib.hid hA
    clear h hcl hA hb
    generalize (tg L i).s = q4 at *
    have hbw : b < w.heap.size := by omega
    rw [Bool.true_and]
    go_enter Tryz.func72, Tryz.ntmps72
    go_wp2
    go_region_held (fun w' => w'.cell? ⟨P, 0, none⟩ = some (.slice (some ⟨b, o, none⟩) L.length c) ∧ w'.cell? ⟨P, 2, none⟩ = some (.int .i64 (i : Int)) ∧ w'.cell? ⟨b, o + i * 4 + 3, none⟩ = some (.string (str q4)))
      (first | with_reducible exact hcells | exact ⟨c0, c2, g3⟩)
      ((go_at_call 99; refine (HA.out _ HP.out.drew).mono ?_; rintro r w1 ⟨rfl, nn, rfl⟩; have hcells : (w.drew.drewN nn).cell? ⟨P, 0, none⟩ = some (.slice (some ⟨b, o, none⟩) L.length c) ∧ (w.drew.drewN nn).cell? ⟨P, 2, none⟩ = some (.int .i64 (i : Int)) ∧ (w.drew.drewN nn).cell? ⟨b, o + i * 4 + 3, none⟩ = some (.string (str q4)) := ⟨c0, c2, g3⟩))
    go_wp2
    go_ret
    refine ⟨?_, ?_⟩
    · first | rfl | (rw [bne_comm]; rfl) | (congr 1)
    · exact below_drewN (Below.refl _ _) _
  | false =>
    rw [hb] at hA
    have HP := Lib.hid h
    have HA := Lib.hid hA
    clear h hA hb
    rw [Bool.false_and]
    go_enter Tryz.func72, Tryz.ntmps72
    go_wp2
    go_quiet ((go_at_call 99; exact Calls.quiet_of (HA.out _ (HP.out.drewN _))))
    go_wp2
    go_ret
    exact ⟨rfl, below_drewN (Below.refl _ _) _⟩
end
end Go.Proofs.YthcnjiigkmljnaaGreatDoor
