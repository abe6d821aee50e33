/-
  slices.Clone at ints; the program's own units.
-/
import Derived.Test.YtkkochjdimegpaaDestPro2
namespace Go.Proofs.Ytkkochjdimegpaa
open Go.RowKit
attribute [local go_sem ↓] Go.wp_at_zero Go.wp_at_succ

set_option maxRecDepth 100000 in
set_option maxHeartbeats 2000000 in
/-- Units copied: new memory. -/
theorem Clone_any (a : Option Addr) (c : Nat) (u : List Int) (w : World) (hu : Un w a c u) (hn : 0 < u.length) (hl : u.length ≤ 1000) :
    Calls Try.prog 43 #[.slice a u.length c] w fun e w' => ∃ v, e = .returned v ∧ w'.ownsRow w.heap.size 3 1 v u.length (ivs u) ∧ Below w.heap.size w w' := by
  obtain ⟨i0, hi, hz0, hz1, hz2⟩ := info_parts info64
  obtain ⟨b, o, e, _⟩ := hu.si hn
  have HS := Lib.hid hu.si
  obtain ⟨n, hnn⟩ : ∃ n, n = u.length := ⟨_, rfl⟩
  have HN := Lib.hid hnn
  rw [← hnn]
  rw [e] at HS ⊢
  clear hu hnn e
  have hnil : ∀ wx, (binOp .eql 23 (.slice (some ⟨b, o, none⟩) n c) (.slice none 0 0)).run Try.prog wx = .ok (.bool false) wx := fun wx => Lib.run_eql_slice_nil wx 23 3 (some ⟨b, o, none⟩) n c 0 0 Try.underlying23
  go_enter Try.func43, Try.ntmps43
  go_wp2_with (at_builtin; refine app_ints rfl _ _ _ rfl w.heap.size 3 i0 Try.underlying23 hi hz0 hz1 hz2 _ [] rfl (own_emptyI w w.heap.size _ (Nat.le_refl _)) w.heap.size (some ⟨b, o, none⟩) _ _ u HN.out rfl (HS.out.alloc (Nat.le_refl _) _) (fun e => by cases e) (by simp; omega) (by simp) ?_; intro v' w3 hown3 hgrow3)
  go_ret
  rw [List.nil_append] at hown3
  exact ⟨v', rfl, by rw [HN.out]; exact hown3, (al_below w _).grown hgrow3 (by simp) (fun q hq => ((own_emptyI w w.heap.size 3 (Nat.le_refl _)).lt q hq).1)⟩
end Go.Proofs.Ytkkochjdimegpaa
