/-
  The document's own further (hornbookref08): units copied, the last one so much more.
-/
import Derived.Test.YtkkochjdimegpaaDestUnits
namespace Go.Proofs.Ytkkochjdimegpaa
open Go.RowKit
attribute [local go_sem ↓] Go.wp_at_zero Go.wp_at_succ

set_option maxRecDepth 100000 in
set_option maxHeartbeats 4000000 in
theorem further_any (a : Option Addr) (c : Nat) (u : List Int) (d : Int) (w : World) (hu : Un w a c u) (hn : 0 < u.length) (hl : u.length ≤ 1000) (h0 : -9223372036854775808 ≤ lastU u + d) (h1 : lastU u + d < 9223372036854775808) :
    Calls Try.prog 30 #[.slice a u.length c, .int .i64 d] w fun e w' => ∃ v, e = .returned v ∧ w'.ownsRow w.heap.size 3 1 v u.length (ivs (addU u d)) ∧ Below w.heap.size w w' := by
  obtain ⟨i0, hi, hz0, hz1, hz2⟩ := info_parts info64
  obtain ⟨b, o, e, _⟩ := hu.si hn
  have HS := Lib.hid hu.si
  obtain ⟨q, hq⟩ : ∃ q, u.length = q + 1 := ⟨u.length - 1, by omega⟩
  have HQ := Lib.hid hq
  have E1 := Lib.hid (ivs_set_last hq d)
  have hwr : IntKind.i64.wrap (lastU u + d) = lastU u + d := IntWalk.i64_in _ (by omega)
  rw [hq] at hl ⊢
  rw [e] at HS ⊢
  clear hu e hn hq h0 h1
  have f1 : (0 : Int) ≤ (q : Int) := by omega
  go_enter Try.func30, Try.ntmps30
  go_wp2_with (at_builtin; refine app_ints rfl _ _ _ rfl w.heap.size 3 i0 Try.underlying23 hi hz0 hz1 hz2 _ [] rfl (own_emptyI w w.heap.size _ (Nat.le_refl _)) w.heap.size (some ⟨b, o, none⟩) _ _ u HQ.out.symm rfl (HS.out.alloc (Nat.le_refl _) _) (fun e => by cases e) (by simp; have := HQ.out; omega) (by simp) ?_; intro v' w3 hown3 hgrow3; rw [List.nil_append] at hown3; rw [HQ.out] at hown3; obtain ⟨g, cap, hv', hg1, hg2⟩ := hown3.form (by omega); subst hv'; have hf := hown3.frozenAt q; have hcl := hown3.cells (g := g) rfl q _ (ivs_get u q (by have := HQ.out; omega)); have k3 := hown3.stored q (.int .i64 (lastU u + d)); rw [E1.out] at k3; rw [addr_add, Nat.zero_add, lastU_at HQ.out, Option.getD_some] at hcl)
  go_ret
  exact ⟨_, rfl, k3.1, ((al_below w _).grown hgrow3 (by simp) (fun q hq => ((own_emptyI w w.heap.size 3 (Nat.le_refl _)).lt q hq).1)).setCell (p := ⟨g, q, none⟩) (by show w.heap.size ≤ g; omega) _⟩
end Go.Proofs.Ytkkochjdimegpaa
