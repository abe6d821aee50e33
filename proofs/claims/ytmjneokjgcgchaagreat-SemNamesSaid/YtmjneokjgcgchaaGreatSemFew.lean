/-
  How long the lists of a table are (layer 9).
-/
import Derived.Test.YtmjneokjgcgchaaGreatSemTold
namespace Go.Proofs.YtmjneokjgcgchaaGreat
open Go.RowKit

theorem ltC_irr (r : Rc) : ltC r r = false := by
  unfold ltC
  simp
theorem CR.few {l m : List Rc} (h : CR l m) : m.length ≤ l.length :=
  nodup_le (h.ord.imp fun {a b} hab e => by subst e; rw [ltC_irr] at hab; cases hab) fun r hr => h.sub hr
theorem Cm.few {m t : Pg} (h : Cm m t) : t.sp.length ≤ m.sp.length ∧ t.ci.length ≤ 2 * m.ci.length ∧ t.no.length ≤ 2 * m.no.length ∧ t.bf.length ≤ 2 * m.bf.length :=
  ⟨h.sp.few, h.ci.1.few h.ci.2, h.no.1.few h.no.2, h.bf.1.few h.bf.2⟩
theorem ct_units {d : List Me} (h : Ct (pl d)) : ∀ m ∈ d, m.b.u.length ≤ 64 := fun m hm => (h.1 m.b (List.mem_map_of_mem hm)).2.2.2.1.2.1
/-- A table that few lists come to. -/
theorem Cm.tq {m : Pg} {t : Tb} (h : Cm m (Tp t)) (h0 : m.sp.length ≤ 1000) (h1 : m.ci.length ≤ 1000) (h2 : m.no.length ≤ 1000) (h3 : m.bf.length ≤ 1000) : Tq9 t ∧ t.sp.length ≤ 1000 ∧ t.ci.length ≤ 2000 ∧ t.no.length ≤ 2000 ∧ t.bf.length ≤ 2000 := by
  obtain ⟨a, b, c, d⟩ := h.few
  simp only [Tp, pl_length] at a b c d
  exact ⟨⟨by omega, by omega, by omega, by omega, fun m hm => Nat.le_trans (ct_units h.bf.1 m hm) (by omega)⟩, by omega, by omega, by omega, by omega⟩
end Go.Proofs.YtmjneokjgcgchaaGreat
