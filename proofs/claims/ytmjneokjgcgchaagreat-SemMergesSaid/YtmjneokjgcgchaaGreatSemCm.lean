/-
  The laws of layer 9, of tables that lists come to at once.
-/
import Derived.Test.YtmjneokjgcgchaaGreatPart4
namespace Go.Proofs.YtmjneokjgcgchaaGreat

theorem twice_cm {l : List Im} {t u : Pg} (h1 : Cm (lstL Pg.nil l) t) (h2 : Cm (lstL Pg.nil (l ++ l)) u) : u = t := by
  rw [lstL_append] at h2
  refine Cm.one (m := lstL Pg.nil l) ⟨?_, ?_, ?_, ⟨h2.ci.1, fun n v => ?_⟩, ⟨h2.no.1, fun n v => ?_⟩, h2.bf.1, fun n v => ?_⟩ h1
  · rw [h2.nm, lstL_nm, lstL_nm]; cases lastN l <;> rfl
  · rw [h2.wm, lstL_wmo, lstL_wmo]; cases lastW l <;> rfl
  · have := h2.sp
    rw [lstL_sp] at this
    exact Cnn.dup hol (fun r => by simp) this
  · rw [h2.ci.2, lstL_ci, lastS_append, or_self']
  · rw [h2.no.2, lstL_no, lastS_append, or_self']
  · rw [h2.bf.2, lstL_bf, lastB_append, or_self']
theorem parts_cm {l m : List Im} {a b c z : Pg} (h1 : Cm (lstL Pg.nil (l ++ m)) a) (hb : Cm (lstL Pg.nil l) b) (hc : Cm (lstL Pg.nil m) c) (hz : Cm (b.cat c) z) : z.at a.nm a.wm = a := by
  have h2 := hb.cat hc hz
  refine Cm.one (m := lstL Pg.nil (l ++ m)) ⟨h1.nm, h1.wm, ?_, ?_, ?_, ?_⟩ h1
  · have := h2.sp
    rw [lstL_append, lstL_sp]
    exact this
  · have := h2.ci
    rw [lstL_append, lstL_ci]
    exact this
  · have := h2.no
    rw [lstL_append, lstL_no]
    exact this
  · have := h2.bf
    rw [lstL_append, lstL_bf]
    exact this
theorem last_cm {l : List Im} {t : Pg} (k : Cm (lstL Pg.nil l) t) : (∀ n v, lastS true t.ci n v = lastS true (lstL Pg.nil l).ci n v) ∧ (∀ n v, lastS false t.no n v = lastS false (lstL Pg.nil l).no n v) ∧ (∀ n v, lastB t.bf n v = lastB (lstL Pg.nil l).bf n v) ∧ (∀ n v, t.sp.any (fun r => inC r n v) = (lstL Pg.nil l).sp.any fun r => inC r n v) ∧ t.nm = (lstL Pg.nil l).nm ∧ t.wm = (lstL Pg.nil l).wm :=
  ⟨k.ci.2, k.no.2, k.bf.2, fun n v => Cnn.whole hol k.sp (fun r hr => ((inC_iff r n v).1 hr).1) (fun _ _ hb hi => inC_held hb hi), k.nm, k.wm⟩
theorem ts_cm {l : List Im} {t : Pg} (h : Cm (lstL Pg.nil l) t) : Ts t := h.ts (lstL_wm (.inl rfl))
theorem ts_merge {t u z : Pg} (h : Ts t) (hz : Cm (t.cat u) z) : Ts z := hz.ts h.wm
end Go.Proofs.YtmjneokjgcgchaaGreat
