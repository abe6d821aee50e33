/-
  What holds at each round of overlaying; how far it is to the end, told from memory.
-/
import Derived.Test.YtmjneokjgcgchaaGreatDestAll
namespace Go.Proofs.YtmjneokjgcgchaaGreat
open Go.RowKit

/-- One more if the heads are not at one place. -/
def hd1 : List Bp → List Bp → Nat
  | a :: _, b :: _ => if a.lo < b.lo then 1 else 0
  | _, _ => 0
theorem hd1_le (T V : List Bp) : hd1 T V ≤ 1 := by
  unfold hd1
  split
  · split <;> omega
  · omega
/-- A slice of a block that holds entries, from some place on and up to one. -/
def Rsd (w : World) (b o h : Nat) (A : Option Addr) (d : List Me) : Prop := 0 < d.length → ∃ p, A = some ⟨b, p, none⟩ ∧ o ≤ p ∧ p + d.length * 4 ≤ h ∧ Rt w b p d
section
variable {w w' : World} {b o h : Nat} {A : Option Addr} {d : List Me}
theorem Rsd.below (hr : Rsd w b o h A d) (k : Below w.heap.size w w') : Rsd w' b o h A d := fun hn => by
  obtain ⟨p, e, h1, h2, h3⟩ := hr hn
  exact ⟨p, e, h1, h2, h3.below k⟩
theorem Rsd.grown (hr : Rsd w b o h A d) {row : Option Nat} (k : w.grownBy w' row) (hg : ∀ g, row = some g → g ≠ b) : Rsd w' b o h A d := fun hn => by
  obtain ⟨p, e, h1, h2, h3⟩ := hr hn
  exact ⟨p, e, h1, h2, h3.grown k hg⟩
theorem Rsd.fz {bt lo hi : Nat} (hr : Rsd w b o h A d) (k : Fz w w' bt lo hi) (hd : b ≠ bt ∨ h ≤ lo ∨ hi ≤ o) : Rsd w' b o h A d := fun hn => by
  obtain ⟨p, e, h1, h2, h3⟩ := hr hn
  exact ⟨p, e, h1, h2, h3.fz k (by omega)⟩
theorem Rsd.rd (hr : Rsd w b o h A d) (B : Nat) (hB : b < B) : Rd w B A d := fun hn => by
  obtain ⟨p, e, h1, h2, h3⟩ := hr hn
  exact ⟨b, p, e, hB, fun j x hx => h3.f4 hx⟩
theorem Rsd.nil : Rsd w b o h A [] := fun h => absurd h (by simp)
end
/-- What lies in memory at each round: entries that are left of the one below, of the one above, and those that are made. -/
structure OvM (w : World) (bt lo hi bv ov hv : Nat) (At Av : Option Addr) (T V O : List Me) (wr : World) : Prop where
  rt : Rsd wr bt lo hi At T
  rv : Rsd wr bv ov hv Av V
  ut : Utl wr T
  uv : Utl wr V
  uo : Utl wr O
  fz : Fz w wr bt lo hi
section
variable {w : World} {bt lo hi bv ov hv : Nat} {At Av : Option Addr} {T V O : List Me} {wr W : World}
theorem OvM.below (h : OvM w bt lo hi bv ov hv At Av T V O wr) (k : Below wr.heap.size wr W) : OvM w bt lo hi bv ov hv At Av T V O W :=
  ⟨h.rt.below k, h.rv.below k, h.ut.ik (Ik.of_below k), h.uv.ik (Ik.of_below k), h.uo.ik (Ik.of_below k), h.fz.below k⟩
theorem OvM.grown (h : OvM w bt lo hi bv ov hv At Av T V O wr) {row : Option Nat} (k : wr.grownBy W row) (hbt : bt < w.heap.size) (hbv : bv < w.heap.size) (hr : ∀ g, row = some g → w.heap.size ≤ g ∧ Tq wr g) : OvM w bt lo hi bv ov hv At Av T V O W :=
  have hk := Ik.of_grown k (fun g e => (hr g e).2)
  ⟨h.rt.grown k (fun g e => by have := (hr g e).1; omega), h.rv.grown k (fun g e => by have := (hr g e).1; omega), h.ut.ik hk, h.uv.ik hk, h.uo.ik hk, h.fz.grown k (fun g e => (hr g e).1)⟩
end
/-- What holds at each round, plainly. -/
structure OvP (G : Int → Int → Option (List Int)) (M : Nat) (T V O : List Bp) : Prop where
  iv : IvB O V T
  tell : ∀ n y, mB O V T n y = G n y
  len : O.length + 2 * T.length + 2 * V.length + hd1 T V ≤ M
section
variable {G : Int → Int → Option (List Int)} {M : Nat} {T V O : List Bp} {a b : Bp}
theorem OvP.sa (h : OvP G M (a :: T) V O) : Sb a := h.iv.sT a List.mem_cons_self
theorem OvP.sb (h : OvP G M T (b :: V) O) : Sb b := h.iv.cv.1 b List.mem_cons_self
theorem OvP.low (h : OvP G M (a :: T) (b :: V) O) (hab : ahB a b) : OvP G M T (b :: V) (addE O a) := by
  obtain ⟨g1, g2⟩ := h.iv.low (a := a) fun x hx => by
    rcases List.mem_cons.1 hx with rfl | hx
    · exact hab
    · exact hab.trans ((List.pairwise_cons.1 h.iv.cv.2).1 x hx).1 (h.iv.cv.lo List.mem_cons_self)
  refine ⟨g1, fun n y => (g2 n y).trans (h.tell n y), ?_⟩
  have h1 := h.len
  have h2 := addE_length O a
  have h3 := hd1_le T (b :: V)
  simp only [List.length_cons] at *
  omega
theorem OvP.up (h : OvP G M (a :: T) (b :: V) O) (hba : ahB b a) : OvP G M (a :: T) V (addE O b) := by
  obtain ⟨g1, g2⟩ := h.iv.up (x := b) fun z hz => by
    rcases List.mem_cons.1 hz with rfl | hz
    · exact hba
    · exact hba.trans ((List.pairwise_cons.1 h.iv.pT).1 z hz) h.sa.2.2.1
  refine ⟨g1, fun n y => (g2 n y).trans (h.tell n y), ?_⟩
  have h1 := h.len
  have h2 := addE_length O b
  have h3 := hd1_le (a :: T) V
  simp only [List.length_cons] at *
  omega
theorem meet_eq (h1 : ¬ ahB a b) (h2 : ¬ ahB b a) : a.n = b.n ∧ b.lo ≤ a.hi ∧ a.lo ≤ b.hi := by
  unfold ahB at h1 h2
  omega
theorem OvP.cutLo (h : OvP G M (a :: T) (b :: V) O) (h1 : ¬ ahB a b) (h2 : ¬ ahB b a) (h3 : a.lo < b.lo) : OvP G M (partB a b.lo a.hi :: T) (b :: V) (addE O (partB a a.lo (b.lo - 1))) := by
  obtain ⟨e1, e2, e3⟩ := meet_eq h1 h2
  obtain ⟨g1, g2⟩ := h.iv.cutLo e1 h3 e2
  refine ⟨g1, fun n y => (g2 n y).trans (h.tell n y), ?_⟩
  have k1 := h.len
  have k2 := addE_length O (partB a a.lo (b.lo - 1))
  have k3 : hd1 (a :: T) (b :: V) = 1 := by simp [hd1, h3]
  have k4 : hd1 (partB a b.lo a.hi :: T) (b :: V) = 0 := by simp [hd1, partB]
  rw [k3] at k1
  rw [k4]
  simp only [List.length_cons] at *
  omega
theorem OvP.cutHi (h : OvP G M (a :: T) (b :: V) O) (h1 : ¬ ahB a b) (h2 : ¬ ahB b a) (h3 : ¬ a.lo < b.lo) (h4 : b.hi < a.hi) : OvP G M (partB a (b.hi + 1) a.hi :: T) (b :: V) O := by
  obtain ⟨e1, e2, e3⟩ := meet_eq h1 h2
  obtain ⟨g1, g2⟩ := h.iv.cutHi e1 (by omega) e3 h4
  refine ⟨g1, fun n y => (g2 n y).trans (h.tell n y), ?_⟩
  have k1 := h.len
  have hb := h.sb.2.2.1
  have k4 : hd1 (partB a (b.hi + 1) a.hi :: T) (b :: V) = 0 := by
    have : ¬ (b.hi + 1 < b.lo) := by omega
    simp [hd1, partB, this]
  rw [k4]
  simp only [List.length_cons] at *
  omega
theorem OvP.skip (h : OvP G M (a :: T) (b :: V) O) (h1 : ¬ ahB a b) (h2 : ¬ ahB b a) (h3 : ¬ a.lo < b.lo) (h4 : ¬ b.hi < a.hi) : OvP G M T (b :: V) O := by
  obtain ⟨e1, e2, e3⟩ := meet_eq h1 h2
  obtain ⟨g1, g2⟩ := h.iv.skip (b := b) List.mem_cons_self e1 (by omega) (by omega)
  refine ⟨g1, fun n y => (g2 n y).trans (h.tell n y), ?_⟩
  have k1 := h.len
  have k2 := hd1_le T (b :: V)
  simp only [List.length_cons] at *
  omega
theorem OvP.so (h : OvP G M T V O) : ∀ s ∈ O, Sb s := h.iv.co.1
theorem OvP.sv (h : OvP G M T V O) : ∀ s ∈ V, Sb s := h.iv.cv.1
theorem OvP.st (h : OvP G M T V O) : ∀ s ∈ T, Sb s := h.iv.sT
theorem wid_sb (h : Sb a) : 1 ≤ (a.hi - a.lo + 1).toNat := by have := h.2.2.1; omega
theorem OvP.endV (h : OvP G M [] V O) : Ct (V.foldl addE O) ∧ ∀ n y, lastB (V.foldl addE O) n y = G n y := by
  obtain ⟨g1, g2⟩ := h.iv.restV
  exact ⟨g1, fun n y => (g2 n y).trans (h.tell n y)⟩
theorem OvP.endT (h : OvP G M T [] O) : Ct (T.foldl addE O) ∧ ∀ n y, lastB (T.foldl addE O) n y = G n y := by
  obtain ⟨g1, g2⟩ := h.iv.restT
  exact ⟨g1, fun n y => (g2 n y).trans (h.tell n y)⟩
end
/-- A block of entries that is so long. -/
def Tz (w : World) (b n : Nat) : Prop := ∃ cs, w.heap[b]? = some (Obj.cells cs 73 (0, 0)) ∧ n ≤ cs.size
theorem Rt.tz {w : World} {b o : Nat} {x : Me} {d : List Me} (h : Rt w b o (x :: d)) : Tz w b (o + 4) := by
  obtain ⟨cs, h1, h2⟩ := h
  have := h2 0 x rfl 3 _ rfl
  have := (Array.getElem?_eq_some_iff.1 this).1
  exact ⟨cs, h1, by omega⟩
theorem store_head {W : World} {bt pa lo hi : Nat} {x : Me} {d : List Me} (y : Me) (h : Rt W bt pa (x :: d)) (h1 : lo ≤ pa) (h2 : pa + 4 ≤ hi) : ∀ X, X = (((W.setCell ⟨bt, pa, none⟩ (.int .i64 y.b.n)).setCell ⟨bt, pa + 1, none⟩ (.int .i64 y.b.lo)).setCell ⟨bt, pa + 2, none⟩ (.int .i64 y.b.hi)).setCell ⟨bt, pa + 3, none⟩ (.slice y.a y.b.u.length y.c) → Rt X bt pa (y :: d) ∧ Fz W X bt lo hi := by
  rintro X rfl
  exact ⟨Rt.head h, ((((Fz.refl W bt lo hi).set pa _ (by omega) (by omega)).set (pa + 1) _ (by omega) (by omega)).set (pa + 2) _ (by omega) (by omega)).set (pa + 3) _ (by omega) (by omega)⟩
theorem own_fzD {w w' : World} {base n bt lo hi size : Nat} {e : TypeId} {v : Value} {xs : List Value} (h : w.ownsRow base e size v n xs) (k : Fz w w' bt lo hi) (hb : bt < base) : w'.ownsRow base e size v n xs := by
  refine ⟨h.1, ?_⟩
  rcases h.2 with hn | ⟨g, cap, cur, rfl, h1, hg, rest⟩
  · exact .inl hn
  · exact .inr ⟨g, cap, cur, rfl, h1, (k.keep g (Array.getElem?_eq_some_iff.1 hg).1 (by omega)).trans hg, rest⟩
/-- The head of the one below is written anew. -/
theorem OvM.head {w : World} {bt lo hi bv ov hv pa : Nat} {Av : Option Addr} {x : Me} {T V O : List Me} {W X : World} (h : OvM w bt lo hi bv ov hv (some ⟨bt, pa, none⟩) Av (x :: T) V O W) (y : Me) (hy : Ut W y.a y.c y.b.u) (hr : Rt X bt pa (y :: T)) (hf : Fz W X bt lo hi) (hh : lo ≤ pa ∧ pa + (T.length + 1) * 4 ≤ hi) (ht : Tq W bt) (hdis : bv ≠ bt ∨ hv ≤ lo ∨ hi ≤ ov) : OvM w bt lo hi bv ov hv (some ⟨bt, pa, none⟩) Av (y :: T) V O X := by
  have ik := hf.ik ht
  refine ⟨fun _ => ⟨pa, rfl, hh.1, by simpa using hh.2, hr⟩, h.rv.fz hf hdis, ?_, h.uv.ik ik, h.uo.ik ik, h.fz.trans hf (Nat.le_refl _) (Nat.le_refl _) (Nat.le_refl _) (Nat.le_refl _)⟩
  intro m hm
  rcases List.mem_cons.1 hm with rfl | hm
  · exact hy.ik ik
  · exact (h.ut m (List.mem_cons_of_mem _ hm)).ik ik
theorem of_pl {d : List Me} (h : ∀ s ∈ pl d, Sb s) : ∀ y ∈ d, Sb y.b := fun y hy => h y.b (List.mem_map.2 ⟨y, hy, rfl⟩)
end Go.Proofs.YtmjneokjgcgchaaGreat
