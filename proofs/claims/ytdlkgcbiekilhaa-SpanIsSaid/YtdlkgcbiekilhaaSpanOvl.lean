/-
  The program's own overlay: one table of two, the second of which overrides.
-/
import Derived.Test.YtdlkgcbiekilhaaSpanLeft
import Derived.Test.YtdlkgcbiekilhaaSpanOv
import Derived.Laws.MakeOwn
namespace Go.Proofs.Ytdlkgcbiekilhaa
open Go.RowKit Go.Shelf
attribute [local go_sem] Oper.semAt_some

section
variable {st : Bool}
theorem stepP_lens (q : List Sp × List Sp) (p : Sp) : (stepP st q p).1.length + (stepP st q p).2.length ≤ q.1.length + q.2.length + 1 ∧ (stepP st q p).2.length ≤ q.2.length := by
  have h1 := addA_lens (st := st) (s := p) (v := q.2) (o := q.1)
  have h2 := addL_length (st := st) (addA st q.1 q.2 p).1 p
  show (addL st (addA st q.1 q.2 p).1 p).length + (addA st q.1 q.2 p).2.length ≤ _ ∧ (addA st q.1 q.2 p).2.length ≤ _
  omega
theorem foldP_lens : ∀ (P : List Sp) (q : List Sp × List Sp), (P.foldl (stepP st) q).1.length + (P.foldl (stepP st) q).2.length ≤ q.1.length + q.2.length + P.length ∧ (P.foldl (stepP st) q).2.length ≤ q.2.length
  | [], q => ⟨Nat.le_refl _, Nat.le_refl _⟩
  | p :: P, q => by
    have h1 := stepP_lens (st := st) q p
    have h2 := foldP_lens P (stepP st q p)
    rw [List.foldl_cons, List.length_cons]
    omega
theorem stepS_lens (q : List Sp × List Sp) (s : Sp) : (stepS st q s).1.length + (stepS st q s).2.length ≤ q.1.length + q.2.length + q.2.length + 1 ∧ (stepS st q s).2.length ≤ q.2.length := by
  have h1 := addA_lens (st := st) (s := s) (v := q.2) (o := q.1)
  have h2 := leftG_length (st := st) s (addA st q.1 q.2 s).2 s.lo
  have h3 := foldP_lens (st := st) (leftG st s s.lo (addA st q.1 q.2 s).2) (addA st q.1 q.2 s)
  unfold stepS
  omega
/-- All small. -/
def Nq (q : List Sp × List Sp) : Prop := (∀ y ∈ q.1, Nr y) ∧ (∀ y ∈ q.2, Nr y)
theorem stepP_nr {q : List Sp × List Sp} {p : Sp} (h : Nq q) (hp : Nr p) : Nq (stepP st q p) := by
  have h1 := addA_nr (st := st) (s := p) h.1 h.2
  exact ⟨addL_nr h1.1 hp, h1.2⟩
theorem foldP_nr : ∀ (P : List Pt) (q : List Sp × List Sp), Nq q → Nq ((P.map (·.1)).foldl (stepP st) q)
  | [], _, h => h
  | p :: P, q, h => by
    rw [List.map_cons, List.foldl_cons]
    exact foldP_nr P _ (stepP_nr h p.2)
theorem Iv.nq {q : List Sp × List Sp} {T : List Sp} (h : Iv st q.1 q.2 T) : Nq q := ⟨fun y hy => Sn.nr (h.co.1 y hy), fun y hy => Sn.nr (h.cv.1 y hy)⟩
theorem Iv.sts {T : List Sp} : ∀ (k : Nat) (o v : List Sp), Iv st o v T → Iv st ((T.take k).foldl (stepS st) (o, v)).1 ((T.take k).foldl (stepS st) (o, v)).2 (T.drop k) := by
  induction T with
  | nil => intro k o v h; simpa using h
  | cons s T ih =>
    intro k o v h
    cases k with
    | zero => exact h
    | succ k =>
      rw [List.take_succ_cons, List.foldl_cons, List.drop_succ_cons]
      exact ih k _ _ h.one.1
end
/-- The marks of loops that are over. -/
structure Mk (B : Nat) (w : World) (ds : List Deferred) (W : World) : Prop where
  all : ∀ d ∈ ds, ∃ D, d = { target := .collected D, args := #[] } ∧ w.heap.size ≤ D ∧ D < B ∧ W.heap[D]? = some (.deferred (some []))
  pw : ds.Pairwise (· ≠ ·)
section
variable {w W W2 : World} {ds : List Deferred} {B : Nat} {st : Bool} {q : List Sp × List Sp}
theorem Mk.eff (h : Mk B w ds W) (ho : Ov w st q W) (he : Eff (w.heap.size + 3) w.heap.size W W2) : Mk B w ds W2 :=
  ⟨fun d hd => by
    obtain ⟨D, h1, h2, h3, h4⟩ := h.all d hd
    exact ⟨D, h1, h2, h3, ho.noncells he h4 rfl⟩, h.pw⟩
theorem Mk.more (h : Mk B w ds W) {B' : Nat} (hB : B ≤ B') : Mk B' w ds W :=
  ⟨fun d hd => by
    obtain ⟨D, h1, h2, h3, h4⟩ := h.all d hd
    exact ⟨D, h1, h2, Nat.lt_of_lt_of_le h3 hB, h4⟩, h.pw⟩
theorem Mk.own {β : Type} : OwnFrom B (fun (_ : β) W => Mk B w ds W) := fun _ X Y r h hg hr =>
  ⟨fun d hd => by
    obtain ⟨D, h1, h2, h3, h4⟩ := h.all d hd
    exact ⟨D, h1, h2, h3, (hg.block D (Array.getElem?_eq_some_iff.1 h4).1 (fun e => by have := (hr D e.symm).1; omega)).trans h4⟩, h.pw⟩
theorem Mk.cons (h : Mk B w ds W) {D : Nat} (h1 : B ≤ D) (h2 : w.heap.size ≤ D) (h3 : W.heap[D]? = some (.deferred (some []))) : Mk W.heap.size w ({ target := .collected D, args := #[] } :: ds) W :=
  ⟨fun d hd => by
    rcases List.mem_cons.1 hd with rfl | hd
    · exact ⟨D, rfl, h2, (Array.getElem?_eq_some_iff.1 h3).1, h3⟩
    · obtain ⟨E, k1, k2, _, k4⟩ := h.all d hd
      exact ⟨E, k1, k2, (Array.getElem?_eq_some_iff.1 k4).1, k4⟩,
   List.pairwise_cons.2 ⟨fun d hd e => by
    obtain ⟨E, k1, _, k3, _⟩ := h.all d hd
    rw [k1] at e
    injection e with e _
    injection e with e
    omega, h.pw⟩⟩
/-- Out of a function with marks. -/
theorem leaves_marks {F : Fence} {n : Nat} {P : Program} {fn : Func} {tmps : Array Value} {R : Ending → World → Prop} {Z : World → Prop} {u : FrameMode} (hu : u ≠ .run) (hz : ∀ (W : World) (D : Nat), w.heap.size ≤ D → W.heap[D]? = some (.deferred (some [])) → Z W → Z (W.putObj D (.deferred none))) (hend : ∀ W, Z W → LeavesInM F n P fn tmps R [] u W) :
    ∀ (ds : List Deferred) (W : World), Mk B w ds W → Z W → LeavesInM F n P fn tmps R ds u W := by
  intro ds
  induction ds with
  | nil => exact fun W _ h => hend W h
  | cons d ds ih =>
    intro W hm hW
    obtain ⟨D, rfl, h2, h3, h4⟩ := hm.all d List.mem_cons_self
    refine ⟨hu, .inl ⟨D, _, rfl, run_takeDeferred h4, ih _ ⟨fun e he => ?_, (List.pairwise_cons.1 hm.pw).2⟩ (hz W D h2 h4 hW)⟩⟩
    obtain ⟨E, k1, k2, k3, k4⟩ := hm.all e (List.mem_cons_of_mem _ he)
    have hne : E ≠ D := fun e2 => (List.pairwise_cons.1 hm.pw).1 e he (by rw [k1, e2])
    exact ⟨E, k1, k2, k3, (World.putObj_heap_other hne).trans k4⟩
end
theorem Ov.ss {w : World} {st : Bool} {q q' : List Sp × List Sp} {W1 W2 : World} (h1 : Ov w st q W1) (h2 : Ov w st q' W2) {A : Option Addr} {l : List Sp} (h : Ss W1 w.heap.size A l) : Ss W2 w.heap.size A l :=
  h.keep fun _ hp => (h2.bel.cell hp).trans (h1.bel.cell hp).symm
theorem Ov.kept {w : World} {st : Bool} {q : List Sp × List Sp} {W W1 : World} {v : Value} (h : Ov w st q W) (hv : Boxed W (w.heap.size + 3) 22 v) (h5 : W.grownBy W1 v.ownBlock) : Boxed W1 (w.heap.size + 3) 22 v ∧ (∃ u, Boxed W1 w.heap.size 22 u) ∧ Boxed W1 (w.heap.size + 1) 4 (.bool st) := by
  have ne : ∀ b, b < w.heap.size + 2 ∨ b = w.heap.size + 3 → some b ≠ v.ownBlock := fun b hb e => by
    have := h.ok b (by rw [rowB_of hv.cell, ← e])
    omega
  obtain ⟨A, c, b2, _, _⟩ := h.ovr
  exact ⟨hv.kept h5 (ne _ (.inr rfl)), ⟨_, b2.kept h5 (ne _ (by omega))⟩, h.stp.kept h5 (ne _ (by omega))⟩
/-- Where the row ends. -/
theorem own_ret {w W : World} {v : Value} {l : List Sp} (h : W.ownsRow w.heap.size 24 4 v l.length (svs l)) (hb : Below w.heap.size w W) : RetS w l (.returned v) W := by
  rcases h.2 with ⟨hv, hn⟩ | ⟨g, cap, cur, hv, _⟩
  · obtain rfl : l = [] := List.eq_nil_of_length_eq_zero hn
    exact ⟨none, 0, by rw [hv]; rfl, Nat.le_refl _, fun _ => rfl, Ss.nil, hb⟩
  · obtain ⟨c, _, h2, A, h3, h4⟩ := Ss.of_own h
    refine ⟨A, c, by rw [h3], h2, fun e => ?_, h4, hb⟩
    rw [h3, e] at hv
    cases hv
theorem own_put {w W : World} {v : Value} {l : List Sp} {D : Nat} (hD : w.heap.size ≤ D) (hK : W.heap[D]? = some (.deferred (some []))) (h : W.ownsRow w.heap.size 24 4 v l.length (svs l) ∧ Below w.heap.size w W) : (W.putObj D (.deferred none)).ownsRow w.heap.size 24 4 v l.length (svs l) ∧ Below w.heap.size w (W.putObj D (.deferred none)) := by
  refine ⟨⟨h.1.1, ?_⟩, h.2.grown (grownBy_putObj' W D (.deferred none)) h.2.size (fun g e => by cases e; exact hD)⟩
  rcases h.1.2 with hn | ⟨g, cap, cur, rfl, k1, k2, rest⟩
  · exact .inl hn
  · refine .inr ⟨g, cap, cur, rfl, k1, (World.putObj_heap_other fun e => ?_).trans k2, rest⟩
    subst e
    rw [hK] at k2
    cases k2
set_option maxRecDepth 100000 in
set_option maxHeartbeats 8000000 in
theorem overlay_any (st : Bool) (A0 A1 : Option Addr) (c0 c1 : Nat) (t over : List Sp) (w : World) (h0 : Ss w w.heap.size A0 t) (h1 : Ss w w.heap.size A1 over) (hc1 : over.length ≤ c1) (ht : Cn st t) (hv : Cn st over) (hlt : t.length ≤ 10000) (hlv : over.length ≤ 10000) :
    Calls Try.prog 41 #[.slice A0 t.length c0, .slice A1 over.length c1, .bool st] w (RetS w (overL st t over)) := by
  obtain ⟨i0, hi, hz0, hz1, hz2⟩ := info_parts infoS
  have HT := Lib.hid h0
  have HV1 := Lib.hid h1
  have hIv : Iv st [] over t := ⟨Cn.nil, hv, ht.1, ht.ah, by simp, by simp⟩
  have HIV := Lib.hid hIv
  obtain ⟨n, hn⟩ : ∃ n, n = t.length := ⟨_, rfl⟩
  obtain ⟨m, hm⟩ : ∃ m, m = over.length := ⟨_, rfl⟩
  have HN := Lib.hid hn
  have HM := Lib.hid hm
  rw [← hn, ← hm]
  rw [← hn] at hlt
  rw [← hm] at hlv hc1
  clear hn hm h0 h1 ht hv hIv
  refine (callsIn_wide (n := 8)).1 ?_
  refine callsIn_of_wp_marks Try.func41 rfl trivial ?_
  simp only [Try.ntmps41, List.size_toArray, List.length_cons, List.length_nil, Nat.reduceAdd, Nat.reduceSub, Array.replicate_succ, Array.replicate_zero, List.push_toArray, List.append_toArray, List.nil_append, List.cons_append]
  have hmk : ∀ W : World, (Instr.makeSlice 22 (.int .i64 0) (.int .i64 ((n : Int) + (m : Int)))).run Try.prog W = .ok (.slice (some ⟨W.heap.size, 0, none⟩) 0 (n + m)) (W.alloc (.cells (madeCells (Value.agg #[.int .i64 0, .int .i64 0, .int .i64 0, .int .i64 0]).cells ((n + m) * 4)) 24)) := fun W => by
    have h := run_make (P := Try.prog) W 22 24 i0 (.agg #[.int .i64 0, .int .i64 0, .int .i64 0, .int .i64 0]) Try.underlying22 hi hz0 .i64 .i64 0 ((n : Int) + (m : Int)) (Int.le_refl _) (by omega) (by rw [hz2]; omega) (by omega)
    rw [hz1, show ((n : Int) + (m : Int)).toNat = n + m by omega] at h
    exact h
  gi_wp2
  have hOv : Ov w st ([], over) ((((w.alloc (.cells #[.slice A1 m c1] 22)).alloc (.cells #[.bool st] 4)).alloc (.cells (madeCells #[.int .i64 0, .int .i64 0, .int .i64 0, .int .i64 0] ((n + m) * 4)) 24)).alloc (.cells #[.slice (some ⟨w.heap.size + 1 + 1, 0, none⟩) 0 (n + m)] 22)) := by
    have b1 := (Boxed.new w 22 (.slice A1 m c1)).alloc (.cells #[.bool st] 4)
    have b2 := Boxed.new (w.alloc (.cells #[.slice A1 m c1] 22)) 4 (.bool st)
    have hr := World.ownsRow_made (base := w.heap.size) (e := 24) (size := 4) ((w.alloc (.cells #[.slice A1 m c1] 22)).alloc (.cells #[.bool st] 4)) (madeCells #[.int .i64 0, .int .i64 0, .int .i64 0, .int .i64 0] ((n + m) * 4)) (n + m) (by simp; omega) (by unfold maxLen; omega) (size_madeCells _ _)
    have bl : ∀ (a b : World) (o : Obj), Below w.heap.size a b → w.heap.size ≤ b.heap.size → Below w.heap.size a (b.alloc o) ∧ w.heap.size ≤ (b.alloc o).heap.size := fun a b o k1 k2 => ⟨k1.alloc k2 o, by rw [World.size_alloc]; omega⟩
    have k1 := bl w w (.cells #[.slice A1 m c1] 22) (Below.refl _ _) (Nat.le_refl _)
    have k2 := bl _ _ (.cells #[.bool st] 4) k1.1 k1.2
    have k3 := bl _ _ (.cells (madeCells #[.int .i64 0, .int .i64 0, .int .i64 0, .int .i64 0] ((n + m) * 4)) 24) k2.1 k2.2
    have k4 := bl _ _ (.cells #[.slice (some ⟨w.heap.size + 1 + 1, 0, none⟩) 0 (n + m)] 22) k3.1 k3.2
    simp only [World.size_alloc] at b2 hr
    generalize madeCells #[.int .i64 0, .int .i64 0, .int .i64 0, .int .i64 0] ((n + m) * 4) = cs at *
    have b4 := Boxed.new (((w.alloc (.cells #[.slice A1 m c1] 22)).alloc (.cells #[.bool st] 4)).alloc (.cells cs 24)) 22 (.slice (some ⟨w.heap.size + 1 + 1, 0, none⟩) 0 (n + m))
    simp only [World.size_alloc] at b4
    refine ⟨k4.1, by simp, (b2.alloc _).alloc _, ⟨_, b4, hr.alloc _, fun g hg => ?_⟩, ⟨A1, c1, ?_, by rw [← HM.out]; exact hc1, HV1.out.below k4.1⟩⟩
    · have e : w.heap.size + 1 + 1 = g := by simpa [Value.ownBlock] using hg
      omega
    · show Boxed _ _ _ (.slice A1 over.length c1)
      rw [← HM.out]
      exact (b1.alloc _).alloc _
  obtain ⟨Ws, hWs⟩ : ∃ Ws, (((w.alloc (.cells #[.slice A1 m c1] 22)).alloc (.cells #[.bool st] 4)).alloc (.cells (madeCells #[.int .i64 0, .int .i64 0, .int .i64 0, .int .i64 0] ((n + m) * 4)) 24)).alloc (.cells #[.slice (some ⟨w.heap.size + 1 + 1, 0, none⟩) 0 (n + m)] 22) = Ws := ⟨_, rfl⟩
  rw [hWs] at hOv ⊢
  rw [show w.heap.size + 1 + 1 + 1 = w.heap.size + 3 from rfl]
  clear hWs hmk
  have HOV := Lib.hid hOv
  clear hOv
  refine wpIn_loop (fun a' wr => ∃ (k : Nat) (ds : List Deferred) (u9 u10 u22 u23 u24 u25 u26 u27 u28 u29 u30 u31 u32 u33 u34 u35 u36 u37 u38 u39 u40 u41 u42 u43 u44 u45 u46 u47 u48 u49 u50 : Value), (k ≤ n ∧ Hid (Ov w st ((t.take k).foldl (stepS st) ([], over)) wr) ∧ Hid (Mk wr.heap.size w ds wr) ∧ Hid (((t.take k).foldl (stepS st) ([], over)).1.length + ((t.take k).foldl (stepS st) ([], over)).2.length ≤ m + k * (m + 1) ∧ ((t.take k).foldl (stepS st) ([], over)).2.length ≤ m)) ∧ a' = { tmps := #[.slice A0 n c0, .slice A1 m c1, .bool st, undef, .pointer (some ⟨w.heap.size, 0, none⟩), .pointer (some ⟨w.heap.size + 1, 0, none⟩), .slice none 0 0, .pointer (some ⟨w.heap.size + 3, 0, none⟩), undef, u9, u10, undef, undef, .slice A0 n c0, .int .i64 (n : Int), .slice A1 m c1, .int .i64 (m : Int), .int .i64 ((n : Int) + (m : Int)), .slice (some ⟨w.heap.size + 1 + 1, 0, none⟩) 0 (n + m), .slice A0 n c0, .int .i64 (n : Int), .int .i64 (k : Int), u22, u23, u24, u25, u26, u27, u28, u29, u30, u31, u32, u33, u34, u35, u36, u37, u38, u39, u40, u41, u42, u43, u44, u45, u46, u47, u48, u49, u50, undef, undef, undef, undef, undef, undef, undef, undef, undef, undef, undef, undef], defers := ds }) (fun a' _ => n - (intOf (a'.tmps.getD 21 undef)).toNat) ?start ?round
  case start =>
    exact ⟨0, [], _, _, _, _, _, _, _, _, _, _, _, _, _, _, _, _, _, _, _, _, _, _, _, _, _, _, _, _, _, _, _, ⟨Nat.zero_le _, HOV, Lib.hid ⟨fun d hd => (by cases hd), List.Pairwise.nil⟩, Lib.hid ⟨by rw [List.take_zero]; simp [HM.out], by rw [List.take_zero]; simp [HM.out]⟩⟩, rfl⟩
  case round =>
    clear HOV
    rintro a' wq ⟨k, ds, u9, u10, u22, u23, u24, u25, u26, u27, u28, u29, u30, u31, u32, u33, u34, u35, u36, u37, u38, u39, u40, u41, u42, u43, u44, u45, u46, u47, u48, u49, u50, ⟨hk, HO, HMK, HLE⟩, rfl⟩
    by_cases hkn : k < n
    · have t0 : decide (k < n) = true := decide_eq_true hkn
      have hx := List.getElem?_eq_getElem (l := t) (i := k) (by have := HN.out; omega)
      generalize t[k]'(by have := HN.out; omega) = s at *
      obtain ⟨b, o, rfl, hb, ⟨y0, y1, y2, y3⟩⟩ := (HT.out.below HO.out.bel).at hx
      have etk : t.take (k + 1) = t.take k ++ [s] := by rw [List.take_add_one, hx]; rfl
      have hdr : t.drop k = s :: t.drop (k + 1) := by
        rw [List.drop_eq_getElem_cons (by have := HN.out; omega)]
        have := hx
        rw [List.getElem?_eq_getElem (by have := HN.out; omega)] at this
        injection this with this
        rw [this]
      have hiv := Iv.sts k [] over HIV.out
      rw [hdr] at hiv
      have HTK := Lib.hid etk
      generalize hr0 : (t.take k).foldl (stepS st) ([], over) = r at *
      have HR0 := Lib.hid hr0
      clear hr0
      obtain ⟨g1, _, g3, _⟩ := addA_spec hiv
      obtain ⟨k1, _, _⟩ := g1.cut g3
      have hLn : ∀ p ∈ leftG st s s.lo (addA st r.1 r.2 s).2, Nr p := fun p hp => Sn.nr (k1.sT p (List.mem_append_left _ hp))
      have hns : Nr s := Sn.nr (hiv.sT s List.mem_cons_self)
      have hnq : Nq r := hiv.nq
      have hnq1 : Nq (addA st r.1 r.2 s) := g1.nq
      have hln := addA_lens (st := st) (s := s) (v := r.2) (o := r.1)
      have HLN := Lib.hid hLn
      have HNS := Lib.hid hns
      have HNQ1 := Lib.hid hnq1
      have HLENS := Lib.hid hln
      clear hx etk hdr hiv g1 g3 k1 hLn
      have hoA := HO.out.below ((Below.refl wq.heap.size wq).alloc (Nat.le_refl _) (.cells #[.int .i64 s.n, .int .i64 s.lo, .int .i64 s.hi, .int .i64 s.to] 24))
      have hE0 : Eff (w.heap.size + 3) w.heap.size wq (wq.alloc (.cells #[.int .i64 s.n, .int .i64 s.lo, .int .i64 s.hi, .int .i64 s.to] 24)) := Eff.below (by have := HO.out.sz; omega) ((Below.refl wq.heap.size wq).alloc (Nat.le_refl _) _)
      have hbs := Bs.new wq s 24
      have hsA : (wq.alloc (.cells #[.int .i64 s.n, .int .i64 s.lo, .int .i64 s.hi, .int .i64 s.to] 24)).heap.size = wq.heap.size + 1 := by simp
      have hrow : rowB (w.heap.size + 3) (wq.alloc (.cells #[.int .i64 s.n, .int .i64 s.lo, .int .i64 s.hi, .int .i64 s.to] 24)) = rowB (w.heap.size + 3) wq := rowB_same (((Below.refl wq.heap.size wq).alloc (Nat.le_refl _) _).block _ (by have := HO.out.sz; omega))
      generalize hWA : wq.alloc (.cells #[.int .i64 s.n, .int .i64 s.lo, .int .i64 s.hi, .int .i64 s.to] 24) = WA at *
      obtain ⟨v, hvb, how, _⟩ := hoA.row
      obtain ⟨A, c, hab, hac, has⟩ := hoA.ovr
      obtain ⟨f, hf⟩ : ∃ f, f = r.2.length := ⟨_, rfl⟩
      have K1 := Lib.hid (addAhead_any st w.heap.size v A c r.1 r.2 s WA how hoA.bel.size has hac (by
        have h1 := HLE.out.1
        have h4 : k * (m + 1) ≤ 10000 * 10001 := Nat.mul_le_mul (by omega) (by omega)
        omega) hnq.1 hnq.2)
      rw [← hf] at K1 hab
      unfold sv at K1
      have cO := hvb.cell
      have cV := hab.cell
      have cT := hoA.stp.cell
      have hbs0 := hbs
      obtain ⟨e0, e1, e2, e3⟩ := hbs
      simp only [Nat.zero_add] at e1 e2 e3
      have HOA := Lib.hid hoA
      have HVB := Lib.hid hvb
      have HBS := Lib.hid hbs0
      clear hnq hnq1 hns hvb how hoA hab hac has hf hbs0 hln
      gi_wp2_with fail
      refine ⟨trivial, ?_⟩
      refine (callsIn_wide.2 K1.out).mono ?_
      rintro e W1 ⟨v', A2, c2, rfl, h2, h3, h4, h5, h6⟩
      obtain ⟨z1, ⟨u, z2⟩, z3⟩ := HOA.out.kept HVB.out h5
      obtain ⟨hO2, hE2⟩ := HOA.out.step1 HVB.out h2 h3 h4 h5 h6
      have hE := hE0.trans hE2
      have ci := z1.cell
      have fi := z1.frozen
      have cj := z2.cell
      have fj := z2.frozen
      have cs0 := hE2.kp.bs HBS.out ⟨by have := HO.out.sz; omega, by have := HO.out.sz; omega, fun e => by
        rw [hrow] at e
        have := HO.out.ok _ e
        omega⟩
      have zV : Boxed ((W1.setCell ⟨w.heap.size + 3, 0, none⟩ v').setCell ⟨w.heap.size, 0, none⟩ (.slice A2 (addA st r.1 r.2 s).2.length c2)) w.heap.size 22 (.slice A2 (addA st r.1 r.2 s).2.length c2) := (z2.other (by omega) _).set _
      have has2 : Ss ((W1.setCell ⟨w.heap.size + 3, 0, none⟩ v').setCell ⟨w.heap.size, 0, none⟩ (.slice A2 (addA st r.1 r.2 s).2.length c2)) w.heap.size A2 (addA st r.1 r.2 s).2 := (h3.setCell (by omega) _).setCell (Nat.le_refl _) _
      obtain ⟨cz, _, _, Az, ev, _⟩ := Ss.of_own h4
      obtain ⟨lz, hlz⟩ : ∃ lz, lz = (addA st r.1 r.2 s).1.length := ⟨_, rfl⟩
      obtain ⟨f2, hf2⟩ : ∃ f2, f2 = (addA st r.1 r.2 s).2.length := ⟨_, rfl⟩
      rw [← hlz] at ev
      rw [← hf2] at hO2 hE2 hE cs0 zV has2 ⊢
      subst ev
      have HF2 := Lib.hid hf2
      clear hlz hf2 cO cV cT e0 e1 e2 e3 z1 z2 z3 hWA hE2 h2 h3 h4 h5 h6 hrow
      generalize hW2 : (W1.setCell ⟨w.heap.size + 3, 0, none⟩ (.slice Az lz cz)).setCell ⟨w.heap.size, 0, none⟩ (.slice A2 f2 c2) = W2 at *
      have cV := zV.cell
      have cT := hO2.stp.cell
      obtain ⟨e0, e1, e2, e3⟩ := cs0
      simp only [Nat.zero_add] at e1 e2 e3
      have HO2 := Lib.hid hO2
      have HE := Lib.hid hE
      have HAS2 := Lib.hid has2
      clear zV hO2 hE has2
      gi_wp2_with fail
      refine ⟨trivial, ?_⟩
      refine (left_in _ s A2 f2 c2 st W2).mono ?_
      rintro e W3 ⟨rfl, rfl⟩
      have x1 : Bs (((W2.alloc (.cells #[.int .i64 s.n, .int .i64 s.lo, .int .i64 s.hi, .int .i64 s.to] 24)).alloc (.cells #[.slice A2 f2 c2] 22)).alloc (.cells #[.bool st] 4)) W2.heap.size s := ((Bs.new W2 s 24).below (((Below.refl _ _).alloc (Nat.le_refl _) (.cells #[.slice A2 f2 c2] 22)).alloc (by simp) (.cells #[.bool st] 4)) (by simp))
      have x2 := (Boxed.new (W2.alloc (.cells #[.int .i64 s.n, .int .i64 s.lo, .int .i64 s.hi, .int .i64 s.to] 24)) 22 (.slice A2 f2 c2)).alloc (.cells #[.bool st] 4)
      have x3 := Boxed.new ((W2.alloc (.cells #[.int .i64 s.n, .int .i64 s.lo, .int .i64 s.hi, .int .i64 s.to] 24)).alloc (.cells #[.slice A2 f2 c2] 22)) 4 (.bool st)
      simp only [World.size_alloc] at x2 x3
      have hB3 : Below W2.heap.size W2 (((W2.alloc (.cells #[.int .i64 s.n, .int .i64 s.lo, .int .i64 s.hi, .int .i64 s.to] 24)).alloc (.cells #[.slice A2 f2 c2] 22)).alloc (.cells #[.bool st] 4)) := (((Below.refl _ _).alloc (Nat.le_refl _) _).alloc (by simp) _).alloc (by simp; omega) _
      have hs3 : (((W2.alloc (.cells #[.int .i64 s.n, .int .i64 s.lo, .int .i64 s.hi, .int .i64 s.to] 24)).alloc (.cells #[.slice A2 f2 c2] 22)).alloc (.cells #[.bool st] 4)).heap.size = W2.heap.size + 3 := by simp
      clear cV cT e0 e1 e2 e3 hW2
      generalize hW3 : ((W2.alloc (.cells #[.int .i64 s.n, .int .i64 s.lo, .int .i64 s.hi, .int .i64 s.to] 24)).alloc (.cells #[.slice A2 f2 c2] 22)).alloc (.cells #[.bool st] 4) = W3 at *
      clear hW3
      have hO3 := HO2.out.below hB3
      have hE3 := HE.out.trans (Eff.below (by have := HO2.out.sz; omega) hB3)
      have hrow3 : ∀ b, W2.heap.size ≤ b → Safe (w.heap.size + 3) w.heap.size W3 b := fun b hb => ⟨by have := HO2.out.sz; omega, by have := HO2.out.sz; omega, fun e => by
        rw [rowB_same (hB3.block _ (by have := HO2.out.sz; omega))] at e
        have := HO2.out.ok _ e
        omega⟩
      have hls := left_stops 7 (by omega) st W2.heap.size (W2.heap.size + 1) (W2.heap.size + 1 + 1) w.heap.size A2 c2 (addA st r.1 r.2 s).2 s (by have := HLENS.out.2; have := HLE.out.2; omega) HNS.out HNQ1.out.2 HLN.out (w.heap.size + 3) w.heap.size W3 x1 (by rw [← HF2.out]; exact x2.cell) x3.cell (HAS2.out.below (hB3.mono HO2.out.bel.size)) hO3.bel.size (by have := hO3.sz; omega) (by have := hO3.sz; omega) (fun g hg => (hO3.ok g hg).2.2) (hrow3 _ (Nat.le_refl _)) (by omega) (by omega) (hrow3 _ (by omega)) (by omega) (fun b hb => hO3.safe (.inl hb))
      gi_wp2
      refine wpIn_rangeFunc_ownH rfl (by omega) (gf := 47) (lb := #[.pointer (some ⟨W2.heap.size, 0, none⟩), .pointer (some ⟨W2.heap.size + 1, 0, none⟩), .pointer (some ⟨W2.heap.size + 1 + 1, 0, none⟩)]) rfl trivial (enters_of Try.func47 (by kernel_rfl) rfl)
        hls (fun h1 h2 => KpO.trans h1 h2) (fun W l o o' hl h hc _ => KpO.put (w := W3) (by have := hO3.sz; omega) hl h hc) (Below.refl _ _) (fun _ => rfl)
        (fun pre W => Ov w st ((pre.map (·.1)).foldl (stepP st) (addA st r.1 r.2 s)) W ∧ Mk W3.heap.size w ds W ∧ W3.heap.size ≤ W.heap.size)
        (fun _ _ _ => False)
        (OwnFrom.and (Ov.own hO3.bel.size _) (OwnFrom.and Mk.own (fun _ _ _ _ h hg _ => Nat.le_trans h hg.size)))
        (fun _ _ _ _ _ hs _ _ => hs)
        ⟨hO3, ((HMK.out.eff HO.out hE3).more hE3.size), Nat.le_refl _⟩
        (fun x a' W => ∃ (Bz : Nat) (z0 z1 z2 z3 z6 z8 z9 z11 z12 z13 z14 z15 z16 z17 z18 z19 z20 z21 z22 z23 z24 z25 z26 z27 z28 z29 z30 z31 z32 z33 z34 z35 z36 z37 z38 z39 z40 z41 z42 z43 z44 z45 z46 z47 z48 z49 z50 z51 z52 z53 z54 z55 z56 z57 z58 z59 z60 z61 z62 : Value), W3.heap.size ≤ Bz ∧ Bs W Bz x.1 ∧ Bz < W.heap.size ∧ rowB (w.heap.size + 3) W ≠ some Bz ∧ a' = { tmps := #[z0, z1, z2, z3, .pointer (some ⟨w.heap.size, 0, none⟩), .pointer (some ⟨w.heap.size + 1, 0, none⟩), z6, .pointer (some ⟨w.heap.size + 3, 0, none⟩), z8, z9, .pointer (some ⟨Bz, 0, none⟩), z11, z12, z13, z14, z15, z16, z17, z18, z19, z20, z21, z22, z23, z24, z25, z26, z27, z28, z29, z30, z31, z32, z33, z34, z35, z36, z37, z38, z39, z40, z41, z42, z43, z44, z45, z46, z47, z48, z49, z50, z51, z52, z53, z54, z55, z56, z57, z58, z59, z60, z61, z62], defers := [] })
        ?hAx ?assign ?body ?done ?stop
      case hAx =>
        rintro x a' _ X Y row ⟨Bz, z0, z1, z2, z3, z6, z8, z9, z11, z12, z13, z14, z15, z16, z17, z18, z19, z20, z21, z22, z23, z24, z25, z26, z27, z28, z29, z30, z31, z32, z33, z34, z35, z36, z37, z38, z39, z40, z41, z42, z43, z44, z45, z46, z47, z48, z49, z50, z51, z52, z53, z54, z55, z56, z57, z58, z59, z60, z61, z62, h1, h2, h3, h5, h4⟩ hg hr
        have h6 : rowB (w.heap.size + 3) Y ≠ some Bz := by
          rw [rowB_same (hg.block (w.heap.size + 3) (by have := hO3.sz; omega) (fun e => by have := (hr _ e.symm).1; have := hO3.sz; omega))]
          exact h5
        have hr' : ∀ r, row = some r → ∃ o : Obj, X.heap[r]? = some o ∧ o.isCells = false := fun r e => (hr r e).2
        exact ⟨Bz, z0, z1, z2, z3, z6, z8, z9, z11, z12, z13, z14, z15, z16, z17, z18, z19, z20, z21, z22, z23, z24, z25, z26, z27, z28, z29, z30, z31, z32, z33, z34, z35, z36, z37, z38, z39, z40, z41, z42, z43, z44, z45, z46, z47, z48, z49, z50, z51, z52, z53, z54, z55, z56, z57, z58, z59, z60, z61, z62, h1, ⟨cell_kept h2.c0 hg hr', cell_kept h2.c1 hg hr', cell_kept h2.c2 hg hr', cell_kept h2.c3 hg hr'⟩, Nat.lt_of_lt_of_le h3 hg.size, h6, h4⟩
      case assign =>
        rintro q pre ⟨⟨xn, xlo, xhi, xto⟩, hx⟩ W K ⟨h1, h2, h3⟩ hK
        have hbA : Below W.heap.size W (W.alloc (.cells #[.int .i64 xn, .int .i64 xlo, .int .i64 xhi, .int .i64 xto] 24)) := (Below.refl _ _).alloc (Nat.le_refl _) _
        have hEA : Eff (w.heap.size + 3) w.heap.size W (W.alloc (.cells #[.int .i64 xn, .int .i64 xlo, .int .i64 xhi, .int .i64 xto] 24)) := Eff.below (by have := h1.sz; omega) hbA
        unfold sv
        dsimp only
        gi_wp2
        exact hK _ _ ((KeepsOthers.alloc _ _).from _) hEA.kp ⟨h1.below hbA, h2.eff h1 hEA, Nat.le_trans h3 hEA.size⟩ ⟨W.heap.size, _, _, _, _, _, _, _, _, _, _, _, _, _, _, _, _, _, _, _, _, _, _, _, _, _, _, _, _, _, _, _, _, _, _, _, _, _, _, _, _, _, _, _, _, _, _, _, _, _, _, _, _, _, _, _, _, _, _, _, h3, Bs.new W ⟨xn, xlo, xhi, xto⟩ 24, by simp, fun e => by
          rw [rowB_same (hbA.block _ (by have := h1.sz; omega))] at e
          have := h1.ok _ e
          omega, rfl⟩
      case body =>
        rintro q pre ⟨x, hnx⟩ a' W _ _ ⟨h1, h2, h3⟩ ⟨Bz, z0, z1, z2, z3, z6, z8, z9, z11, z12, z13, z14, z15, z16, z17, z18, z19, z20, z21, z22, z23, z24, z25, z26, z27, z28, z29, z30, z31, z32, z33, z34, z35, z36, z37, z38, z39, z40, z41, z42, z43, z44, z45, z46, z47, z48, z49, z50, z51, z52, z53, z54, z55, z56, z57, z58, z59, z60, z61, z62, hBz, hbx, hBl, hrB, rfl⟩ hpl
        dsimp only at hbx
        have hnq := foldP_nr (st := st) pre _ HNQ1.out
        have hfl := foldP_lens (st := st) (pre.map (·.1)) (addA st r.1 r.2 s)
        rw [List.length_map] at hfl
        have hlg := leftG_length (st := st) s (addA st r.1 r.2 s).2 s.lo
        have hbd : ((pre.map (·.1)).foldl (stepP st) (addA st r.1 r.2 s)).1.length + ((pre.map (·.1)).foldl (stepP st) (addA st r.1 r.2 s)).2.length ≤ 200000000 := by
          have h4 := HLE.out.1
          have h5 := HLENS.out
          have h6 : k * (m + 1) ≤ 10000 * 10001 := Nat.mul_le_mul (by omega) (by omega)
          have h7 := HLE.out.2
          omega
        have esp : ((pre ++ ([⟨x, hnx⟩] : List Pt)).map (·.1)).foldl (stepP st) (addA st r.1 r.2 s) = stepP st ((pre.map (·.1)).foldl (stepP st) (addA st r.1 r.2 s)) x := by rw [List.map_append, List.foldl_append]; rfl
        have HESP := Lib.hid esp
        clear hfl hlg hpl esp hls
        generalize (pre.map (·.1)).foldl (stepP st) (addA st r.1 r.2 s) = qq at *
        obtain ⟨v, hvb, how, _⟩ := h1.row
        obtain ⟨A, c, hab, hac, has⟩ := h1.ovr
        have K1 := Lib.hid (addAhead_any st w.heap.size v A c qq.1 qq.2 x W how h1.bel.size has hac (by omega) hnq.1 hnq.2)
        obtain ⟨f, hf⟩ : ∃ f, f = qq.2.length := ⟨_, rfl⟩
        rw [← hf] at K1 hab
        unfold sv at K1
        have cO := hvb.cell
        have cV := hab.cell
        have cT := h1.stp.cell
        have HBX := Lib.hid hbx
        obtain ⟨e0, e1, e2, e3⟩ := hbx
        simp only [Nat.zero_add] at e1 e2 e3
        have H1 := Lib.hid h1
        have H2 := Lib.hid h2
        have HVB := Lib.hid hvb
        have hnq1 := addA_nr (st := st) (s := x) hnq.1 hnq.2
        have hlq1 := addA_lens (st := st) (s := x) (v := qq.2) (o := qq.1)
        have hbz1 : w.heap.size + 4 ≤ Bz := Nat.le_trans hO3.sz hBz
        have hsafe : Safe (w.heap.size + 3) w.heap.size W Bz := ⟨by omega, by omega, hrB⟩
        have HSAFE := Lib.hid hsafe
        have HNQ2 := Lib.hid hnq1
        clear hvb hab has hac hf h1 h2 hnq hsafe hnq1 how
        gi_wp2_with fail
        refine ⟨trivial, ?_⟩
        refine (CallsIn.inRound q (callsIn_wide.2 K1.out)).mono ?_
        rintro e W1 ⟨v', A4, c4, rfl, k2, k3, k4, k5, k6⟩
        obtain ⟨z1, ⟨u, z2⟩, z3⟩ := H1.out.kept HVB.out k5
        obtain ⟨hO4, hE4⟩ := H1.out.step1 HVB.out k2 k3 k4 k5 k6
        have ci := z1.cell
        have fi := z1.frozen
        have cj := z2.cell
        have fj := z2.frozen
        have zO : Boxed ((W1.setCell ⟨w.heap.size + 3, 0, none⟩ v').setCell ⟨w.heap.size, 0, none⟩ (.slice A4 (addA st qq.1 qq.2 x).2.length c4)) (w.heap.size + 3) 22 v' := (z1.set _).other (by omega) _
        have kown : ((W1.setCell ⟨w.heap.size + 3, 0, none⟩ v').setCell ⟨w.heap.size, 0, none⟩ (.slice A4 (addA st qq.1 qq.2 x).2.length c4)).ownsRow w.heap.size 24 4 v' (addA st qq.1 qq.2 x).1.length (svs (addA st qq.1 qq.2 x).1) := by
          obtain ⟨v2, y1, y2, _⟩ := hO4.row
          have := y1.cell.symm.trans zO.cell
          injection this with this
          rw [this] at y2
          exact y2
        have hbx4 := hE4.kp.bs HBX.out HSAFE.out
        obtain ⟨cz2, _, _, Az2, ev, _⟩ := Ss.of_own k4
        obtain ⟨lz2, hlz⟩ : ∃ lz2, lz2 = (addA st qq.1 qq.2 x).1.length := ⟨_, rfl⟩
        obtain ⟨f4, hf4⟩ : ∃ f4, f4 = (addA st qq.1 qq.2 x).2.length := ⟨_, rfl⟩
        rw [← hlz] at ev
        rw [← hf4] at hO4 hE4 zO kown hbx4 ⊢
        subst ev
        clear hlz hf4 cO cV cT e0 e1 e2 e3 z1 z2 z3 k2 k3 k4 k5 k6
        generalize hW4 : (W1.setCell ⟨w.heap.size + 3, 0, none⟩ (.slice Az2 lz2 cz2)).setCell ⟨w.heap.size, 0, none⟩ (.slice A4 f4 c4) = W4 at *
        have K2 := Lib.hid (add_any st w.heap.size (.slice Az2 lz2 cz2) (addA st qq.1 qq.2 x).1 x W4 kown hO4.bel.size (by omega) HNQ2.out.1 hnx)
        unfold sv at K2
        have cO := zO.cell
        have cT := hO4.stp.cell
        obtain ⟨e0, e1, e2, e3⟩ := hbx4
        simp only [Nat.zero_add] at e1 e2 e3
        have HO4 := Lib.hid hO4
        have HE4 := Lib.hid hE4
        have HZO := Lib.hid zO
        clear zO kown hO4 hE4
        gi_wp2_with fail
        refine ⟨trivial, ?_⟩
        refine (CallsIn.inRound q (callsIn_wide.2 K2.out)).mono ?_
        rintro e W5 ⟨v5, rfl, k4, k5, k6⟩
        obtain ⟨z1, _, _⟩ := HO4.out.kept HZO.out k5
        obtain ⟨hO6, hE6⟩ := HO4.out.step2 HZO.out k4 k5 k6
        have hE := HE4.out.trans hE6
        obtain ⟨cz3, _, _, Az3, ev, _⟩ := Ss.of_own k4
        obtain ⟨lz3, hlz⟩ : ∃ lz3, lz3 = (addL st (addA st qq.1 qq.2 x).1 x).length := ⟨_, rfl⟩
        rw [← hlz] at ev
        subst ev
        have ci := z1.cell
        have fi := z1.frozen
        clear hlz cO cT e0 e1 e2 e3 hW4 z1
        gi_wp2
        exact ⟨H1.out.keepsFrom hE _, hE.kp, by rw [HESP.out]; exact hO6, H2.out.eff H1.out hE, Nat.le_trans h3 hE.size⟩
      case done =>
        rintro D ys W hD hys ⟨h1, h2, h3⟩ hK
        have est : (ys.map (·.1)).foldl (stepP st) (addA st r.1 r.2 s) = (t.take (k + 1)).foldl (stepS st) ([], over) := by
          rw [← hys, HTK.out, List.foldl_append, HR0.out]
          rfl
        rw [est] at h1
        have hln := stepS_lens (st := st) r s
        have eln : stepS st r s = (t.take (k + 1)).foldl (stepS st) ([], over) := by
          rw [HTK.out, List.foldl_append, HR0.out]
          rfl
        rw [eln] at hln
        have HFIN : Hid (((t.take (k + 1)).foldl (stepS st) ([], over)).1.length + ((t.take (k + 1)).foldl (stepS st) ([], over)).2.length ≤ m + (k + 1) * (m + 1) ∧ ((t.take (k + 1)).foldl (stepS st) ([], over)).2.length ≤ m) := Lib.hid (by
          have h4 := HLE.out
          have e : (k + 1) * (m + 1) = k * (m + 1) + (m + 1) := Nat.succ_mul _ _
          omega)
        have HMF := Lib.hid (h2.cons hD (Nat.le_trans hO3.bel.size hD) hK)
        have HOF := Lib.hid h1
        clear est eln hln h1 h2 hls
        gi_wp2
        exact ⟨⟨k + 1, _ :: ds, _, _, _, _, _, _, _, _, _, _, _, _, _, _, _, _, _, _, _, _, _, _, _, _, _, _, _, _, _, _, _, ⟨by omega, HOF, HMF, HFIN⟩, rfl⟩, by simp [intOf]; omega⟩
      case stop =>
        rintro D cd pre W _ _ h _
        exact h.elim
    · obtain rfl : k = n := by omega
      have t0 : decide (k < k) = false := by simp
      have hiv := Iv.sts k [] over HIV.out
      have etk : t.take k = t := List.take_of_length_le (by rw [← HN.out]; exact Nat.le_refl _)
      have hov : overL st t over = ((t.take k).foldl (stepS st) ([], over)).2.foldl (addL st) ((t.take k).foldl (stepS st) ([], over)).1 := by rw [etk]; rfl
      have HOVL := Lib.hid hov
      clear hov etk
      generalize (t.take k).foldl (stepS st) ([], over) = r at *
      have HNQ := Lib.hid hiv.nq
      obtain ⟨f, hf⟩ : ∃ f, f = r.2.length := ⟨_, rfl⟩
      have HFF := Lib.hid hf
      obtain ⟨A, c, hbx, hcc, hss⟩ := HO.out.ovr
      rw [← hf] at hbx hcc
      have cV := hbx.cell
      have HSS := Lib.hid hss
      have HLE2 := Lib.hid (show f ≤ m by rw [hf]; exact HLE.out.2)
      clear hf hbx hss hiv
      gi_wp2
      gi_loopw [53] (fun i wr => ∃ j : Nat, j ≤ f ∧ i = .int .i64 (j : Int) ∧ Hid (Ov w st ((r.2.take j).foldl (addL st) r.1, r.2) wr) ∧ Hid (Mk wr.heap.size w ds wr)) (fun i _ => f - (intOf i).toNat)
      case atStart => exact ⟨0, Nat.zero_le _, rfl, HO, HMK⟩
      case round =>
        clear cV
        obtain ⟨j, hj, rfl, HO2, HM2⟩ := hrel
        by_cases hjf : j < f
        · have t1 : decide (j < f) = true := decide_eq_true hjf
          have hfm := HLE2.out
          have hx := List.getElem?_eq_getElem (l := r.2) (i := j) (by have := HFF.out; omega)
          generalize r.2[j]'(by have := HFF.out; omega) = x at *
          obtain ⟨b, o, rfl, hb, ⟨y0, y1, y2, y3⟩⟩ := (HO.out.ss HO2.out HSS.out).at hx
          have etk : r.2.take (j + 1) = r.2.take j ++ [x] := by rw [List.take_add_one, hx]; rfl
          have HTK := Lib.hid etk
          have hnx : Nr x := HNQ.out.2 x (List.mem_of_getElem? hx)
          have hno : (∀ y ∈ (r.2.take j).foldl (addL st) r.1, Nr y) ∧ ((r.2.take j).foldl (addL st) r.1).length ≤ r.1.length + j := by
            clear HO2 HTK
            have key : ∀ (P : List Sp) (o : List Sp), (∀ y ∈ P, Nr y) → (∀ y ∈ o, Nr y) → (∀ y ∈ P.foldl (addL st) o, Nr y) ∧ (P.foldl (addL st) o).length ≤ o.length + P.length := by
              intro P
              induction P with
              | nil => exact fun o _ h => ⟨h, Nat.le_refl _⟩
              | cons p P ih =>
                intro o hP h
                have h1 := ih (addL st o p) (fun y hy => hP y (List.mem_cons_of_mem _ hy)) (addL_nr h (hP p List.mem_cons_self))
                have h2 := addL_length (st := st) o p
                refine ⟨h1.1, ?_⟩
                have := h1.2
                rw [List.foldl_cons, List.length_cons]
                omega
            have h1 := key (r.2.take j) r.1 (fun y hy => HNQ.out.2 y (List.mem_of_mem_take hy)) HNQ.out.1
            refine ⟨h1.1, Nat.le_trans h1.2 ?_⟩
            rw [List.length_take]
            omega
          have HX := Lib.hid hx
          clear hx etk
          have hoA := HO2.out.below ((Below.refl wr.heap.size wr).alloc (Nat.le_refl _) (.cells #[.int .i64 x.n, .int .i64 x.lo, .int .i64 x.hi, .int .i64 x.to] 24))
          have hE0 : Eff (w.heap.size + 3) w.heap.size wr (wr.alloc (.cells #[.int .i64 x.n, .int .i64 x.lo, .int .i64 x.hi, .int .i64 x.to] 24)) := Eff.below (by have := HO2.out.sz; omega) ((Below.refl wr.heap.size wr).alloc (Nat.le_refl _) _)
          have hbs := Bs.new wr x 24
          generalize hWA : wr.alloc (.cells #[.int .i64 x.n, .int .i64 x.lo, .int .i64 x.hi, .int .i64 x.to] 24) = WA at *
          obtain ⟨v, hvb, how, _⟩ := hoA.row
          have K1 := Lib.hid (add_any st w.heap.size v _ x WA how hoA.bel.size (by
            have h1 := HLE.out.1
            have h2 := HLE.out.2
            have h3 := hno.2
            have h4 : k * (m + 1) ≤ 10000 * 10001 := Nat.mul_le_mul (by omega) (by omega)
            have h5 := HFF.out
            show ((r.2.take j).foldl (addL st) r.1).length ≤ _
            omega) hno.1 hnx)
          unfold sv at K1
          have cO := hvb.cell
          have cT := hoA.stp.cell
          obtain ⟨g0, g1, g2, g3⟩ := hbs
          simp only [Nat.zero_add] at g1 g2 g3
          have HOA := Lib.hid hoA
          have HVB := Lib.hid hvb
          clear hno hnx hvb how hoA
          gi_wp2_with fail
          refine ⟨trivial, ?_⟩
          refine (callsIn_wide.2 K1.out).mono ?_
          rintro e W1 ⟨v', rfl, h4, h5, h6⟩
          obtain ⟨cz, _, _, Az, ev, _⟩ := Ss.of_own h4
          obtain ⟨lz, hlz⟩ : ∃ lz, lz = (addL st ((r.2.take j).foldl (addL st) r.1) x).length := ⟨_, rfl⟩
          rw [← hlz] at ev
          subst ev
          clear hlz
          obtain ⟨z1, _, _⟩ := HOA.out.kept HVB.out h5
          obtain ⟨hO2, hE2⟩ := HOA.out.step2 HVB.out h4 h5 h6
          have hE := hE0.trans hE2
          have ci := z1.cell
          have fi := z1.frozen
          clear cO cT g0 g1 g2 g3 z1 hWA
          gi_wp2
          go_roundw
          case rel => exact ⟨j + 1, by omega, by go_num, Lib.hid (by rw [HTK.out, List.foldl_append]; exact hO2), Lib.hid ((HM2.out.eff HO2.out hE).more hE.size)⟩
          case measure => simp [intOf]; omega
        · obtain rfl : j = f := by omega
          have t1 : decide (j < j) = false := by simp
          have etj : (r.2.take j).foldl (addL st) r.1 = overL st t over := by
            rw [HOVL.out, List.take_of_length_le (by rw [← HFF.out]; exact Nat.le_refl _)]
          have hz := HO2.out
          rw [etj] at hz
          obtain ⟨v, hvb, how, _⟩ := hz.row
          have hbel := hz.bel
          have cO := hvb.cell
          have HZ : Hid (wr.ownsRow w.heap.size 24 4 v (overL st t over).length (svs (overL st t over)) ∧ Below w.heap.size w wr) := Lib.hid ⟨how, hbel⟩
          clear etj hz hvb how hbel HO2 HOVL
          generalize overL st t over = L at *
          gi_wp2
          refine leaves_marks (Z := fun W => W.ownsRow w.heap.size 24 4 v L.length (svs L) ∧ Below w.heap.size w W) (u := .returning) (by simp) (fun W D hD hK h => own_put hD hK h) (fun W h => ?_) ds wr HM2.out HZ.out
          exact ⟨v, results_tmp (t := 6) rfl _ _ _, own_ret h.1 h.2⟩
end Go.Proofs.Ytdlkgcbiekilhaa
