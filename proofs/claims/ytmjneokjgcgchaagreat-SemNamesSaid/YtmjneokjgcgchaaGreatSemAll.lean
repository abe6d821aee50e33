/-
  A table whose lists are put together; what all of some items come to: the program's own.
-/
import Derived.Test.YtmjneokjgcgchaaGreatSemLists
namespace Go.Proofs.YtmjneokjgcgchaaGreat
open Go.RowKit

/-- The first k kinds of a table are put together. -/
structure Jk (p : Pg) (k : Nat) (u : Pg) : Prop where
  nm : u.nm = p.nm
  wm : u.wm = p.wm
  sp : if 0 < k then CR p.sp u.sp else u.sp = p.sp
  ci : if 1 < k then IsS true p.ci u.ci else u.ci = p.ci
  no : if 2 < k then IsS false p.no u.no else u.no = p.no
  bf : if 3 < k then IsB p.bf u.bf else u.bf = p.bf
theorem Jk.zero (p : Pg) : Jk p 0 p := ⟨rfl, rfl, by rw [if_neg (by omega)], by rw [if_neg (by omega)], by rw [if_neg (by omega)], by rw [if_neg (by omega)]⟩
theorem Jk.s0 {p u v : Pg} (h : Jk p 0 u) (b : Blt 2 u v) : Jk p 1 v := by
  obtain ⟨h1, h2, h3, h4, h5, h6⟩ := h
  obtain ⟨b1, b2, b3, b4, b5, b6⟩ := b
  simp at h3 h4 h5 h6 b3 b4 b5 b6
  refine ⟨b1.trans h1, b2.trans h2, ?_, ?_, ?_, ?_⟩ <;> simp
  · rw [← h3]; exact b3
  · rw [b4, h4]
  · rw [b5, h5]
  · rw [b6, h6]
theorem Jk.s1 {p u v : Pg} (h : Jk p 1 u) (b : Blt 3 u v) : Jk p 2 v := by
  obtain ⟨h1, h2, h3, h4, h5, h6⟩ := h
  obtain ⟨b1, b2, b3, b4, b5, b6⟩ := b
  simp at h3 h4 h5 h6 b3 b4 b5 b6
  refine ⟨b1.trans h1, b2.trans h2, ?_, ?_, ?_, ?_⟩ <;> simp
  · rw [b3]; exact h3
  · rw [← h4]; exact b4
  · rw [b5, h5]
  · rw [b6, h6]
theorem Jk.s2 {p u v : Pg} (h : Jk p 2 u) (b : Blt 5 u v) : Jk p 3 v := by
  obtain ⟨h1, h2, h3, h4, h5, h6⟩ := h
  obtain ⟨b1, b2, b3, b4, b5, b6⟩ := b
  simp at h3 h4 h5 h6 b3 b4 b5 b6
  refine ⟨b1.trans h1, b2.trans h2, ?_, ?_, ?_, ?_⟩ <;> simp
  · rw [b3]; exact h3
  · rw [b4]; exact h4
  · rw [← h5]; exact b5
  · rw [b6, h6]
theorem Jk.s3 {p u v : Pg} (h : Jk p 3 u) (b : Blt 7 u v) : Cm p v := by
  obtain ⟨h1, h2, h3, h4, h5, h6⟩ := h
  obtain ⟨b1, b2, b3, b4, b5, b6⟩ := b
  simp at h3 h4 h5 h6 b3 b4 b5 b6
  refine ⟨b1.trans h1, b2.trans h2, ?_, ?_, ?_, ?_⟩
  · rw [b3]; exact h3
  · rw [b4]; exact h4
  · rw [b5]; exact h5
  · rw [← h6]; exact b6
theorem Cm.jk {p v : Pg} (h : Cm p v) : Jk p 4 v := ⟨h.nm, h.wm, by simpa using h.sp, by simpa using h.ci, by simpa using h.no, by simpa using h.bf⟩
theorem Jk.cm {p v : Pg} (h : Jk p 4 v) : Cm p v := ⟨h.nm, h.wm, by simpa using h.sp, by simpa using h.ci, by simpa using h.no, by simpa using h.bf⟩
@[go_sem] theorem idx4_0 (w : World) : (Instr.index 116 (.agg #[.int .i64 2, .int .i64 3, .int .i64 5, .int .i64 7]) (.int .i64 0)).run Tryz.prog w = .ok (.int .i64 2) w := by kernel_rfl
@[go_sem] theorem idx4_1 (w : World) : (Instr.index 116 (.agg #[.int .i64 2, .int .i64 3, .int .i64 5, .int .i64 7]) (.int .i64 1)).run Tryz.prog w = .ok (.int .i64 3) w := by kernel_rfl
@[go_sem] theorem idx4_2 (w : World) : (Instr.index 116 (.agg #[.int .i64 2, .int .i64 3, .int .i64 5, .int .i64 7]) (.int .i64 2)).run Tryz.prog w = .ok (.int .i64 5) w := by kernel_rfl
@[go_sem] theorem idx4_3 (w : World) : (Instr.index 116 (.agg #[.int .i64 2, .int .i64 3, .int .i64 5, .int .i64 7]) (.int .i64 3)).run Tryz.prog w = .ok (.int .i64 7) w := by kernel_rfl
set_option maxRecDepth 100000 in
set_option maxHeartbeats 4000000 in
theorem joined_any {t : Tb} {a : Ta} (w : World) (h : Tm w t a) (hp : Pb (Tp t)) :
    Calls Tryz.prog 40 #[tbv t a] w (TabR 0 w (Cm (Tp t))) := by
  obtain ⟨hb0, hb1, hb2, hb3⟩ := hp
  have HPB : Hid (t.sp.length ≤ 1000 ∧ t.ci.length ≤ 1000 ∧ t.no.length ≤ 1000 ∧ t.bf.length ≤ 1000) := Lib.hid ⟨hb0, hb1, hb2, by simpa [Tp, pl_length] using hb3⟩
  have s1 : (w.alloc (.cells #[.string (str t.nm), .int .i64 t.wm, .slice a.a0 t.sp.length a.c0, .slice a.a1 t.ci.length a.c1, .slice a.a2 t.no.length a.c2, .slice a.a3 t.bf.length a.c3] 33)).heap.size = w.heap.size + 1 := by simp
  have hT0 : Tk6 (w.alloc (.cells #[.string (str t.nm), .int .i64 t.wm, .slice a.a0 t.sp.length a.c0, .slice a.a1 t.ci.length a.c1, .slice a.a2 t.no.length a.c2, .slice a.a3 t.bf.length a.c3] 33)) w.heap.size t a := heap_alloc_new w _
  have hR0 := heap_alloc_new (w.alloc (.cells #[.string (str t.nm), .int .i64 t.wm, .slice a.a0 t.sp.length a.c0, .slice a.a1 t.ci.length a.c1, .slice a.a2 t.no.length a.c2, .slice a.a3 t.bf.length a.c3] 33)) (.cells #[.string (str []), .int .i64 0, .slice none 0 0, .slice none 0 0, .slice none 0 0, .slice none 0 0] 33)
  rw [s1] at hR0
  have hb0 : Below w.heap.size w ((w.alloc (.cells #[.string (str t.nm), .int .i64 t.wm, .slice a.a0 t.sp.length a.c0, .slice a.a1 t.ci.length a.c1, .slice a.a2 t.no.length a.c2, .slice a.a3 t.bf.length a.c3] 33)).alloc (.cells #[.string (str []), .int .i64 0, .slice none 0 0, .slice none 0 0, .slice none 0 0, .slice none 0 0] 33)) := ((Below.refl _ _).alloc (Nat.le_refl _) _).alloc (by simp) _
  have hT1 : Tk6 ((w.alloc (.cells #[.string (str t.nm), .int .i64 t.wm, .slice a.a0 t.sp.length a.c0, .slice a.a1 t.ci.length a.c1, .slice a.a2 t.no.length a.c2, .slice a.a3 t.bf.length a.c3] 33)).alloc (.cells #[.string (str []), .int .i64 0, .slice none 0 0, .slice none 0 0, .slice none 0 0, .slice none 0 0] 33)) w.heap.size t a := (Below.heap_alloc _ _ _ (by omega)).trans hT0
  have HRT := Lib.hid (Rtb.mk hT1 (Nat.le_refl _) (h.stm.below hb0))
  have HB0 := Lib.hid hb0
  have HZ0 : Hid (Tk6 ((w.alloc (.cells #[.string (str t.nm), .int .i64 t.wm, .slice a.a0 t.sp.length a.c0, .slice a.a1 t.ci.length a.c1, .slice a.a2 t.no.length a.c2, .slice a.a3 t.bf.length a.c3] 33)).alloc (.cells #[.string (str []), .int .i64 0, .slice none 0 0, .slice none 0 0, .slice none 0 0, .slice none 0 0] 33)) (w.heap.size + 1) tbZ taZ) := Lib.hid hR0
  clear h hb0 hb1 hb2 hb3 s1 hT0 hR0 hT1
  rw [str_nil] at HRT HB0 HZ0
  unfold tbv
  go_enter Tryz.func40, Tryz.ntmps40
  go_wp2
  generalize (w.alloc (.cells #[.string (str t.nm), .int .i64 t.wm, .slice a.a0 t.sp.length a.c0, .slice a.a1 t.ci.length a.c1, .slice a.a2 t.no.length a.c2, .slice a.a3 t.bf.length a.c3] 33)).alloc (.cells #[.string ⟨#[]⟩, .int .i64 0, .slice none 0 0, .slice none 0 0, .slice none 0 0, .slice none 0 0] 33) = W1 at *
  go_loopw [6] (fun i wr => ∃ (k : Nat) (u : Tb) (b : Ta), k ≤ 4 ∧ i = .int .i64 (k : Int) ∧ Hid (Jk (Tp t) k (Tp u)) ∧ Hid (Rtb wr w.heap.size w.heap.size u b) ∧ Hid (k = 4 → Utl wr u.bf) ∧ Hid (Below w.heap.size w wr) ∧ Hid (Tk6 wr (w.heap.size + 1) tbZ taZ)) (fun i _ => 4 - (intOf i).toNat)
  case atStart => exact ⟨0, t, a, by omega, rfl, Lib.hid (Jk.zero _), HRT, Lib.hid (fun e => by cases e), HB0, HZ0⟩
  case round =>
    obtain ⟨k, u, b, hk, rfl, HJ, HR, HU4, HB, HZ⟩ := hrel
    have hkk : k = 0 ∨ k = 1 ∨ k = 2 ∨ k = 3 ∨ k = 4 := by omega
    rcases hkk with rfl | rfl | rfl | rfl | rfl
    · have hl : u.sp.length ≤ 1000 := by
        have := HJ.out.sp
        simp at this
        rw [show u.sp = (Tp u).sp from rfl, this]
        exact HPB.out.1
      have KD := Lib.hid (fun W => deed0_any w.heap.size 2 rfl W)
      have HL := Lib.hid hl
      clear hl
      go_wp2_with fail
      refine (KD.out _).mono ?_
      rintro e w2 ⟨P, rfl, hpk, hPl, hb2⟩
      have hrt := HR.out.below hb2
      have KJ := Lib.hid (jn0_any (k := 2) hrt hpk rfl HL.out)
      have HZ2 : Hid (Tk6 w2 (w.heap.size + 1) tbZ taZ) := Lib.hid ((hb2.block _ HZ.out.lt).trans HZ.out)
      have HB2 := Lib.hid (HB.out.trans (hb2.mono HB.out.size))
      clear hpk hPl hb2 hrt
      go_wp2_with fail
      refine KJ.out.mono ?_
      rintro e w3 ⟨rfl, u', b', hblt, hrt, hfj, hut⟩
      have HJ2 := Lib.hid (HJ.out.s0 hblt)
      have HR2 := Lib.hid hrt
      have HB3 := Lib.hid (HB2.out.trans hfj.below)
      have HZ3 : Hid (Tk6 w3 (w.heap.size + 1) tbZ taZ) := Lib.hid ((hfj.keep _ HZ2.out.lt (by omega)).trans HZ2.out)
      have HUT := Lib.hid hut
      clear hblt hrt hfj hut
      go_wp2
      exact ⟨⟨1, u', b', by omega, by go_num, HJ2, HR2, Lib.hid (fun e => absurd e (by decide)), HB3, HZ3⟩, by simp [intOf]⟩
    · have hl : u.ci.length ≤ 4000 := by
        have := HJ.out.ci
        simp at this
        rw [show u.ci = (Tp u).ci from rfl, this]
        have := HPB.out.2.1
        show t.ci.length ≤ 4000
        omega
      have KD := Lib.hid (fun W => deed1_any w.heap.size 3 (.inl rfl) W)
      have HL := Lib.hid hl
      clear hl
      go_wp2_with fail
      refine (KD.out _).mono ?_
      rintro e w2 ⟨P, rfl, hpk, hPl, hb2⟩
      have hrt := HR.out.below hb2
      have KJ := Lib.hid (jn1_any (k := 3) hrt hpk (.inl rfl) HL.out)
      have HZ2 : Hid (Tk6 w2 (w.heap.size + 1) tbZ taZ) := Lib.hid ((hb2.block _ HZ.out.lt).trans HZ.out)
      have HB2 := Lib.hid (HB.out.trans (hb2.mono HB.out.size))
      clear hpk hPl hb2 hrt
      go_wp2_with fail
      refine KJ.out.mono ?_
      rintro e w3 ⟨rfl, u', b', hblt, hrt, hfj, hut⟩
      have HJ2 := Lib.hid (HJ.out.s1 hblt)
      have HR2 := Lib.hid hrt
      have HB3 := Lib.hid (HB2.out.trans hfj.below)
      have HZ3 : Hid (Tk6 w3 (w.heap.size + 1) tbZ taZ) := Lib.hid ((hfj.keep _ HZ2.out.lt (by omega)).trans HZ2.out)
      have HUT := Lib.hid hut
      clear hblt hrt hfj hut
      go_wp2
      exact ⟨⟨2, u', b', by omega, by go_num, HJ2, HR2, Lib.hid (fun e => absurd e (by decide)), HB3, HZ3⟩, by simp [intOf]⟩
    · have hl : u.no.length ≤ 4000 := by
        have := HJ.out.no
        simp at this
        rw [show u.no = (Tp u).no from rfl, this]
        have := HPB.out.2.2.1
        show t.no.length ≤ 4000
        omega
      have KD := Lib.hid (fun W => deed2_any w.heap.size 5 (.inl rfl) W)
      have HL := Lib.hid hl
      clear hl
      go_wp2_with fail
      refine (KD.out _).mono ?_
      rintro e w2 ⟨P, rfl, hpk, hPl, hb2⟩
      have hrt := HR.out.below hb2
      have KJ := Lib.hid (jn2_any (k := 5) hrt hpk (.inl rfl) HL.out)
      have HZ2 : Hid (Tk6 w2 (w.heap.size + 1) tbZ taZ) := Lib.hid ((hb2.block _ HZ.out.lt).trans HZ.out)
      have HB2 := Lib.hid (HB.out.trans (hb2.mono HB.out.size))
      clear hpk hPl hb2 hrt
      go_wp2_with fail
      refine KJ.out.mono ?_
      rintro e w3 ⟨rfl, u', b', hblt, hrt, hfj, hut⟩
      have HJ2 := Lib.hid (HJ.out.s2 hblt)
      have HR2 := Lib.hid hrt
      have HB3 := Lib.hid (HB2.out.trans hfj.below)
      have HZ3 : Hid (Tk6 w3 (w.heap.size + 1) tbZ taZ) := Lib.hid ((hfj.keep _ HZ2.out.lt (by omega)).trans HZ2.out)
      have HUT := Lib.hid hut
      clear hblt hrt hfj hut
      go_wp2
      exact ⟨⟨3, u', b', by omega, by go_num, HJ2, HR2, Lib.hid (fun e => absurd e (by decide)), HB3, HZ3⟩, by simp [intOf]⟩
    · have hl : u.bf.length ≤ 10000 := by
        have := HJ.out.bf
        simp at this
        rw [← pl_length, show pl u.bf = (Tp u).bf from rfl, this]
        have := HPB.out.2.2.2
        show (pl t.bf).length ≤ 10000
        rw [pl_length]
        omega
      have KD := Lib.hid (fun W => deed3_any w.heap.size 7 (.inl rfl) W)
      have HL := Lib.hid hl
      clear hl
      go_wp2_with fail
      refine (KD.out _).mono ?_
      rintro e w2 ⟨P, rfl, hpk, hPl, hb2⟩
      have hrt := HR.out.below hb2
      have KJ := Lib.hid (jn3_any (k := 7) hrt hpk (.inl rfl) HL.out)
      have HZ2 : Hid (Tk6 w2 (w.heap.size + 1) tbZ taZ) := Lib.hid ((hb2.block _ HZ.out.lt).trans HZ.out)
      have HB2 := Lib.hid (HB.out.trans (hb2.mono HB.out.size))
      clear hpk hPl hb2 hrt
      go_wp2_with fail
      refine KJ.out.mono ?_
      rintro e w3 ⟨rfl, u', b', hblt, hrt, hfj, hut⟩
      have HJ2 := Lib.hid (HJ.out.s3 hblt).jk
      have HR2 := Lib.hid hrt
      have HB3 := Lib.hid (HB2.out.trans hfj.below)
      have HZ3 : Hid (Tk6 w3 (w.heap.size + 1) tbZ taZ) := Lib.hid ((hfj.keep _ HZ2.out.lt (by omega)).trans HZ2.out)
      have HUT := Lib.hid hut
      clear hblt hrt hfj hut
      go_wp2
      exact ⟨⟨4, u', b', by omega, by go_num, HJ2, HR2, Lib.hid (fun _ => by first | exact HUT.out rfl | exact HUT.out trivial), HB3, HZ3⟩, by simp [intOf]⟩
    · have HFin : Hid (∀ act : Act, act.defers = [] → act.tmps[2]?.getD undef = .pointer (some ⟨w.heap.size + 1, 0, none⟩) → bodyPost Tryz.prog Tryz.f40 (TabR 0 w (Cm (Tp t))) .ret act (put6 wr (w.heap.size + 1) (.string (str u.nm)) (.int .i64 u.wm) (.slice b.a0 u.sp.length b.c0) (.slice b.a1 u.ci.length b.c1) (.slice b.a2 u.no.length b.c2) (.slice b.a3 u.bf.length b.c3))) := Lib.hid fun act hd h2 => tab_ret Tryz.results40 HZ.out ((Stm.zero HR.out.now (HU4.out rfl)).ret HJ.out.cm HB.out (by omega) (Nat.zero_le _) ⟨_, _, HZ.out⟩) hd h2
      obtain ⟨y0, y1, y2, y3, y4, y5⟩ := HR.out.tb.cells
      obtain ⟨z0, z1, z2, z3, z4, z5⟩ := cells6 HZ.out
      obtain ⟨f0, f1, f2, f3, f4, f5⟩ := thaw6 HZ.out
      unfold put6 at HFin
      go_wp2_with (with_reducible exact HFin.out _ rfl rfl)
set_option maxRecDepth 100000 in
set_option maxHeartbeats 4000000 in
theorem All_any {v : Value} {is : List Im} (w : World) (hx : Ix w (fun _ => False) v is) (hl : is.length ≤ 10000) (hb : ∀ x ∈ is, Xb x) (hp : Pb (lstL Pg.nil is)) :
    Calls Tryz.prog 18 #[v] w (TabR 0 w (Cm (lstL Pg.nil is))) := by
  have hb1 : Below w.heap.size w (w.alloc (.cells #[.string (str []), .int .i64 0, .slice none 0 0, .slice none 0 0, .slice none 0 0, .slice none 0 0] 33)) := (Below.refl _ _).alloc (Nat.le_refl _) _
  have K1 := Lib.hid (Lists_any (w.alloc (.cells #[.string (str []), .int .i64 0, .slice none 0 0, .slice none 0 0, .slice none 0 0, .slice none 0 0] 33)) (hx.any (Kp.of_below hb1)) hl hb hp)
  have HZ : Hid (Tk6 (w.alloc (.cells #[.string (str []), .int .i64 0, .slice none 0 0, .slice none 0 0, .slice none 0 0, .slice none 0 0] 33)) w.heap.size tbZ taZ) := Lib.hid (heap_alloc_new w _)
  have HB := Lib.hid hb1
  have HP := Lib.hid hp
  obtain ⟨Av, nv, cv, hve⟩ : ∃ A n c, v = .slice A n c := by obtain ⟨d, _, ⟨A, c, hv, _⟩, _⟩ := hx; exact ⟨A, _, c, hv⟩
  subst hve
  rw [str_nil] at K1 HZ HB
  clear hx hl hb hp hb1
  go_enter Tryz.func18, Tryz.ntmps18
  go_wp2_with fail
  refine K1.out.mono ?_
  rintro e w1 ⟨t, a, rfl, ht, htm, hb2⟩
  have K2 := Lib.hid (joined_any w1 htm.now (by rw [ht]; exact HP.out))
  have HZ1 : Hid (Tk6 w1 w.heap.size tbZ taZ) := Lib.hid ((hb2.block _ HZ.out.lt).trans HZ.out)
  have HB1 := Lib.hid (HB.out.trans (hb2.mono HB.out.size))
  rw [ht] at K2
  clear ht htm hb2
  unfold tbv at K2 ⊢
  go_wp2_with fail
  refine K2.out.mono ?_
  rintro e w2 ⟨u, b, rfl, hu, hum, hb3⟩
  have hz2 : Tk6 w2 w.heap.size tbZ taZ := (hb3.block _ HZ1.out.lt).trans HZ1.out
  have hb4 := HB1.out.trans (hb3.mono HB1.out.size)
  have HFin : Hid (∀ act : Act, act.defers = [] → act.tmps[2]?.getD undef = .pointer (some ⟨w.heap.size, 0, none⟩) → bodyPost Tryz.prog Tryz.f18 (TabR 0 w (Cm (lstL Pg.nil is))) .ret act (put6 w2 w.heap.size (.string (str u.nm)) (.int .i64 u.wm) (.slice b.a0 u.sp.length b.c0) (.slice b.a1 u.ci.length b.c1) (.slice b.a2 u.no.length b.c2) (.slice b.a3 u.bf.length b.c3))) := Lib.hid fun act hd h2 => tab_ret Tryz.results18 hz2 (hum.ret hu hb4 (Nat.le_refl _) (Nat.zero_le _) ⟨_, _, hz2⟩) hd h2
  obtain ⟨z0, z1, z2, z3, z4, z5⟩ := cells6 hz2
  obtain ⟨f0, f1, f2, f3, f4, f5⟩ := thaw6 hz2
  clear hz2 hb4 hu hum hb3
  unfold put6 at HFin
  unfold tbv
  go_wp2_with (with_reducible exact HFin.out _ rfl rfl)
end Go.Proofs.YtmjneokjgcgchaaGreat
