/-
  The document's own put and borders (hornbookref08).
-/
import Derived.Test.YtkkochjdimegpaaRefDest1
import Derived.Test.YtkkochjdimegpaaDestBord
import Derived.Test.YtkkochjdimegpaaInfo64
import Derived.Deep.AppendLies
import Derived.Handy
namespace Go.Proofs.Ytkkochjdimegpaa
open Go.RowKit
attribute [local go_sem ↓] Go.wp_at_zero Go.wp_at_succ

theorem own_intS {w : World} {B : Nat} {e : TypeId} {v : Value} {n : Nat} {a b : List Int} (h : w.ownsRow B e 1 v n (ivs a ++ ivs b)) (hn : n = (a ++ b).length) : w.ownsRow B e 1 v (a ++ b).length (ivs (a ++ b)) := by
  rw [ivs_append, ← hn]; exact h
/-- One result: a slice of ints, whose block, if there is one, is new. -/
def RetP (w : World) (l : List Int) (e : Ending) (w' : World) : Prop :=
  ∃ A c, e = .returned (.slice A l.length c) ∧ Si w' w'.heap.size A l ∧ (∀ g o, A = some ⟨g, o, none⟩ → w.heap.size ≤ g) ∧ Below w.heap.size w w'
set_option maxRecDepth 100000 in
set_option maxHeartbeats 4000000 in
theorem rput_any (A : Option Addr) (c : Nat) (l : List Int) (v : Int) (w : World) (hA : Si w w.heap.size A l) (hl : l.length ≤ 100000) :
    Calls Try.prog 50 #[.slice A l.length c, .int .i64 v] w (RetP w (goP v l false)) := by
  obtain ⟨i0, hi, hz0, hz1, hz2⟩ := info_parts info64
  have HA := Lib.hid hA
  obtain ⟨R, hR⟩ : ∃ R, goP v l false = R := ⟨_, rfl⟩
  rw [hR]
  have HR := Lib.hid hR
  obtain ⟨n, hn⟩ : ∃ n, n = l.length := ⟨_, rfl⟩
  have HN := Lib.hid hn
  rw [← hn] at hl ⊢
  clear hn hA hR
  go_enter Try.func50, Try.ntmps50
  go_wp2
  go_loopw [5, 6, 7] (fun q d i wr => ∃ (k : Nat) (out : List Int) (dn : Bool), k ≤ n ∧ i = .int .i64 (k : Int) ∧ d = .bool dn ∧ out.length ≤ k + 1 ∧ Hid (out ++ goP v (l.drop k) dn = R) ∧ Hid (out.length + (if dn = true then 0 else 1) ≤ k + 1) ∧ wr.ownsRow w.heap.size 3 1 q out.length (ivs out) ∧ Below w.heap.size w wr) (fun _ _ i _ => n - (intOf i).toNat)
  case atStart => exact ⟨0, [], false, Nat.zero_le _, rfl, rfl, by simp, Lib.hid (by simpa using HR.out), Lib.hid (by simp), by simpa [ivs] using World.ownsRow_nil _ _ _ _, Below.refl _ _⟩
  case round =>
    obtain ⟨k, out, dn, hk, rfl, rfl, hout, HE, HO, hown, hbel⟩ := hrel
    have hsz := hbel.size
    by_cases hlt : k < n
    · have t0 : decide (k < n) = true := decide_eq_true hlt
      have hx := List.getElem?_eq_getElem (l := l) (i := k) (by have := HN.out; omega)
      generalize l[k]'(by have := HN.out; omega) = x at *
      obtain ⟨b, o, rfl, hb, hc⟩ := HA.out (by have := HN.out; omega)
      have HC : Hid (∀ W, Below w.heap.size w W → W.cell? ⟨b, o + k, none⟩ = some (.int .i64 x)) := Lib.hid fun W hW => by
        have := hc k (by have := HN.out; omega)
        rw [hx] at this
        exact (hW.cell (p := ⟨b, o + k, none⟩) hb).trans this
      have hcell := HC.out _ hbel
      have HX := Lib.hid hx
      clear hx hc
      by_cases hxv : x = v
      · have e1 : (x == v) = true := by simp [hxv]
        have HV := Lib.hid hxv
        clear hxv
        go_wp2_with (at_builtin; refine wpList_append_lies _ rfl _ _ _ rfl w.heap.size 3 i0 (.int .i64 0) 1 8 Try.underlying23 hi hz0 hz1 hz2 rfl (by omega) _ _ _ rfl (hown.alloc _) ⟨wr.heap.size, 0, none⟩ 1 1 (ivs [x]) rfl rfl (World.news_of_block (heap_alloc_new wr _)) (ivs_one _) (by omega) (by unfold maxLen; omega) (by omega) (by simp; omega) _ rfl ?_; intro g cap w3 hown3 hgrow hat hgl)
        go_roundw
        case rel => exact ⟨k + 1, out ++ [x], true, by omega, rfl, rfl, by simp; have := HO.out; split at this <;> omega, Lib.hid (goP_eq HX.out HV.out HE.out), Lib.hid (by simp; have := HO.out; split at this <;> omega), own_intS hown3 (by simp), (hbel.alloc hsz _).grown hgrow (by simp; omega) (fun q hq => (hown.lt q hq).1)⟩
        case measure => simp [intOf]; omega
      · have e1 : (x == v) = false := by simp [hxv]
        have HV := Lib.hid hxv
        clear hxv
        cases dn with
        | true =>
          go_wp2_with (at_builtin; refine wpList_append_lies _ rfl _ _ _ rfl w.heap.size 3 i0 (.int .i64 0) 1 8 Try.underlying23 hi hz0 hz1 hz2 rfl (by omega) _ _ _ rfl (hown.alloc _) ⟨wr.heap.size, 0, none⟩ 1 1 (ivs [x]) rfl rfl (World.news_of_block (heap_alloc_new wr _)) (ivs_one _) (by omega) (by unfold maxLen; omega) (by omega) (by simp; omega) _ rfl ?_; intro g cap w3 hown3 hgrow hat hgl)
          go_roundw
          case rel => exact ⟨k + 1, out ++ [x], true, by omega, rfl, rfl, by simp; omega, Lib.hid (goP_one HX.out HV.out (by simp) HE.out), Lib.hid (by simp; omega), own_intS hown3 (by simp), (hbel.alloc hsz _).grown hgrow (by simp; omega) (fun q hq => (hown.lt q hq).1)⟩
          case measure => simp [intOf]; omega
        | false =>
          have ho := HO.out
          simp only [Bool.false_eq_true, if_false] at ho
          by_cases hv : v < x
          · have e2 : decide (v < x) = true := decide_eq_true hv
            go_wp2_with (at_builtin; first | (refine wpList_append_lies _ rfl _ _ _ rfl w.heap.size 3 i0 (.int .i64 0) 1 8 Try.underlying23 hi hz0 hz1 hz2 rfl (by omega) _ _ _ rfl (hown4.alloc _) ⟨w3.heap.size, 0, none⟩ 1 1 (ivs [x]) rfl rfl (World.news_of_block (heap_alloc_new w3 _)) (ivs_one _) (by omega) (by unfold maxLen; omega) (by omega) (by simp; omega) _ rfl ?_; intro g2 cap2 w5 hown5 hgrow2 hat2 hgl2) | (refine wpList_append_lies _ rfl _ _ _ rfl w.heap.size 3 i0 (.int .i64 0) 1 8 Try.underlying23 hi hz0 hz1 hz2 rfl (by omega) _ _ _ rfl (hown.alloc _) ⟨wr.heap.size, 0, none⟩ 1 1 (ivs [v]) rfl rfl (World.news_of_block (heap_alloc_new wr _)) (ivs_one _) (by omega) (by unfold maxLen; omega) (by omega) (by simp; omega) _ rfl ?_; intro g cap w3 hown3 hgrow hat hgl; have hown4 := own_intS (b := [v]) hown3 (by simp); have hb3 := (hbel.alloc hsz _).grown hgrow (by simp; omega) (fun q hq => (hown.lt q hq).1); have hcell3 := HC.out _ hb3; have hsz3 := hb3.size; have hlen3 : (out ++ [v]).length = out.length + 1 := by simp))
            go_roundw
            case rel => exact ⟨k + 1, (out ++ [v]) ++ [x], true, by omega, rfl, rfl, by simp; omega, Lib.hid (goP_two HX.out HV.out hv HE.out), Lib.hid (by simp; omega), (by have h6 := own_intS (b := [x]) hown5 (by simp); rw [hlen3] at h6; exact h6), (hb3.alloc hsz3 _).grown hgrow2 (by simp; omega) (fun q hq => (hown4.lt q hq).1)⟩
            case measure => simp [intOf]; omega
          · have e2 : decide (v < x) = false := decide_eq_false hv
            go_wp2_with (at_builtin; refine wpList_append_lies _ rfl _ _ _ rfl w.heap.size 3 i0 (.int .i64 0) 1 8 Try.underlying23 hi hz0 hz1 hz2 rfl (by omega) _ _ _ rfl (hown.alloc _) ⟨wr.heap.size, 0, none⟩ 1 1 (ivs [x]) rfl rfl (World.news_of_block (heap_alloc_new wr _)) (ivs_one _) (by omega) (by unfold maxLen; omega) (by omega) (by simp; omega) _ rfl ?_; intro g cap w3 hown3 hgrow hat hgl)
            go_roundw
            case rel => exact ⟨k + 1, out ++ [x], false, by omega, rfl, rfl, by simp; omega, Lib.hid (goP_one HX.out HV.out (fun k => hv k.2) HE.out), Lib.hid (by simp; omega), own_intS hown3 (by simp), (hbel.alloc hsz _).grown hgrow (by simp; omega) (fun q hq => (hown.lt q hq).1)⟩
            case measure => simp [intOf]; omega
    · have t0 : decide (k < n) = false := decide_eq_false hlt
      have he : out ++ goP v [] dn = R := by
        have := HE.out
        rw [List.drop_eq_nil_of_le (by have := HN.out; omega)] at this
        exact this
      cases dn with
      | true =>
        have he2 : out = R := by simpa [goP] using he
        have HF := Lib.hid he2
        clear he he2
        obtain ⟨c', _, hc', A', hv, hsl⟩ := Si.of_own hown
        subst hv
        have hnew : ∀ g o, A' = some ⟨g, o, none⟩ → w.heap.size ≤ g := fun g o e => (hown.lt g (by rw [e]; rfl)).1
        go_wp2
        go_ret
        rw [← HF.out]
        exact ⟨A', c', rfl, hsl, hnew, hbel⟩
      | false =>
        have he2 : out ++ [v] = R := by simpa [goP] using he
        have HF := Lib.hid he2
        clear he he2
        go_wp2_with (at_builtin; refine wpList_append_lies _ rfl _ _ _ rfl w.heap.size 3 i0 (.int .i64 0) 1 8 Try.underlying23 hi hz0 hz1 hz2 rfl (by omega) _ _ _ rfl (hown.alloc _) ⟨wr.heap.size, 0, none⟩ 1 1 (ivs [v]) rfl rfl (World.news_of_block (heap_alloc_new wr _)) (ivs_one _) (by omega) (by unfold maxLen; omega) (by omega) (by simp; omega) _ rfl ?_; intro g cap w3 hown3 hgrow hat hgl)
        have hown4 := own_intS (b := [v]) hown3 (by simp)
        have hb3 := (hbel.alloc hsz _).grown hgrow (by simp; omega) (fun q hq => (hown.lt q hq).1)
        go_ret
        rw [← HF.out]
        obtain ⟨c', _, hc', A', hv, hsl⟩ := Si.of_own hown4
        have hnew : ∀ g o, A' = some ⟨g, o, none⟩ → w.heap.size ≤ g := fun g o e => (hown4.lt g (by rw [hv, e]; rfl)).1
        exact ⟨A', c', by rw [← hv]; simp, hsl, hnew, hb3⟩

/-- What borders hands back. -/
def RetB (w : World) (n : Int) (l : List Bp) (e : Ending) (w' : World) : Prop :=
  ∃ b A c, Bo n l b ∧ b.length ≤ 2 * l.length ∧ e = .returned (.slice A b.length c) ∧ Si w' w'.heap.size A b ∧ (∀ g o, A = some ⟨g, o, none⟩ → w.heap.size ≤ g) ∧ Below w.heap.size w w'
set_option maxRecDepth 100000 in
set_option maxHeartbeats 4000000 in
theorem rborders_any (A : Option Addr) (c : Nat) (l : List Me) (N : Int) (w : World) (hA : Sd w A l) (hl : l.length ≤ 10000) (hul : ∀ m ∈ l, m.b.u.length ≤ 9223372036854775807) :
    Calls Try.prog 41 #[.slice A l.length c, .int .i64 N] w (RetB w N (pl l)) := by
  have HA := Lib.hid hA
  have HU := Lib.hid hul
  obtain ⟨n, hn⟩ : ∃ n, n = l.length := ⟨_, rfl⟩
  have HN := Lib.hid hn
  rw [← hn] at hl ⊢
  clear hn hA hul
  go_enter Try.func41, Try.ntmps41
  go_wp2
  go_loopw [5, 6] (fun q i wr => ∃ (k : Nat) (out : List Int) (A' : Option Addr) (c' : Nat), k ≤ n ∧ i = .int .i64 (k : Int) ∧ q = .slice A' out.length c' ∧ out.length ≤ 2 * k ∧ Hid (Bo N ((pl l).take k) out) ∧ Hid (Si wr wr.heap.size A' out) ∧ Hid (∀ g o, A' = some ⟨g, o, none⟩ → w.heap.size ≤ g) ∧ Below w.heap.size w wr) (fun _ i _ => n - (intOf i).toNat)
  case atStart => exact ⟨0, [], none, 0, Nat.zero_le _, rfl, rfl, by simp, Lib.hid (by simpa using Bo.nil N), Lib.hid Si.nil, Lib.hid (fun g o e => by cases e), Below.refl _ _⟩
  case round =>
    obtain ⟨k, out, A', c', hk, rfl, rfl, hout, HB, HS, HW, hbel⟩ := hrel
    have hsz := hbel.size
    by_cases hlt : k < n
    · have t0 : decide (k < n) = true := decide_eq_true hlt
      have hx := List.getElem?_eq_getElem (l := l) (i := k) (by have := HN.out; omega)
      generalize l[k]'(by have := HN.out; omega) = x at *
      have htk : (pl l).take (k + 1) = (pl l).take k ++ [x.b] := by rw [List.take_add_one, pl_get hx]; rfl
      have HTK := Lib.hid htk
      obtain ⟨b, o, rfl, hb, hx4⟩ := (HA.out.over hbel).rd.at hx
      have hux := HA.out.ul x (List.mem_of_getElem? hx)
      have hxl := HU.out x (List.mem_of_getElem? hx)
      have HXC : Hid (∀ W, Below wr.heap.size wr W → F4 W b (o + k * 4) x) := Lib.hid fun W hW => hx4.keep fun i => hW.cell (p := ⟨b, i, none⟩) hb
      have K1 : Hid (∀ W, Below w.heap.size w W → Calls Try.prog 20 #[fv x] W fun e w' => e = .returned (.bool (decide (Sb x.b))) ∧ Below W.heap.size W w') := Lib.hid fun W hW => rDSane_any x W (hux.over hW) hxl
      unfold fv at K1
      obtain ⟨y0, y1, y2, y3⟩ := id hx4
      clear hx hx4 htk hux hxl
      by_cases hxn : x.b.n = N
      · have e1 : (x.b.n == N) = true := by simp [hxn]
        by_cases hs : Sb x.b
        · rw [decide_eq_true hs] at K1
          have HSN := Lib.hid hs
          have HXN := Lib.hid hxn
          have hb1 : x.b.hi < 4294967296 := by have := saneB_top hs.2.1; omega
          have hb2 : 0 ≤ x.b.hi := by have := saneB_top hs.2.1; omega
          clear hs hxn
          go_wp2_with fail
          refine (K1.out _ hbel).mono ?_
          rintro e w1 ⟨rfl, hb1'⟩
          have bk1 := hbel.trans (hb1'.mono hsz)
          have hsz1 := bk1.size
          have hwr : IntKind.i64.wrap (x.b.hi + 1) = x.b.hi + 1 := IntWalk.i64_in _ (by omega)
          have HH : Hid (∀ w', Below w1.heap.size w1 w' → w'.cell? ⟨b, o + k * 4 + 1, none⟩ = some (.int .i64 x.b.lo) ∧ w'.cell? ⟨b, o + k * 4 + 2, none⟩ = some (.int .i64 x.b.hi)) := Lib.hid fun w' hw => by
            have p := HXC.out _ (hb1'.trans (hw.mono hb1'.size))
            exact ⟨p.c1, p.c2⟩
          have z0 : Below w1.heap.size w1 w1.drew := (Below.refl _ _).drew
          have K2 := Lib.hid (fun W (hW : Below w1.heap.size w1 W) => rput_any A' c' out x.b.lo W ((HS.out.over hb1').over hW) (by omega))
          have hgl := goP_length x.b.lo out
          have K3 := Lib.hid (fun (A2 : Option Addr) (c2 : Nat) W (h2 : Si W W.heap.size A2 (goP x.b.lo out false)) => rput_any A2 c2 (goP x.b.lo out false) (x.b.hi + 1) W h2 (by omega))
          have hgl2 := goP_length (x.b.hi + 1) (goP x.b.lo out false)
          clear y0 y1 y2 y3 HXC K1
          generalize hm1 : goP x.b.lo out false = m1 at *
          generalize hm2 : goP (x.b.hi + 1) m1 false = m2 at *
          have HM1 := Lib.hid hm1
          have HM2 := Lib.hid hm2
          clear hm1 hm2
          go_wp2_with fail
          go_region_held (fun w' => w'.cell? ⟨b, o + k * 4 + 1, none⟩ = some (.int .i64 x.b.lo) ∧ w'.cell? ⟨b, o + k * 4 + 2, none⟩ = some (.int .i64 x.b.hi))
            (first | with_reducible exact HH.out _ z9 | with_reducible exact HH.out _ z8 | with_reducible exact HH.out _ z0)
            (first | (go_at_call 50; (with_reducible refine (K2.out _ z0).mono ?_); rintro e W1 ⟨A8, c8, rfl, s8, n8, y8⟩; have z8 := z0.trans (y8.mono z0.size)) | (go_at_call 50; (with_reducible refine (K3.out _ _ _ s8).mono ?_); rintro e W2 ⟨A9, c9, rfl, s9, n9, y9⟩; have z9 := z8.trans (y9.mono z8.size)))
          all_goals
            go_wp2
            refine ⟨⟨k + 1, m2, A9, c9, by omega, by first | rfl | go_num, rfl, by omega, Lib.hid (by rw [HTK.out, ← HM2.out, ← HM1.out]; exact HB.out.yes HSN.out HXN.out), Lib.hid s9, Lib.hid (fun g o e => Nat.le_trans (Nat.le_trans hsz1 z8.size) (n9 g o e)), bk1.trans (z9.mono hsz1)⟩, by simp [intOf]; omega⟩
        · rw [decide_eq_false hs] at K1
          have HSN := Lib.hid hs
          clear hs hxn
          go_wp2_with fail
          refine (K1.out _ hbel).mono ?_
          rintro e w1 ⟨rfl, hb1'⟩
          have bk1 := hbel.trans (hb1'.mono hsz)
          clear y0 y1 y2 y3
          go_wp2
          refine ⟨⟨k + 1, out, A', c', by omega, by first | rfl | go_num, rfl, by omega, Lib.hid (by rw [HTK.out]; exact HB.out.no (fun h => HSN.out h.2)), Lib.hid (HS.out.over hb1'), HW, bk1⟩, by simp [intOf]; omega⟩
      · have e1 : (x.b.n == N) = false := by simp [hxn]
        have HXN := Lib.hid hxn
        clear hxn
        go_wp2
        refine ⟨⟨k + 1, out, A', c', by omega, by first | rfl | go_num, rfl, by omega, Lib.hid (by rw [HTK.out]; exact HB.out.no (fun h => HXN.out h.1)), HS, HW, hbel⟩, by simp [intOf]; omega⟩
    · have t0 : decide (k < n) = false := decide_eq_false hlt
      obtain rfl : k = n := by omega
      have hbo : Bo N (pl l) out := by
        have := HB.out
        rwa [List.take_of_length_le (by rw [pl_length]; have := HN.out; omega)] at this
      have HBO := Lib.hid hbo
      clear hbo
      go_wp2
      go_ret
      exact ⟨out, A', c', HBO.out, by rw [pl_length]; have := HN.out; omega, rfl, HS.out, HW.out, hbel⟩
end Go.Proofs.Ytkkochjdimegpaa
