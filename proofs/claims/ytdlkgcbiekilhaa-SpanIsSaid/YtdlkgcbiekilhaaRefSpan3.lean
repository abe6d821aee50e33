/-
  The document's own put and borders (hornbookref07).
-/
import Derived.Test.YtdlkgcbiekilhaaRefSpan1
import Derived.Test.YtdlkgcbiekilhaaInfo64
import Derived.Deep.AppendLies
import Derived.Handy
namespace Go.Proofs.Ytdlkgcbiekilhaa
open Go.RowKit
attribute [local go_sem ↓] Go.wp_at_zero Go.wp_at_succ

theorem own_intS {w : World} {B : Nat} {e : TypeId} {v : Value} {n : Nat} {a b : List Int} (h : w.ownsRow B e 1 v n (ivs a ++ ivs b)) (hn : n = (a ++ b).length) : w.ownsRow B e 1 v (a ++ b).length (ivs (a ++ b)) := by
  rw [ivs_append, ← hn]; exact h
/-- A number, where it is to be in a list that rises; once. -/
def goP (v : Int) : List Int → Bool → List Int
  | [], d => if d = true then [] else [v]
  | x :: l, d => if x = v then x :: goP v l true else if d = false ∧ v < x then v :: x :: goP v l true else x :: goP v l d
theorem goP_true (v : Int) : ∀ l, goP v l true = l
  | [] => rfl
  | x :: l => by
    have := goP_true v l
    unfold goP
    split
    · rw [this]
    · rw [if_neg (by simp), this]
theorem goP_mem (v : Int) : ∀ {l : List Int} {y : Int}, y ∈ goP v l false ↔ y = v ∨ y ∈ l
  | [], y => by simp [goP]
  | x :: l, y => by
    have ih := goP_mem v (l := l) (y := y)
    unfold goP
    split
    · rename_i h
      subst h
      rw [goP_true]
      simp
    · split
      · rw [goP_true]
        simp
      · simp only [List.mem_cons, ih]
        constructor
        · rintro (h | h | h)
          · exact .inr (.inl h)
          · exact .inl h
          · exact .inr (.inr h)
        · rintro (h | h | h)
          · exact .inr (.inl h)
          · exact .inl h
          · exact .inr (.inr h)
theorem goP_rise (v : Int) : ∀ {l : List Int}, l.Pairwise (· < ·) → (goP v l false).Pairwise (· < ·)
  | [], _ => by simp [goP]
  | x :: l, h => by
    have h1 := (List.pairwise_cons.1 h)
    unfold goP
    split
    · rw [goP_true]; exact h
    · rename_i hx
      split
      · rename_i hv
        rw [goP_true]
        refine List.pairwise_cons.2 ⟨fun y hy => ?_, h⟩
        rcases List.mem_cons.1 hy with rfl | hy
        · exact hv.2
        · have := h1.1 y hy
          omega
      · rename_i hv
        refine List.pairwise_cons.2 ⟨fun y hy => ?_, goP_rise v h1.2⟩
        rcases (goP_mem v).1 hy with rfl | hy
        · have : ¬ y < x := fun k => hv ⟨rfl, k⟩
          omega
        · exact h1.1 y hy
theorem goP_length (v : Int) : ∀ l : List Int, (goP v l false).length ≤ l.length + 1
  | [] => by simp [goP]
  | x :: l => by
    have := goP_length v l
    unfold goP
    split
    · rw [goP_true]; simp
    · split
      · rw [goP_true]; simp
      · simp only [List.length_cons]; omega
section
variable {l out R : List Int} {k : Nat} {x v : Int} {d : Bool}
theorem goP_here (h : l[k]? = some x) (he : out ++ goP v (l.drop k) d = R) : out ++ goP v (x :: l.drop (k + 1)) d = R := by
  have hk := (List.getElem?_eq_some_iff.1 h)
  obtain ⟨hk1, hk2⟩ := hk
  rw [← hk2, ← List.drop_eq_getElem_cons hk1]
  exact he
theorem goP_eq (h : l[k]? = some x) (hx : x = v) (he : out ++ goP v (l.drop k) d = R) : (out ++ [x]) ++ goP v (l.drop (k + 1)) true = R := by
  have := goP_here h he
  unfold goP at this
  rw [if_pos hx] at this
  rw [List.append_assoc]; exact this
theorem goP_two (h : l[k]? = some x) (hx : x ≠ v) (hv : v < x) (he : out ++ goP v (l.drop k) false = R) : ((out ++ [v]) ++ [x]) ++ goP v (l.drop (k + 1)) true = R := by
  have := goP_here h he
  unfold goP at this
  rw [if_neg hx, if_pos ⟨rfl, hv⟩] at this
  rw [List.append_assoc, List.append_assoc]; exact this
theorem goP_one (h : l[k]? = some x) (hx : x ≠ v) (hv : ¬ (d = false ∧ v < x)) (he : out ++ goP v (l.drop k) d = R) : (out ++ [x]) ++ goP v (l.drop (k + 1)) d = R := by
  have := goP_here h he
  unfold goP at this
  rw [if_neg hx, if_neg hv] at this
  rw [List.append_assoc]; exact this
end
/-- One result: a slice of ints, whose block, if there is one, is new. -/
def RetP (w : World) (l : List Int) (e : Ending) (w' : World) : Prop :=
  ∃ A c, e = .returned (.slice A l.length c) ∧ Si w' w'.heap.size A l ∧ (∀ g o, A = some ⟨g, o, none⟩ → w.heap.size ≤ g) ∧ Below w.heap.size w w'
set_option maxRecDepth 100000 in
set_option maxHeartbeats 4000000 in
theorem rput_any (A : Option Addr) (c : Nat) (l : List Int) (v : Int) (w : World) (hA : Si w w.heap.size A l) (hl : l.length ≤ 100000) :
    Calls Try.prog 42 #[.slice A l.length c, .int .i64 v] w (RetP w (goP v l false)) := by
  obtain ⟨i0, hi, hz0, hz1, hz2⟩ := info_parts info64
  have HA := Lib.hid hA
  obtain ⟨R, hR⟩ : ∃ R, goP v l false = R := ⟨_, rfl⟩
  rw [hR]
  have HR := Lib.hid hR
  obtain ⟨n, hn⟩ : ∃ n, n = l.length := ⟨_, rfl⟩
  have HN := Lib.hid hn
  rw [← hn] at hl ⊢
  clear hn hA hR
  go_enter Try.func42, Try.ntmps42
  go_wp2
  go_loopw [5, 6, 7] (fun q d i wr => ∃ (k : Nat) (out : List Int) (dn : Bool), k ≤ n ∧ i = .int .i64 (k : Int) ∧ d = .bool dn ∧ out.length ≤ k + 1 ∧ Hid (out ++ goP v (l.drop k) dn = R) ∧ Hid (out.length + (if dn = true then 0 else 1) ≤ k + 1) ∧ wr.ownsRow w.heap.size 3 1 q out.length (ivs out) ∧ Below w.heap.size w wr) (fun _ _ i _ => n - (intOf i).toNat)
  case atStart => exact ⟨0, [], false, Nat.zero_le _, rfl, rfl, by simp, Lib.hid (by simpa using HR.out), Lib.hid (by simp), by simpa [ivs] using World.ownsRow_nil _ _ _ _, Below.refl _ _⟩
  case round =>
    obtain ⟨k, out, dn, hk, rfl, rfl, hout, HE, HO, hown, hbel⟩ := hrel
    have hsz := hbel.size
    by_cases hlt : k < n
    · have t0 : decide (k < n) = true := decide_eq_true hlt
      have hx := List.getElem?_eq_getElem (l := l) (i := k) (by have := HN.out; omega)
      generalize l[k]'(by have := HN.out; omega) = x at *
      obtain ⟨b, o, rfl, hb, hc⟩ := HA.out (by have := HN.out; omega)
      have HC : Hid (∀ W, Below w.heap.size w W → W.cell? ⟨b, o + k, none⟩ = some (.int .i64 x)) := Lib.hid fun W hW => by
        have := hc k (by have := HN.out; omega)
        rw [hx] at this
        exact (hW.cell (p := ⟨b, o + k, none⟩) hb).trans this
      have hcell := HC.out _ hbel
      have HX := Lib.hid hx
      clear hx hc
      by_cases hxv : x = v
      · have e1 : (x == v) = true := by simp [hxv]
        have HV := Lib.hid hxv
        clear hxv
        go_wp2_with (at_builtin; refine wpList_append_lies _ rfl _ _ _ rfl w.heap.size 3 i0 (.int .i64 0) 1 8 Try.underlying51 hi hz0 hz1 hz2 rfl (by omega) _ _ _ rfl (hown.alloc _) ⟨wr.heap.size, 0, none⟩ 1 1 (ivs [x]) rfl rfl (World.news_of_block (heap_alloc_new wr _)) (ivs_one _) (by omega) (by unfold maxLen; omega) (by omega) (by simp; omega) _ rfl ?_; intro g cap w3 hown3 hgrow hat hgl)
        go_roundw
        case rel => exact ⟨k + 1, out ++ [x], true, by omega, rfl, rfl, by simp; have := HO.out; split at this <;> omega, Lib.hid (goP_eq HX.out HV.out HE.out), Lib.hid (by simp; have := HO.out; split at this <;> omega), own_intS hown3 (by simp), (hbel.alloc hsz _).grown hgrow (by simp; omega) (fun q hq => (hown.lt q hq).1)⟩
        case measure => simp [intOf]; omega
      · have e1 : (x == v) = false := by simp [hxv]
        have HV := Lib.hid hxv
        clear hxv
        cases dn with
        | true =>
          go_wp2_with (at_builtin; refine wpList_append_lies _ rfl _ _ _ rfl w.heap.size 3 i0 (.int .i64 0) 1 8 Try.underlying51 hi hz0 hz1 hz2 rfl (by omega) _ _ _ rfl (hown.alloc _) ⟨wr.heap.size, 0, none⟩ 1 1 (ivs [x]) rfl rfl (World.news_of_block (heap_alloc_new wr _)) (ivs_one _) (by omega) (by unfold maxLen; omega) (by omega) (by simp; omega) _ rfl ?_; intro g cap w3 hown3 hgrow hat hgl)
          go_roundw
          case rel => exact ⟨k + 1, out ++ [x], true, by omega, rfl, rfl, by simp; omega, Lib.hid (goP_one HX.out HV.out (by simp) HE.out), Lib.hid (by simp; omega), own_intS hown3 (by simp), (hbel.alloc hsz _).grown hgrow (by simp; omega) (fun q hq => (hown.lt q hq).1)⟩
          case measure => simp [intOf]; omega
        | false =>
          have ho := HO.out
          simp only [Bool.false_eq_true, if_false] at ho
          by_cases hv : v < x
          · have e2 : decide (v < x) = true := decide_eq_true hv
            go_wp2_with (at_builtin; first | (refine wpList_append_lies _ rfl _ _ _ rfl w.heap.size 3 i0 (.int .i64 0) 1 8 Try.underlying51 hi hz0 hz1 hz2 rfl (by omega) _ _ _ rfl (hown4.alloc _) ⟨w3.heap.size, 0, none⟩ 1 1 (ivs [x]) rfl rfl (World.news_of_block (heap_alloc_new w3 _)) (ivs_one _) (by omega) (by unfold maxLen; omega) (by omega) (by simp; omega) _ rfl ?_; intro g2 cap2 w5 hown5 hgrow2 hat2 hgl2) | (refine wpList_append_lies _ rfl _ _ _ rfl w.heap.size 3 i0 (.int .i64 0) 1 8 Try.underlying51 hi hz0 hz1 hz2 rfl (by omega) _ _ _ rfl (hown.alloc _) ⟨wr.heap.size, 0, none⟩ 1 1 (ivs [v]) rfl rfl (World.news_of_block (heap_alloc_new wr _)) (ivs_one _) (by omega) (by unfold maxLen; omega) (by omega) (by simp; omega) _ rfl ?_; intro g cap w3 hown3 hgrow hat hgl; have hown4 := own_intS (b := [v]) hown3 (by simp); have hb3 := (hbel.alloc hsz _).grown hgrow (by simp; omega) (fun q hq => (hown.lt q hq).1); have hcell3 := HC.out _ hb3; have hsz3 := hb3.size; have hlen3 : (out ++ [v]).length = out.length + 1 := by simp))
            go_roundw
            case rel => exact ⟨k + 1, (out ++ [v]) ++ [x], true, by omega, rfl, rfl, by simp; omega, Lib.hid (goP_two HX.out HV.out hv HE.out), Lib.hid (by simp; omega), (by have h6 := own_intS (b := [x]) hown5 (by simp); rw [hlen3] at h6; exact h6), (hb3.alloc hsz3 _).grown hgrow2 (by simp; omega) (fun q hq => (hown4.lt q hq).1)⟩
            case measure => simp [intOf]; omega
          · have e2 : decide (v < x) = false := decide_eq_false hv
            go_wp2_with (at_builtin; refine wpList_append_lies _ rfl _ _ _ rfl w.heap.size 3 i0 (.int .i64 0) 1 8 Try.underlying51 hi hz0 hz1 hz2 rfl (by omega) _ _ _ rfl (hown.alloc _) ⟨wr.heap.size, 0, none⟩ 1 1 (ivs [x]) rfl rfl (World.news_of_block (heap_alloc_new wr _)) (ivs_one _) (by omega) (by unfold maxLen; omega) (by omega) (by simp; omega) _ rfl ?_; intro g cap w3 hown3 hgrow hat hgl)
            go_roundw
            case rel => exact ⟨k + 1, out ++ [x], false, by omega, rfl, rfl, by simp; omega, Lib.hid (goP_one HX.out HV.out (fun k => hv k.2) HE.out), Lib.hid (by simp; omega), own_intS hown3 (by simp), (hbel.alloc hsz _).grown hgrow (by simp; omega) (fun q hq => (hown.lt q hq).1)⟩
            case measure => simp [intOf]; omega
    · have t0 : decide (k < n) = false := decide_eq_false hlt
      have he : out ++ goP v [] dn = R := by
        have := HE.out
        rw [List.drop_eq_nil_of_le (by have := HN.out; omega)] at this
        exact this
      cases dn with
      | true =>
        have he2 : out = R := by simpa [goP] using he
        have HF := Lib.hid he2
        clear he he2
        obtain ⟨c', _, hc', A', hv, hsl⟩ := Si.of_own hown
        subst hv
        have hnew : ∀ g o, A' = some ⟨g, o, none⟩ → w.heap.size ≤ g := fun g o e => (hown.lt g (by rw [e]; rfl)).1
        go_wp2
        go_ret
        rw [← HF.out]
        exact ⟨A', c', rfl, hsl, hnew, hbel⟩
      | false =>
        have he2 : out ++ [v] = R := by simpa [goP] using he
        have HF := Lib.hid he2
        clear he he2
        go_wp2_with (at_builtin; refine wpList_append_lies _ rfl _ _ _ rfl w.heap.size 3 i0 (.int .i64 0) 1 8 Try.underlying51 hi hz0 hz1 hz2 rfl (by omega) _ _ _ rfl (hown.alloc _) ⟨wr.heap.size, 0, none⟩ 1 1 (ivs [v]) rfl rfl (World.news_of_block (heap_alloc_new wr _)) (ivs_one _) (by omega) (by unfold maxLen; omega) (by omega) (by simp; omega) _ rfl ?_; intro g cap w3 hown3 hgrow hat hgl)
        have hown4 := own_intS (b := [v]) hown3 (by simp)
        have hb3 := (hbel.alloc hsz _).grown hgrow (by simp; omega) (fun q hq => (hown.lt q hq).1)
        go_ret
        rw [← HF.out]
        obtain ⟨c', _, hc', A', hv, hsl⟩ := Si.of_own hown4
        have hnew : ∀ g o, A' = some ⟨g, o, none⟩ → w.heap.size ≤ g := fun g o e => (hown4.lt g (by rw [hv, e]; rfl)).1
        exact ⟨A', c', by rw [← hv]; simp, hsl, hnew, hb3⟩

/-- Where something of n bytes begins, or has ended. -/
def Bo (st : Bool) (n : Int) (l : List Sp) (b : List Int) : Prop := b.Pairwise (· < ·) ∧ ∀ y, y ∈ b ↔ ∃ r ∈ l, Sn st r ∧ r.n = n ∧ (y = r.lo ∨ y = r.hi + 1)
theorem Bo.nil (st : Bool) (n : Int) : Bo st n [] [] := ⟨List.Pairwise.nil, fun y => by simp⟩
theorem Bo.yes {st : Bool} {n : Int} {l : List Sp} {b : List Int} {s : Sp} (h : Bo st n l b) (hs : Sn st s) (hn : s.n = n) : Bo st n (l ++ [s]) (goP (s.hi + 1) (goP s.lo b false) false) :=
  ⟨goP_rise _ (goP_rise _ h.1), fun y => by
    rw [goP_mem, goP_mem, h.2]
    constructor
    · rintro (e | e | ⟨r, hr, k⟩)
      · exact ⟨s, by simp, hs, hn, .inr e⟩
      · exact ⟨s, by simp, hs, hn, .inl e⟩
      · exact ⟨r, by simp [hr], k⟩
    · rintro ⟨r, hr, k1, k2, k3⟩
      rcases List.mem_append.1 hr with hr | hr
      · exact .inr (.inr ⟨r, hr, k1, k2, k3⟩)
      · obtain rfl := List.mem_singleton.1 hr
        rcases k3 with e | e
        · exact .inr (.inl e)
        · exact .inl e⟩
theorem Bo.no {st : Bool} {n : Int} {l : List Sp} {b : List Int} {s : Sp} (h : Bo st n l b) (hs : ¬ (s.n = n ∧ Sn st s)) : Bo st n (l ++ [s]) b :=
  ⟨h.1, fun y => by
    rw [h.2]
    constructor
    · rintro ⟨r, hr, k⟩
      exact ⟨r, by simp [hr], k⟩
    · rintro ⟨r, hr, k1, k2, k3⟩
      rcases List.mem_append.1 hr with hr | hr
      · exact ⟨r, hr, k1, k2, k3⟩
      · obtain rfl := List.mem_singleton.1 hr
        exact absurd ⟨k2, k1⟩ hs⟩
/-- What borders hands back. -/
def RetB (w : World) (st : Bool) (n : Int) (l : List Sp) (e : Ending) (w' : World) : Prop :=
  ∃ b A c, Bo st n l b ∧ b.length ≤ 2 * l.length ∧ e = .returned (.slice A b.length c) ∧ Si w' w'.heap.size A b ∧ (∀ g o, A = some ⟨g, o, none⟩ → w.heap.size ≤ g) ∧ Below w.heap.size w w'
set_option maxRecDepth 100000 in
set_option maxHeartbeats 4000000 in
theorem rborders_any (st : Bool) (A : Option Addr) (c : Nat) (l : List Sp) (N : Int) (w : World) (hA : Ss w w.heap.size A l) (hl : l.length ≤ 10000) :
    Calls Try.prog 35 #[.slice A l.length c, .int .i64 N, .bool st] w (RetB w st N l) := by
  have HA := Lib.hid hA
  obtain ⟨n, hn⟩ : ∃ n, n = l.length := ⟨_, rfl⟩
  have HN := Lib.hid hn
  rw [← hn] at hl ⊢
  clear hn hA
  go_enter Try.func35, Try.ntmps35
  go_wp2
  go_loopw [7, 8] (fun q i wr => ∃ (k : Nat) (out : List Int) (A' : Option Addr) (c' : Nat), k ≤ n ∧ i = .int .i64 (k : Int) ∧ q = .slice A' out.length c' ∧ out.length ≤ 2 * k ∧ Hid (Bo st N (l.take k) out) ∧ Hid (Si wr wr.heap.size A' out) ∧ Hid (∀ g o, A' = some ⟨g, o, none⟩ → w.heap.size ≤ g) ∧ Below w.heap.size w wr) (fun _ i _ => n - (intOf i).toNat)
  case atStart => exact ⟨0, [], none, 0, Nat.zero_le _, rfl, rfl, by simp, Lib.hid (by simpa using Bo.nil st N), Lib.hid Si.nil, Lib.hid (fun g o e => by cases e), Below.refl _ _⟩
  case round =>
    obtain ⟨k, out, A', c', hk, rfl, rfl, hout, HB, HS, HW, hbel⟩ := hrel
    have hsz := hbel.size
    by_cases hlt : k < n
    · have t0 : decide (k < n) = true := decide_eq_true hlt
      have hx := List.getElem?_eq_getElem (l := l) (i := k) (by have := HN.out; omega)
      have htk : l.take (k + 1) = l.take k ++ [l[k]'(by have := HN.out; omega)] := (List.take_append_getElem (by have := HN.out; omega)).symm
      generalize l[k]'(by have := HN.out; omega) = x at *
      have HTK := Lib.hid htk
      obtain ⟨b, o, rfl, hb, hx4⟩ := (HA.out.below hbel).at hx
      have HXC : Hid (∀ W, Below wr.heap.size wr W → S4 W b (o + k * 4) x) := Lib.hid fun W hW => hx4.keep fun i => hW.cell (p := ⟨b, i, none⟩) (Nat.lt_of_lt_of_le hb hsz)
      have K1 := Lib.hid (fun W => rSSane_any st x W)
      unfold sv at K1
      obtain ⟨y0, y1, y2, y3⟩ := id hx4
      clear hx hx4 htk
      by_cases hxn : x.n = N
      · have e1 : (x.n == N) = true := by simp [hxn]
        by_cases hs : Sn st x
        · rw [decide_eq_true hs] at K1
          have hnr := hs.nr
          have HSN := Lib.hid hs
          have HXN := Lib.hid hxn
          have hb1 : x.hi < 4294967296 := by have := saneB_top hs.2.1; omega
          have hb2 : 0 ≤ x.hi := by have := saneB_top hs.2.1; omega
          clear hs hxn hnr
          go_wp2_with fail
          refine (K1.out _).mono ?_
          rintro e w1 ⟨rfl, hb1'⟩
          have bk1 := hbel.trans (hb1'.mono hsz)
          have hsz1 := bk1.size
          have hwr : IntKind.i64.wrap (x.hi + 1) = x.hi + 1 := IntWalk.i64_in _ (by omega)
          have HH : Hid (∀ w', Below w1.heap.size w1 w' → w'.cell? ⟨b, o + k * 4, none⟩ = some (.int .i64 x.n) ∧ w'.cell? ⟨b, o + k * 4 + 1, none⟩ = some (.int .i64 x.lo) ∧ w'.cell? ⟨b, o + k * 4 + 2, none⟩ = some (.int .i64 x.hi) ∧ w'.cell? ⟨b, o + k * 4 + 3, none⟩ = some (.int .i64 x.to)) := Lib.hid fun w' hw => by
            have p := HXC.out _ (hb1'.trans (hw.mono hb1'.size))
            exact ⟨p.c0, p.c1, p.c2, p.c3⟩
          have z0 : Below w1.heap.size w1 w1.drew := (Below.refl _ _).drew
          have K2 := Lib.hid (fun W (hW : Below w1.heap.size w1 W) => rput_any A' c' out x.lo W ((HS.out.over hb1').over hW) (by omega))
          have hgl := goP_length x.lo out
          have K3 := Lib.hid (fun (A2 : Option Addr) (c2 : Nat) W (h2 : Si W W.heap.size A2 (goP x.lo out false)) => rput_any A2 c2 (goP x.lo out false) (x.hi + 1) W h2 (by omega))
          have hgl2 := goP_length (x.hi + 1) (goP x.lo out false)
          clear y0 y1 y2 y3 HXC K1
          generalize hm1 : goP x.lo out false = m1 at *
          generalize hm2 : goP (x.hi + 1) m1 false = m2 at *
          have HM1 := Lib.hid hm1
          have HM2 := Lib.hid hm2
          clear hm1 hm2
          go_wp2_with fail
          go_region_held (fun w' => w'.cell? ⟨b, o + k * 4, none⟩ = some (.int .i64 x.n) ∧ w'.cell? ⟨b, o + k * 4 + 1, none⟩ = some (.int .i64 x.lo) ∧ w'.cell? ⟨b, o + k * 4 + 2, none⟩ = some (.int .i64 x.hi) ∧ w'.cell? ⟨b, o + k * 4 + 3, none⟩ = some (.int .i64 x.to))
            (first | with_reducible exact HH.out _ z9 | with_reducible exact HH.out _ z8 | with_reducible exact HH.out _ z0)
            (first | (go_at_call 42; (with_reducible refine (K2.out _ z0).mono ?_); rintro e W1 ⟨A8, c8, rfl, s8, n8, y8⟩; have z8 := z0.trans (y8.mono z0.size)) | (go_at_call 42; (with_reducible refine (K3.out _ _ _ s8).mono ?_); rintro e W2 ⟨A9, c9, rfl, s9, n9, y9⟩; have z9 := z8.trans (y9.mono z8.size)))
          all_goals
            go_wp2
            refine ⟨⟨k + 1, m2, A9, c9, by omega, by first | rfl | go_num, rfl, by omega, Lib.hid (by rw [HTK.out, ← HM2.out, ← HM1.out]; exact HB.out.yes HSN.out HXN.out), Lib.hid s9, Lib.hid (fun g o e => Nat.le_trans (Nat.le_trans hsz1 z8.size) (n9 g o e)), bk1.trans (z9.mono hsz1)⟩, by simp [intOf]; omega⟩
        · rw [decide_eq_false hs] at K1
          have HSN := Lib.hid hs
          clear hs hxn
          go_wp2_with fail
          refine (K1.out _).mono ?_
          rintro e w1 ⟨rfl, hb1'⟩
          have bk1 := hbel.trans (hb1'.mono hsz)
          clear y0 y1 y2 y3
          go_wp2
          refine ⟨⟨k + 1, out, A', c', by omega, by first | rfl | go_num, rfl, by omega, Lib.hid (by rw [HTK.out]; exact HB.out.no (fun h => HSN.out h.2)), Lib.hid (HS.out.over hb1'), HW, bk1⟩, by simp [intOf]; omega⟩
      · have e1 : (x.n == N) = false := by simp [hxn]
        have HXN := Lib.hid hxn
        clear hxn
        go_wp2
        refine ⟨⟨k + 1, out, A', c', by omega, by first | rfl | go_num, rfl, by omega, Lib.hid (by rw [HTK.out]; exact HB.out.no (fun h => HXN.out h.1)), HS, HW, hbel⟩, by simp [intOf]; omega⟩
    · have t0 : decide (k < n) = false := decide_eq_false hlt
      obtain rfl : k = n := by omega
      have hbo : Bo st N l out := by
        have := HB.out
        rwa [List.take_of_length_le (by have := HN.out; omega)] at this
      have HBO := Lib.hid hbo
      clear hbo
      go_wp2
      go_ret
      exact ⟨out, A', c', HBO.out, by have := HN.out; omega, rfl, HS.out, HW.out, hbel⟩
end Go.Proofs.Ytdlkgcbiekilhaa
