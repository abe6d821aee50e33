/-
  tok.Text: tokens, written, a blank between each two.
-/
import Derived.Test.YtjlecollphgmcaaDoorTokMem
import Derived.Test.YtjlecollphgmcaaDoorTokShow
import Derived.Test.YtjlecollphgmcaaDoorShelfJoin
import Derived.Test.YtjlecollphgmcaaDoorTokPure2
namespace Go.Proofs.YtjlecollphgmcaaDoor
open Go.RowKit

/-- Strings as Go's values. -/
def svs (x : List (List UInt8)) : List Value := x.map fun l => Value.string (str l)
theorem svs_append (a b : List (List UInt8)) : svs (a ++ b) = svs a ++ svs b := by simp [svs]
theorem svs_length (a : List (List UInt8)) : (svs a).length = a.length := by simp [svs]
theorem svs_one (a : List (List UInt8)) : ∀ u ∈ svs a, u.oneCell' = true := by
  intro u hu
  simp only [svs, List.mem_map] at hu
  obtain ⟨b, _, rfl⟩ := hu
  rfl
theorem infoS : (Tryd.prog.info? 9).map (fun i => (i.zero, i.size, i.bytes)) = some (some (.string ⟨#[]⟩), 1, 16) := by kernel_rfl
theorem join_jn : ∀ x : List (List UInt8), Lib.join x [32] = jn x
  | [] => rfl
  | [a] => Lib.join_one a [32]
  | a :: b :: r => by
    have h := join_jn (b :: r)
    rw [Lib.join_cons] at h
    rw [Lib.join_cons]
    show a ++ ([32] ++ b ++ Lib.joinTail [32] r) = a ++ 32 :: jn (b :: r)
    rw [← h]
    simp
theorem take_tg {L : List Tk} {k : Nat} (h : k < L.length) : L.take (k + 1) = L.take k ++ [tg L k] := by
  unfold tg
  rw [List.take_add_one, List.getElem?_eq_getElem h]
  rfl
theorem own_str {w : World} {base n : Nat} {e : TypeId} {v : Value} {L : List Tk} {k : Nat} (hk : k < L.length) (h : w.ownsRow base e 1 v n (svs ((L.take k).map sh) ++ svs [sh (tg L k)])) (hn : n = k + 1) : w.ownsRow base e 1 v (k + 1) (svs ((L.take (k + 1)).map sh)) := by
  rw [take_tg hk, List.map_append, svs_append]; subst hn; exact h

set_option maxRecDepth 100000 in
set_option maxHeartbeats 4000000 in
theorem Text_any (L : List Tk) (A : Option Addr) (c : Nat) (w : World) (hT : Tb w) (hA : St w w.heap.size A L) (hk : ∀ t ∈ L, Kd t) (hs : ∀ t ∈ L, Sw t) (hL : L.length ≤ 1048576) (hl : (txL L).length ≤ 1048576) :
    Calls Tryd.prog 10 #[.slice A L.length c] w fun e w' => e = .returned (.string (str (txL L))) ∧ Below w.heap.size w w' := by
  obtain ⟨i0, hi, hz0, hz1, hz2⟩ := info_parts infoS
  go_enter Tryd.func10, Tryd.ntmps10
  go_wp2_with (at_make; refine wpList_make_own _ rfl _ _ _ rfl w.heap.size 9 i0 (.string ⟨#[]⟩) 1 Tryd.underlying40 hi hz0 hz1 .i64 .i64 _ L.length rfl rfl (by omega) (by rw [hz2]; omega) (by unfold maxLen; omega) (Nat.le_refl _) ?_; intro w1 hown1 hgrow1)
  have hb1 : Below w.heap.size w w1 := (Below.refl _ _).grown hgrow1 (Nat.le_refl _) (by simp)
  clear hgrow1
  generalize (Value.slice (some ⟨w.heap.size, 0, none⟩) 0 L.length) = v1 at *
  go_loopw [3, 11] (fun v i wr => ∃ k : Nat, k ≤ L.length ∧ i = .int .i64 k ∧ wr.ownsRow w.heap.size 9 1 v k (svs ((L.take k).map sh)) ∧ Below w.heap.size w wr) (fun _ i _ => L.length - (intOf i).toNat)
  case atStart => exact ⟨0, Nat.zero_le _, rfl, by simpa [svs] using hown1, hb1⟩
  case round =>
    obtain ⟨k, hk2, rfl, hown, hbel⟩ := hrel
    have hsz := hbel.size
    have hTr := hT.below' hbel
    by_cases hlt : k < L.length
    · obtain ⟨b, o, rfl, hbl, hc⟩ := hA (by omega)
      obtain ⟨h0, h1, h2, h3⟩ := hc k hlt
      have hmem := tg_mem hlt
      have hSh : ∀ w, Tb w → Calls Tryd.prog 14 #[tv (tg L k)] w fun e w' => e = .returned (.string (str (sh (tg L k)))) ∧ Below w.heap.size w w' := fun w hT => Show_any _ w hT (hk _ hmem) (hs _ hmem)
      have g0 := (hbel.cell (p := ⟨b, o + k * 4, none⟩) hbl).trans h0
      have g1 := (hbel.cell (p := ⟨b, o + k * 4 + 1, none⟩) hbl).trans h1
      have g2 := (hbel.cell (p := ⟨b, o + k * 4 + 2, none⟩) hbl).trans h2
      have g3 := (hbel.cell (p := ⟨b, o + k * 4 + 3, none⟩) hbl).trans h3
      have hos : ∀ (w' : World) (v : Value) (n : Nat), w'.ownsRow w.heap.size 9 1 v n (svs ((L.take k).map sh) ++ svs [sh (tg L k)]) → n = k + 1 → w'.ownsRow w.heap.size 9 1 v (k + 1) (svs ((L.take (k + 1)).map sh)) := fun _ _ _ h hn => own_str hlt h hn
      generalize sh (tg L k) = q at *
      unfold tv at hSh
      generalize (tg L k).kind = q1 at *
      generalize (tg L k).at_ = q2 at *
      generalize (tg L k).n = q3 at *
      generalize (tg L k).s = q4 at *
      have HS := Lib.hid hSh
      have HO := Lib.hid hos
      clear hSh hos h0 h1 h2 h3 hc hmem
      have hTa := hTr.below' ((Below.refl wr.heap.size wr).alloc (Nat.le_refl _) (.cells #[.int .i64 q1, .int .i64 q2, .int .i64 q3, .string (str q4)] 31))
      go_wp2_with (first | (go_at_call 14; refine (HS.out _ hTa).mono ?_; rintro e w2 ⟨rfl, hb2⟩; have hown2 := own_belowN (hown.alloc _) hb2 (Nat.le_refl _); have hbel2 := (hbel.alloc hsz _).trans (hb2.mono (by simp; omega)); have hsz2 := hbel2.size) | (at_builtin; refine wpList_append_lies _ rfl _ _ _ rfl w.heap.size 9 i0 (.string ⟨#[]⟩) 1 16 Tryd.underlying40 hi hz0 hz1 hz2 rfl (by omega) _ _ _ rfl (hown2.alloc _) ⟨w2.heap.size, 0, none⟩ 1 1 (svs [q]) rfl rfl (World.news_of_block (heap_alloc_new w2 _)) (svs_one _) (by omega) (by unfold maxLen; omega) (by omega) (by simp; omega) _ rfl ?_; intro g cap w3 hown3 hgrow hat hgl))
      go_roundw
      case rel => exact ⟨k + 1, by omega, by go_num, HO.out _ _ _ hown3 rfl, (hbel2.alloc hsz2 _).grown hgrow (by simp; omega) (fun j hj => (hown2.lt j hj).1)⟩
      case measure => simp [intOf]; omega
    · have hkL : k = L.length := by omega
      subst hkL
      rw [List.take_length] at hown
      rcases hown.2 with ⟨rfl, h0⟩ | ⟨g, cap, cur, rfl, hb, hg, hcp, hmx, hsz3, hcur⟩
      · have e0 : L = [] := List.eq_nil_of_length_eq_zero h0
        subst e0
        go_wp2_with (go_at_call 15; refine (Join_none _ _ _ _).mono ?_; rintro e w2 ⟨rfl, rfl⟩)
        go_ret
        exact ⟨rfl, hbel⟩
      · have hcl : ∀ (j : Nat) x, ((L.map sh).map str)[j]? = some x → wr.cell? ⟨g, 0 + j, none⟩ = some (.string x) := fun j x hx => by
          have hx2 : (svs (L.map sh))[j]? = some (.string x) := by
            simp only [List.getElem?_map, Option.map_eq_some_iff] at hx
            obtain ⟨y, ⟨t, ht, rfl⟩, rfl⟩ := hx
            simp [svs, ht]
          have := hown.cells (g := g) rfl j _ hx2
          rwa [addr_add] at this
        have hj : Lib.join (((L.map sh).map str).map (·.data.toList)) (ByteArray.mk #[32]).data.toList = txL L := by
          rw [List.map_map]
          have : (L.map sh).map ((fun x : ByteArray => x.data.toList) ∘ str) = L.map sh := by
            have e : ((fun x : ByteArray => x.data.toList) ∘ str) = id := by funext l; exact str_data l
            rw [e, List.map_id]
          rw [this]
          exact join_jn _
        have hJ := Join_some g 0 cap ((L.map sh).map str) (ByteArray.mk #[32]) wr hcl ((Array.getElem?_eq_some_iff.1 hg).1) (by simp; omega) (by simpa using hcp) (by rw [hj]; omega)
        rw [hj, List.length_map, List.length_map] at hJ
        have HJ := Lib.hid hJ
        clear hJ hj hcl hcur hsz3
        go_wp2_with (go_at_call 15; refine HJ.out.mono ?_; rintro e w2 ⟨rfl, hb2⟩)
        go_ret
        exact ⟨rfl, hbel.trans (hb2.mono hsz)⟩
end Go.Proofs.YtjlecollphgmcaaDoor
