/- Lists of lists that a call of the model's search lays. -/
import Derived.Test.YtckffliiidgilaaDoorExq
import Derived.Test.YtckffliiidgilaaDoorDgs
import Derived.Test.YtckffliiidgilaaDoorLcn
namespace Go.Proofs.YtckffliiidgilaaDoor
set_option linter.unusedVariables false
set_option linter.unusedSimpArgs false
open Go Go.RowKit Go.Shelf
/-- A list of lists in memory of the call's own; it is never nil. -/
def LLb (R : Nat) (w : World) (B : Nat) (v : Value) (L : List (List Int)) : Prop :=
  v ≠ .slice none 0 0 ∧ ∃ xs, w.ownsRow B 25 1 v L.length xs ∧ ∀ (i : Nat) (zs : List Int), L[i]? = some zs → ∃ a cap, xs[i]? = some (Value.slice a zs.length cap) ∧ OwnL w R a zs
theorem LLb.below {R : Nat} {w w' : World} {B : Nat} {v : Value} {L : List (List Int)} (h : LLb R w B v L) (hb : Below w.heap.size w w') : LLb R w' B v L := by
  obtain ⟨hv, xs, h1, h2⟩ := h
  refine ⟨hv, xs, own_below h1 hb (Nat.le_refl _), fun i zs hi => ?_⟩
  obtain ⟨a, cap, h3, h4⟩ := h2 i zs hi
  exact ⟨a, cap, h3, h4.below hb (Nat.le_refl _)⟩
theorem LLb.base {R : Nat} {w : World} {B B' : Nat} {v : Value} {L : List (List Int)} (h : LLb R w B v L) (hB : B' ≤ B) : LLb R w B' v L := by
  obtain ⟨hv, xs, h1, h2⟩ := h
  exact ⟨hv, xs, own_base h1 hB, h2⟩
theorem LLb.row {R : Nat} {w : World} {B : Nat} {v : Value} {L : List (List Int)} (h : LLb R w B v L) : ∀ r, v.ownBlock = some r → B ≤ r ∧ ∃ C, Blk w r C 25 := by
  obtain ⟨hv, xs, ⟨hxl, h | ⟨g, cap, cur, hv2, hg, hc, _⟩⟩, _⟩ := h
  · exact absurd h.1 hv
  · intro r hr; rw [hv2] at hr; cases hr; exact ⟨hg, cur, hc⟩
theorem LLb.at {R : Nat} {w : World} {B : Nat} {v : Value} {L : List (List Int)} (h : LLb R w B v L) : ∃ g cap xs, v = .slice (some ⟨g, 0, none⟩) L.length cap ∧ B ≤ g ∧ g < w.heap.size ∧ w.ownsRow B 25 1 v L.length xs ∧ xs.length = L.length ∧ (∀ j u, xs[j]? = some u → w.cell? ⟨g, j, none⟩ = some u) ∧
    ∀ (i : Nat) (zs : List Int), L[i]? = some zs → ∃ a cap, xs[i]? = some (Value.slice a zs.length cap) ∧ OwnL w R a zs := by
  obtain ⟨hv, xs, ⟨hxl, h | ⟨g, cap, cur, hv2, hg, hc, hn, hm, hs, ht⟩⟩, h2⟩ := h
  · exact absurd h.1 hv
  · have hb : Blk w g cur 25 := hc
    refine ⟨g, cap, xs, hv2, hg, hb.lt, ⟨hxl, .inr ⟨g, cap, cur, hv2, hg, hc, hn, hm, hs, ht⟩⟩, by omega, fun j u hu => ?_, h2⟩
    refine hb.cell ?_
    have hj := (List.getElem?_eq_some_iff.1 hu).1
    rw [← ht, List.getElem?_take, if_pos (by omega)] at hu
    simpa using hu
/-- One list of lists behind another. -/
theorem LLb.app {R : Nat} {W Y : World} {B : Nat} {v v' : Value} {L L2 : List (List Int)} {xs xs2 : List Value}
    (hx : ∀ (i : Nat) (zs : List Int), L[i]? = some zs → ∃ a cap, xs[i]? = some (Value.slice a zs.length cap) ∧ OwnL W R a zs) (hxl : xs.length = L.length)
    (hx2 : ∀ (i : Nat) (zs : List Int), L2[i]? = some zs → ∃ a cap, xs2[i]? = some (Value.slice a zs.length cap) ∧ OwnL W R a zs)
    (hr : ∀ r, v.ownBlock = some r → ∃ C, Blk W r C 25) (hg : W.grownBy Y v.ownBlock) (hv' : v' ≠ .slice none 0 0)
    (hown : Y.ownsRow B 25 1 v' (L.length + L2.length) (xs ++ xs2)) : LLb R Y B v' (L ++ L2) := by
  refine ⟨hv', xs ++ xs2, by rw [List.length_append]; exact hown, fun i zs hi => ?_⟩
  by_cases hl : i < L.length
  · rw [List.getElem?_append_left hl] at hi
    obtain ⟨a, c, h1, h2⟩ := hx i zs hi
    exact ⟨a, c, by rw [List.getElem?_append_left (by omega)]; exact h1, h2.grown hg hr⟩
  · rw [List.getElem?_append_right (by omega)] at hi
    obtain ⟨a, c, h1, h2⟩ := hx2 _ zs hi
    exact ⟨a, c, by rw [List.getElem?_append_right (by omega), hxl]; exact h1, h2.grown hg hr⟩
theorem LLb.empty {R : Nat} {w : World} {B : Nat} (hB : B ≤ w.heap.size) : LLb R (w.alloc (.cells #[] 25)) B (.slice (some ⟨w.heap.size, 0, none⟩) 0 0) [] :=
  ⟨by simp, [], ⟨rfl, .inr ⟨w.heap.size, 0, #[], rfl, hB, Blk.new _ _ _ _ rfl, Nat.le_refl _, by simp [maxLen], rfl, rfl⟩⟩, fun i zs h => by simp at h⟩
theorem LLb.one {R : Nat} {w : World} {B : Nat} {b : Option Addr} {cs : List Int} {cap : Nat} (hB : B ≤ w.heap.size) (h : OwnL w R b cs) : LLb R (w.alloc (.cells #[.slice b cs.length cap] 25)) B (.slice (some ⟨w.heap.size, 0, none⟩) 1 1) [cs] := by
  refine ⟨by simp, [.slice b cs.length cap], ⟨rfl, .inr ⟨w.heap.size, 1, _, rfl, hB, Blk.new _ _ _ _ rfl, Nat.le_refl _, by simp [maxLen], rfl, rfl⟩⟩, fun i zs hi => ?_⟩
  cases i with
  | zero =>
    simp at hi
    subst hi
    exact ⟨b, cap, rfl, h.below ((Below.refl w.heap.size w).alloc (Nat.le_refl _) _) (Nat.le_refl _)⟩
  | succ i => simp at hi
/-- The world behind an append to a row of the call's own. -/
theorem Below.onRow {B : Nat} {w X Y : World} {v : Value} (h : Below B w X) (hB : B ≤ X.heap.size) (hg : X.grownBy Y v.ownBlock) (hr : ∀ r, v.ownBlock = some r → B ≤ r) : Below B w Y :=
  h.trans ⟨hg.os, hg.tape, hg.output, hg.size, fun k hk => hg.block k (by omega) (by intro e; have := hr k e.symm; omega)⟩
theorem OwnL.base0 {w : World} {B : Nat} {a : Option Addr} {zs : List Int} (h : OwnL w B a zs) : OwnL w 0 a zs := by
  rcases h with h | ⟨g, C, h1, h2⟩
  · exact .inl h
  · exact .inr ⟨g, C, Nat.zero_le _, h2⟩
theorem OwnL.cells {w : World} {B g : Nat} {zs : List Int} (h : OwnL w B (some ⟨g, 0, none⟩) zs) (j : Nat) (hj : j < zs.length) : w.cell? ⟨g, j, none⟩ = some (.int .i64 (zs.getD j 0)) := by
  rcases h with h | ⟨g', C, h1, h2, h3, h4, h5⟩
  · rw [h] at hj; simp at hj
  · cases h2
    exact h3.cell (h5 j hj)
theorem OwnL.baseR {w : World} {B R : Nat} {a : Option Addr} {zs : List Int} (h : OwnL w B a zs) (hR : R ≤ B) : OwnL w R a zs := by
  rcases h with h | ⟨g, C, h1, h2⟩
  · exact .inl h
  · exact .inr ⟨g, C, Nat.le_trans hR h1, h2⟩
set_option maxRecDepth 100000 in
set_option maxHeartbeats 4000000 in
theorem own63g (zs : List Int) (g cap : Nat) (w : World) (hc : ∀ j, j < zs.length → w.cell? ⟨g, j, none⟩ = some (.int .i64 (zs.getD j 0))) (hl : zs.length ≤ 1000) :
    Calls Tryd.prog 102 #[.slice (some ⟨g, 0, none⟩) zs.length cap] w fun e w' => ∃ g' c', e = .returned (.slice (some ⟨g', 0, none⟩) zs.length c') ∧ w'.ownsRow w.heap.size 2 1 (.slice (some ⟨g', 0, none⟩) zs.length c') zs.length (icells zs) ∧ Below w.heap.size w w' := by
  obtain ⟨t0, hi2, hz0, hz1, hz3⟩ := info_parts info2
  have HIF := hidd (And.intro hi2 (And.intro hz0 (And.intro hz1 hz3)))
  have HCC := hidd hc
  have HL := hidd (icells_len zs)
  clear hi2 hz0 hz1 hz3 hc
  go_enter Tryd.func102, Tryd.ntmps102
  go_wp2_with (at_builtin; refine wpList_append_own _ rfl _ _ 25 rfl w.heap.size 2 t0 (.int .i64 0) 1 8 Tryd.underlying25 HIF.out.1 HIF.out.2.1 HIF.out.2.2.1 HIF.out.2.2.2 rfl (by decide) _ 0 [] rfl ⟨rfl, .inr ⟨w.heap.size, 0, #[], rfl, Nat.le_refl _, Blk.new _ _ _ _ rfl, Nat.le_refl _, by simp [maxLen], rfl, rfl⟩⟩ ⟨g, 0, none⟩ zs.length cap (icells zs) rfl ?c1 ?c2 ?c3 ?c4 ?c5 ?c6 ?_)
  case c1 => rw [HL.out]; omega
  case c2 =>
    intro j u hu
    have hj : j < zs.length := by have := (List.getElem?_eq_some_iff.1 hu).1; rw [HL.out] at this; exact this
    rw [Addr.add_mid, Nat.zero_add]
    rw [cell_below (HCC.out j hj) ((Below.refl w.heap.size w).alloc (Nat.le_refl _) _)]
    have := icells_get hj
    rw [List.getElem?_toArray] at this
    rw [← hu, this]
  case c3 => intro u hu; obtain ⟨z, _, rfl⟩ := List.mem_map.1 hu; rfl
  case c4 => unfold maxLen; omega
  case c5 => omega
  case c6 => simp
  intro v' w3 hown hgrow hnil
  have hne : v' ≠ .slice none 0 0 := hnil
  obtain ⟨h1, h2 | ⟨g', c', cur, hv, h3⟩⟩ := hown
  · exact absurd h2.1 hne
  · subst hv
    have hb : Below w.heap.size w w3 := Below.onRow (v := .slice (some ⟨w.heap.size, 0, none⟩) 0 0) ((Below.refl w.heap.size w).alloc (Nat.le_refl _) _) (by simp) hgrow (fun r hr => by cases hr; exact Nat.le_refl _)
    have HF := hidd (show w3.ownsRow w.heap.size 2 1 (.slice (some ⟨g', 0, none⟩) zs.length c') zs.length (icells zs) ∧ Below w.heap.size w w3 from ⟨⟨h1, .inr ⟨g', c', cur, rfl, h3⟩⟩, hb⟩)
    clear hb h1 h3 hne hgrow hnil
    go_wp2_with fail
    go_ret
    exact ⟨g', c', rfl, HF.out.1, HF.out.2⟩
end Go.Proofs.YtckffliiidgilaaDoor
