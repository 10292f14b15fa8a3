/- l02Go: the cliques of m points that begin with some points, put to a list of lists. -/
import Derived.Test.YtckffliiidgilaaDoorCqM
import Derived.Test.YtckffliiidgilaaDoorCountIm
import Derived.Deep.RegionHeld2
import Derived.Maps.AppendAt
namespace Go.Proofs.YtckffliiidgilaaDoor
set_option linter.unusedVariables false
set_option linter.unusedSimpArgs false
open Go Go.RowKit Go.Shelf
/-- A list of numbers in a block from its first cell on. -/
def BgL (w : World) (a : Option Addr) (zs : List Int) : Prop :=
  ∃ g C, a = some ⟨g, 0, none⟩ ∧ Blk w g C 2 ∧ zs.length ≤ C.size ∧ ∀ j, j < zs.length → C[j]? = some (.int .i64 (zs.getD j 0))
theorem BgL.below {w w' : World} {B : Nat} {a : Option Addr} {zs : List Int} (h : BgL w a zs) (hb : Below B w w') (hB : w.heap.size ≤ B) : BgL w' a zs := by
  obtain ⟨g, C, h1, h2, h3⟩ := h
  exact ⟨g, C, h1, h2.below hb (Nat.lt_of_lt_of_le h2.lt hB), h3⟩
theorem OwnL.grown {w w' : World} {row : Option Nat} {B : Nat} {a : Option Addr} {zs : List Int} (h : OwnL w B a zs) (hg : w.grownBy w' row) (hr : ∀ r, row = some r → ∃ C, Blk w r C 25) : OwnL w' B a zs := by
  rcases h with h | ⟨g, C, h1, h2, h3, h4⟩
  · exact .inl h
  · refine .inr ⟨g, C, h1, h2, (hg.block g h3.lt (fun e => ?_)).trans h3, h4⟩
    obtain ⟨C', hC'⟩ := hr g e.symm
    unfold Blk at h3 hC'
    rw [hC'] at h3
    cases h3
theorem BgL.grown {w w' : World} {row : Option Nat} {a : Option Addr} {zs : List Int} (h : BgL w a zs) (hg : w.grownBy w' row) (hr : ∀ r, row = some r → ∃ C, Blk w r C 25) : BgL w' a zs := by
  obtain ⟨g, C, h1, h3, h4⟩ := h
  refine ⟨g, C, h1, (hg.block g h3.lt (fun e => ?_)).trans h3, h4⟩
  obtain ⟨C', hC'⟩ := hr g e.symm
  unfold Blk at h3 hC'
  rw [hC'] at h3
  cases h3
theorem BgL.own {w : World} {a : Option Addr} {zs : List Int} (h : BgL w a zs) : OwnL w 0 a zs := by
  obtain ⟨g, C, h1, h3, h4, h5⟩ := h
  exact .inr ⟨g, C, Nat.zero_le _, h1, h3, h4, h5⟩
theorem BgL.ofOwn {w : World} {B : Nat} {a : Option Addr} {zs : List Int} (h : OwnL w B a zs) (hz : zs ≠ []) : BgL w a zs := by
  rcases h with h | ⟨g, C, _, h2, h3, h4, h5⟩
  · exact absurd h hz
  · exact ⟨g, C, h2, h3, h4, h5⟩
/-- A list of lists. -/
def LL (w : World) (v : Value) (L : List (List Int)) : Prop :=
  ∃ xs, w.ownsRow 0 25 1 v L.length xs ∧ ∀ (i : Nat) (zs : List Int), L[i]? = some zs → ∃ a cap, xs[i]? = some (Value.slice a zs.length cap) ∧ OwnL w 0 a zs
theorem LL.row {w : World} {v : Value} {L : List (List Int)} (h : LL w v L) : ∀ r, v.ownBlock = some r → ∃ C, Blk w r C 25 := by
  obtain ⟨xs, h1, h2⟩ := h
  intro r hr
  obtain ⟨_, h | ⟨g, cap, cur, hv, hg, hc, _⟩⟩ := h1
  · rw [h.1] at hr; cases hr
  · rw [hv] at hr; cases hr; exact ⟨cur, hc⟩
theorem LL.shape {w : World} {v : Value} {L : List (List Int)} (h : LL w v L) : ∃ a cap, v = .slice a L.length cap := by
  obtain ⟨xs, ⟨_, h | ⟨g, cap, cur, hv, _⟩⟩, _⟩ := h
  · exact ⟨none, 0, by rw [h.1, h.2]⟩
  · exact ⟨_, _, hv⟩
theorem LL.below {w w' : World} {v : Value} {L : List (List Int)} (h : LL w v L) (hb : Below w.heap.size w w') : LL w' v L := by
  obtain ⟨xs, h1, h2⟩ := h
  refine ⟨xs, own_below h1 hb (Nat.le_refl _), fun i zs hi => ?_⟩
  obtain ⟨a, cap, h3, h4⟩ := h2 i zs hi
  exact ⟨a, cap, h3, h4.below hb (Nat.le_refl _)⟩
/-- What may turn: the list's own block. -/
def Fr (w w' : World) (v v' : Value) : Prop := w.grownBy w' v.ownBlock ∧ ∀ r, v'.ownBlock = some r → w.heap.size ≤ r ∨ v.ownBlock = some r
theorem Fr.refl (w : World) (v : Value) : Fr w w v v := ⟨World.grownBy.refl _ _, fun r h => .inr h⟩
theorem Fr.trans {w w1 w2 : World} {v v1 v2 : Value} (h : Fr w w1 v v1) (k : Fr w1 w2 v1 v2) : Fr w w2 v v2 :=
  ⟨h.1.andThen k.1 h.2, fun r hr => by
    rcases k.2 r hr with h3 | h3
    · exact .inl (Nat.le_trans h.1.size h3)
    · exact h.2 r h3⟩
theorem below_grown {w w' : World} (h : Below w.heap.size w w') (row : Option Nat) : w.grownBy w' row := ⟨h.os, h.tape, h.output, h.size, fun k hk _ => h.block k hk⟩
theorem Fr.below {w w' : World} (h : Below w.heap.size w w') (v : Value) : Fr w w' v v := ⟨below_grown h _, fun r h => .inr h⟩
theorem LL.push {w w' : World} {v v' : Value} {L : List (List Int)} {a : Option Addr} {cap : Nat} {zs : List Int} {xs : List Value} (hx : ∀ (i : Nat) (ys : List Int), L[i]? = some ys → ∃ a cap, xs[i]? = some (Value.slice a ys.length cap) ∧ OwnL w 0 a ys) (hxl : xs.length = L.length)
    (hr : ∀ r, v.ownBlock = some r → ∃ C, Blk w r C 25) (hg : w.grownBy w' v.ownBlock) (ho : OwnL w 0 a zs) (h' : w'.ownsRow 0 25 1 v' (L.length + 1) (xs ++ [Value.slice a zs.length cap])) : LL w' v' (L ++ [zs]) := by
  refine ⟨xs ++ [Value.slice a zs.length cap], by rw [List.length_append]; exact h', fun i ys hi => ?_⟩
  by_cases hl : i < L.length
  · rw [List.getElem?_append_left hl] at hi
    obtain ⟨a', c', h1, h2⟩ := hx i ys hi
    exact ⟨a', c', by rw [List.getElem?_append_left (by omega)]; exact h1, h2.grown hg hr⟩
  · have hi' : i = L.length := by
      have := (List.getElem?_eq_some_iff.1 hi).1
      simp at this; omega
    subst hi'
    rw [List.getElem?_append_right (Nat.le_refl _)] at hi
    simp at hi
    subst hi
    exact ⟨a, cap, by rw [List.getElem?_append_right (by omega)]; simp [hxl], ho.grown hg hr⟩
theorem BgL.cell {w : World} {g : Nat} {zs : List Int} (h : BgL w (some ⟨g, 0, none⟩) zs) {j : Nat} (hj : j < zs.length) {x : Int} (hx : zs.getD j 0 = x) : w.cell? ⟨g, j, none⟩ = some (.int .i64 x) := by
  obtain ⟨g', C, h1, h2, h3, h4⟩ := h
  cases h1
  rw [← hx]
  exact h2.cell (h4 j hj)
theorem info25 : (Tryd.prog.info? 25).map (fun i => (i.zero, i.size, i.bytes)) = some (some (.slice none 0 0), 1, 24) := by kernel_rfl
set_option maxRecDepth 100000 in
theorem own63 (zs : List Int) (a : Option Addr) (cap : Nat) (w : World) (h : BgL w a zs) (hl : zs.length ≤ 1000) :
    Calls Tryd.prog 102 #[.slice a zs.length cap] w fun e w' => ∃ a' c', e = .returned (.slice a' zs.length c') ∧ w'.ownsRow w.heap.size 2 1 (.slice a' zs.length c') zs.length (icells zs) ∧ Below w.heap.size w w' := by
  obtain ⟨t0, hi2, hz0, hz1, hz3⟩ := info_parts info2
  have HIF := hidd (And.intro hi2 (And.intro hz0 (And.intro hz1 hz3)))
  obtain ⟨g, C, rfl, hC, hCl, hCc⟩ := h
  have hlt := hC.lt
  have HC := hidd hC
  have HCC := hidd hCc
  have HL := hidd (icells_len zs)
  clear hi2 hz0 hz1 hz3 hC hCc
  go_enter Tryd.func102, Tryd.ntmps102
  go_wp2_with (at_builtin; refine wpList_append_own _ rfl _ _ 25 rfl w.heap.size 2 t0 (.int .i64 0) 1 8 Tryd.underlying25 HIF.out.1 HIF.out.2.1 HIF.out.2.2.1 HIF.out.2.2.2 rfl (by decide) _ 0 [] rfl ⟨rfl, .inr ⟨w.heap.size, 0, #[], rfl, Nat.le_refl _, Blk.new _ _ _ _ rfl, Nat.le_refl _, by simp [maxLen], rfl, rfl⟩⟩ ⟨g, 0, none⟩ zs.length cap (icells zs) rfl ?c1 ?c2 ?c3 ?c4 ?c5 ?c6 ?_)
  case c1 => rw [HL.out]; omega
  case c2 =>
    intro j u hu
    have hj : j < zs.length := by have := (List.getElem?_eq_some_iff.1 hu).1; rw [HL.out] at this; exact this
    rw [Addr.add_mid, Nat.zero_add]
    refine ((HC.out.alloc _).cell ?_)
    rw [HCC.out j hj]
    have := icells_get hj
    rw [List.getElem?_toArray] at this
    rw [← hu, this]
  case c3 => intro u hu; obtain ⟨z, _, rfl⟩ := List.mem_map.1 hu; rfl
  case c4 => unfold maxLen; omega
  case c5 => omega
  case c6 => simp
  intro v' w2 hown hgrow _
  have K := hidd (And.intro hown (((Below.refl w.heap.size w).alloc (Nat.le_refl _) (.cells #[] 2)).grown hgrow (by simp) (fun g hg => by cases hg; exact Nat.le_refl _)))
  clear hown hgrow
  obtain ⟨a2, c2, rfl, _⟩ := own_list K.out.1
  go_wp2_with fail
  go_ret
  exact ⟨a2, c2, rfl, K.out⟩
end Go.Proofs.YtckffliiidgilaaDoor
