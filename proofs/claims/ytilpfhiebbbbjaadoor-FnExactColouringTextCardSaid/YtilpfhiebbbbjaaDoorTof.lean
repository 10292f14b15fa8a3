/- textOf: what stays while bytes are put behind the text. -/
import Derived.Test.YtilpfhiebbbbjaaDoorApn
import Derived.Test.YtilpfhiebbbbjaaDoorOut
namespace Go.Proofs.YtilpfhiebbbbjaaDoor
set_option linter.unusedVariables false
set_option linter.unusedSimpArgs false
open Go Go.RowKit Go.Shelf
theorem blk_ne {W : World} {a b : Nat} {C D : Array Value} {t u : TypeId} (h : Blk W a C t) (k : Blk W b D u) (hn : t ≠ u) : a ≠ b := fun e => by
  subst e
  unfold Blk at h k
  rw [h] at k
  injection k with k
  injection k with k1 k2 k3
  exact hn k2
theorem own_shape {W : World} {B : Nat} {v : Value} {n : Nat} {xs : List Value} (h : W.ownsRow B 5 1 v n xs) : ∃ a c, v = .slice a n c := by
  rcases h.2 with ⟨h1, h2⟩ | ⟨g, cap, cur, hv, _⟩
  · exact ⟨none, 0, by rw [h1, h2]⟩
  · exact ⟨_, _, hv⟩
theorem own_blk5 {W : World} {B : Nat} {v : Value} {n : Nat} {xs : List Value} (h : W.ownsRow B 5 1 v n xs) {g : Nat} (hg : v.ownBlock = some g) : B ≤ g ∧ ∃ C, Blk W g C 5 := by
  rcases h.2 with ⟨h1, h2⟩ | ⟨g', cap, cur, hv, h3, h4, _⟩
  · rw [h1] at hg; cases hg
  · rw [hv] at hg; cases hg; exact ⟨h3, cur, h4⟩
/-- A block of another type stays when a list of bytes grows. -/
theorem app_blk {W W' : World} {B b n : Nat} {v : Value} {xs : List Value} {C : Array Value} {t : TypeId} (h : Blk W b C t) (hown : W.ownsRow B 5 1 v n xs) (hg : W.grownBy W' v.ownBlock) (ht : t ≠ 5) : Blk W' b C t := by
  refine (hg.block b h.lt (fun e => ?_)).trans h
  obtain ⟨_, D, hD⟩ := own_blk5 hown e.symm
  exact blk_ne h hD ht rfl
theorem app_below {w1 w2 : World} {B : Nat} {v : Value} {n : Nat} {xs : List Value} (hown : w1.ownsRow B 5 1 v n xs) (hg : w1.grownBy w2 v.ownBlock) (hB : B ≤ w1.heap.size) : Below B w1 w2 :=
  (Below.refl B w1).grown hg hB (fun g hgg => (own_blk5 hown hgg).1)
theorem keeps_grown {W W' : World} {B b : Nat} {v : Value} {n : Nat} {xs : List Value} (hown : W.ownsRow b 5 1 v n xs) (hg : W.grownBy W' v.ownBlock) : KeepsFrom B W W' := by
  refine ⟨hg.size, fun k o _ hk hc => (hg.block k (Array.getElem?_eq_some_iff.1 hk).1 (fun he => ?_)).trans hk⟩
  obtain ⟨_, D, hD⟩ := own_blk5 hown he.symm
  unfold Blk at hD
  rw [hk] at hD
  cases hD; cases hc
theorem own_store {W : World} {B b n : Nat} {v u x : Value} {xs : List Value} (h : W.ownsRow B 5 1 v n xs) (hb : Blk W b #[u] 38) : (W.setCell ⟨b, 0, none⟩ x).ownsRow B 5 1 v n xs := by
  refine ⟨h.1, ?_⟩
  rcases h.2 with h1 | ⟨g, cap, cur, hv, hg, hc, r⟩
  · exact .inl h1
  · have hcc : Blk W g cur 5 := hc
    exact .inr ⟨g, cap, cur, hv, hg, (heap_setCell_other W ⟨b, 0, none⟩ g x (fun e => blk_ne hb hcc (by decide) e.symm)).trans hc, r⟩
theorem own_grow {W W' : World} {B n : Nat} {v : Value} {xs : List Value} {row : Option Nat} (h : W.ownsRow B 5 1 v n xs) (hg : W.grownBy W' row) (hr : ∀ r, row = some r → ∃ o : Obj, W.heap[r]? = some o ∧ o.isCells = false) : W'.ownsRow B 5 1 v n xs := by
  refine ⟨h.1, ?_⟩
  rcases h.2 with h1 | ⟨g, cap, cur, hv, hgg, hc, r⟩
  · exact .inl h1
  · have hcc : Blk W g cur 5 := hc
    refine .inr ⟨g, cap, cur, hv, hgg, (hg.block g hcc.lt (fun e => ?_)).trans hc, r⟩
    obtain ⟨o, ho, hoc⟩ := hr g e.symm
    rw [hc] at ho
    cases ho; cases hoc
/-- The call's blocks and its text. -/
def RX (C : Array Value) (w : World) (b3 : Nat) (a : Option Addr) (l c : Nat) (T : List Int) (W : World) : Prop :=
  Blk W w.heap.size C 27 ∧ Blk W b3 #[.slice a l c] 38 ∧ W.ownsRow (w.heap.size + 1) 5 1 (.slice a l c) l (bI T) ∧ Below w.heap.size w W ∧ w.heap.size < b3 ∧ l = T.length
theorem RX.own {C : Array Value} {w : World} {b3 : Nat} {a : Option Addr} {l c : Nat} {T : List Int} {W : World} {row : Option Nat} {W' : World} (h : RX C w b3 a l c T W) {B : Nat} (hB : w.heap.size ≤ B) (hg : W.grownBy W' row) (hr : ∀ r, row = some r → B ≤ r ∧ ∃ o : Obj, W.heap[r]? = some o ∧ o.isCells = false) : RX C w b3 a l c T W' :=
  ⟨blk_own h.1 hg hr, blk_own h.2.1 hg hr, own_grow h.2.2.1 hg (fun r e => (hr r e).2), ownFrom_below (β := Unit) (Nat.le_refl _) hB () W W' row h.2.2.2.1 hg hr, h.2.2.2.2⟩
theorem RX.below {C : Array Value} {w : World} {b3 : Nat} {a : Option Addr} {l c : Nat} {T : List Int} {W W' : World} (h : RX C w b3 a l c T W) (hb : Below W.heap.size W W') : RX C w b3 a l c T W' :=
  ⟨h.1.below hb h.1.lt, h.2.1.below hb h.2.1.lt, own_below h.2.2.1 hb (Nat.le_refl _), h.2.2.2.1.trans (hb.mono h.2.2.2.1.size), h.2.2.2.2⟩
/-- Bytes put behind it, before they are stored. -/
theorem RX.grown {C : Array Value} {w : World} {b3 : Nat} {a : Option Addr} {l c : Nat} {T : List Int} {W w2 : World} (h : RX C w b3 a l c T W) {v' : Value} {n : Nat} {xs : List Value} (hown' : w2.ownsRow (w.heap.size + 1) 5 1 v' n xs) (hg : W.grownBy w2 (Value.slice a l c).ownBlock)
    {d : List Int} (hn : n = l + d.length) (hx : xs = bI T ++ bI d) :
    ∃ a' l' c', v' = .slice a' l' c' ∧ l' = (T ++ d).length ∧ Blk w2 b3 #[.slice a l c] 38 ∧ RX C w b3 a' l' c' (T ++ d) (w2.setCell ⟨b3, 0, none⟩ (.slice a' l' c')) ∧
      (∀ b D t, Blk W b D t → t ≠ 5 → t ≠ 38 → Blk (w2.setCell ⟨b3, 0, none⟩ (.slice a' l' c')) b D t) ∧ ∀ B, KeepsFrom B W (w2.setCell ⟨b3, 0, none⟩ (.slice a' l' c')) := by
  obtain ⟨a', c', rfl⟩ := own_shape hown'
  have h38 := app_blk h.2.1 h.2.2.1 hg (by decide)
  have hsz := h.2.2.2.1.size
  have hnl : n = (T ++ d).length := by rw [hn, h.2.2.2.2.2, List.length_append]
  refine ⟨a', n, c', rfl, hnl, h38, ⟨(app_blk h.1 h.2.2.1 hg (by decide)).other _ _ (by have := h.2.2.2.2.1; show w.heap.size ≠ b3; omega), h38.same 0 _, ?_, ?_, h.2.2.2.2.1, hnl⟩, ?_, ?_⟩
  · rw [bI_app, ← hx]; exact own_store hown' h38
  · have hlt : w.heap.size + 1 ≤ W.heap.size := by have := h.1.lt; omega
    exact (h.2.2.2.1.trans ((app_below h.2.2.1 hg hlt).mono (by omega))).setCell (by have := h.2.2.2.2.1; show w.heap.size ≤ b3; omega) _
  · intro b D t hb h5 ht
    exact (app_blk hb h.2.2.1 hg h5).other _ _ (fun e => blk_ne (app_blk hb h.2.2.1 hg h5) h38 ht e)
  · intro B
    exact (keeps_grown h.2.2.1 hg).trans ((KeepsOthers.setCell w2 ⟨b3, 0, none⟩ _).from _)
end Go.Proofs.YtilpfhiebbbbjaaDoor
