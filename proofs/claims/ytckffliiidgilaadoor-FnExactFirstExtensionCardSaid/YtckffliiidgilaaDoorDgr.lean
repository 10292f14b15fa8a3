/- l05Degrees: the extensions counted by degree, from the beginning. -/
import Derived.Test.YtckffliiidgilaaDoorLcn
import Derived.Test.YtckffliiidgilaaDoorCbd
import Derived.Test.YtckffliiidgilaaDoorLsp
import Derived.Test.YtckffliiidgilaaDoorInv
namespace Go.Proofs.YtckffliiidgilaaDoor
set_option linter.unusedVariables false
set_option linter.unusedSimpArgs false
open Go Go.RowKit Go.Shelf
theorem lcn82 (N K : Nat) (bs : List Nat) (hb : Bys bs) (zs : List Int) (bl off cap gc : Nat) (n1 : 1 ≤ N) (hN12 : N ≤ 12) (hK1 : 1 ≤ K) (hK : K ≤ 4) (h2 : no1 zs K) (hsz : szP zs K = true) : ∀ r, r ≤ N → LcCall bs N K zs bl off cap gc r
  | 0, _ => fun s f gs cs w hL hs hf => lcn_leaf N K bs hb zs bl off cap n1 hN12 hK1 s f gs cs gc w hL (hs 0 (by omega)) (fun d => Nat.le_trans (Nat.succ_le_succ (Nat.le_add_right _ _)) (hf d))
  | r + 1, h => lcn_step N K bs hb zs bl off cap gc n1 hN12 hK1 hK h2 hsz r h (lcn82 N K bs hb zs bl off cap gc n1 hN12 hK1 hK h2 hsz r (by omega))
/-- What the operations of the call's region have answered. -/
def DgF (X : Value) (a : Option Addr) (K cap N g0 gc B : Nat) (w : World) (i : Nat) (v : Value) : Prop :=
  (i = 0 → v = X) ∧ (i = 1 → v = .slice a K cap) ∧ (i = 2 → v = .pointer (some ⟨g0, 1, none⟩)) ∧ (i = 3 → v = .int .i64 (K : Int)) ∧
  (i = 4 → ∃ g : Nat, v = .slice (some ⟨g, 0, none⟩) K K ∧ B ≤ g ∧ Blk w g (icells (dgL K fun _ => 0)).toArray 2) ∧ (i = 5 → v = .slice (some ⟨gc, 0, none⟩) (N + 1) (N + 1))
theorem DgF.below {X : Value} {a : Option Addr} {K cap N g0 gc B : Nat} {w w' : World} {i : Nat} {v : Value} (h : DgF X a K cap N g0 gc B w i v) (hb : Below w.heap.size w w') : DgF X a K cap N g0 gc B w' i v :=
  ⟨h.1, h.2.1, h.2.2.1, h.2.2.2.1, fun e => by obtain ⟨g, h1, h3, h4⟩ := h.2.2.2.2.1 e; exact ⟨g, h1, h3, h4.below hb h4.lt⟩, h.2.2.2.2.2⟩
def DgA (X0 : Act) (V : Nat → Value) : Act := { X0 with tmps := (((((((X0.tmps.setIfInBounds 23 (V 0)).setIfInBounds 24 (V 1)).setIfInBounds 25 (V 2)).setIfInBounds 26 (V 3)).setIfInBounds 27 (V 4)).setIfInBounds 28 (V 5)).setIfInBounds 29 (V 6)) }
def updV (V : Nat → Value) (i : Nat) (v : Value) : Nat → Value := fun j => if j = i then v else V j
def DgI (A : (Nat → Value) → Act) (X : Value) (a : Option Addr) (K cap N g0 gc : Nat) (W1 : World) (Fin : World → Prop) (L : Array Bool) (act : Act) (w : World) : Prop :=
  L.size = 7 ∧ ∃ V : Nat → Value, act = A V ∧ (∀ j, j < 6 → L.getD j false = true → DgF X a K cap N g0 gc W1.heap.size w j (V j)) ∧ (L.getD 6 false = false → Below W1.heap.size W1 w) ∧ (L.getD 6 false = true → Fin w ∧ ∀ j, j < 6 → L.getD j false = true) ∧ (L.getD 4 false = true → L.getD 3 false = true) ∧ (L.getD 3 false = true → L.getD 2 false = true)
theorem DgI.start {A : (Nat → Value) → Act} {X : Value} {a : Option Addr} {K cap N g0 gc : Nat} {W1 : World} {Fin : World → Prop} (V : Nat → Value) : DgI A X a K cap N g0 gc W1 Fin (Array.replicate 7 false) (A V) W1.drew := by
  refine ⟨rfl, V, rfl, fun j _ h => ?_, fun _ => below_drewN (Below.refl _ _) 1, fun h => ?_, fun h => ?_, fun h => ?_⟩
  · rw [getD_replicate_false] at h; cases h
  · rw [getD_replicate_false] at h; cases h
  · rw [getD_replicate_false] at h; cases h
  · rw [getD_replicate_false] at h; cases h
theorem DgI.head {A : (Nat → Value) → Act} {X : Value} {a : Option Addr} {K cap N g0 gc : Nat} {W1 : World} {Fin : World → Prop} {L : Array Bool} {V : Nat → Value} {w w' : World} (hs : L.size = 7)
    (hF : ∀ j, j < 6 → L.getD j false = true → DgF X a K cap N g0 gc W1.heap.size w j (V j)) (hB : L.getD 6 false = false → Below W1.heap.size W1 w) (hT : L.getD 6 false = true → Fin w ∧ ∀ j, j < 6 → L.getD j false = true) (hD1 : L.getD 4 false = true → L.getD 3 false = true) (hD2 : L.getD 3 false = true → L.getD 2 false = true)
    (i : Nat) (hi : i < 6) (hi4 : i = 4 → L.getD 3 false = true) (hi3 : i = 3 → L.getD 2 false = true) (hun : L.getD i true = false) (v : Value) (hw : Below w.heap.size w w') (hv : DgF X a K cap N g0 gc W1.heap.size w' i v) : DgI A X a K cap N g0 gc W1 Fin (L.setIfInBounds i true) (A (updV V i v)) w' := by
  have hif : L.getD i false = false := by rw [← getD_two (by omega)]; exact hun
  have h6 : L.getD 6 false = false := by
    cases h : L.getD 6 false with
    | false => rfl
    | true => rw [(hT h).2 i hi] at hif; cases hif
  refine ⟨by simpa using hs, _, rfl, fun j hj hl => ?_, fun _ => ?_, fun h => ?_, fun h => ?_, fun h => ?_⟩
  · rw [getD_upd (by omega)] at hl
    by_cases e : i = j
    · subst e; simp only [updV, if_true]; exact hv
    · rw [if_neg e] at hl
      simp only [updV]; rw [if_neg (fun x => e x.symm)]
      exact (hF j hj hl).below hw
  · have := hB h6
    exact this.trans (hw.mono this.size)
  · rw [getD_upd (by omega), if_neg (by omega), h6] at h; cases h
  · rw [getD_upd (by omega)] at h ⊢
    by_cases e : i = 3
    · rw [if_pos e]
    · rw [if_neg e]
      by_cases e4 : i = 4
      · exact hi4 e4
      · rw [if_neg e4] at h; exact hD1 h
  · rw [getD_upd (by omega)] at h ⊢
    by_cases e : i = 2
    · rw [if_pos e]
    · rw [if_neg e]
      by_cases e4 : i = 3
      · exact hi3 e4
      · rw [if_neg e4] at h; exact hD2 h
theorem Below.ofGrown {B g : Nat} {w W w' : World} (h1 : Below B w W) (hB : B ≤ W.heap.size) (hg : W.grownBy w' (some g)) (h : B ≤ g) : Below B w w' :=
  h1.trans ⟨hg.os, hg.tape, hg.output, hg.size, fun k hk => hg.block k (by omega) (by intro e; cases e; omega)⟩
end Go.Proofs.YtckffliiidgilaaDoor
