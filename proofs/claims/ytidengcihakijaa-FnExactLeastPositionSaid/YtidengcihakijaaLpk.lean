/- LeastPosition: the program. -/
import Derived.Test.YtidengcihakijaaLpj
namespace Go.Proofs.Ytidengcihakijaa
set_option linter.unusedVariables false
set_option linter.unusedSimpArgs false
open Go Go.RowKit Go.Shelf
attribute [local go_sem] Oper.semAt_some
theorem below_away {B C D : Nat} {w A A' : World} (h : Below B w A) (k : Away C D A A') (hB : B ≤ C) (hw : B ≤ w.heap.size) : Below B w A' :=
  ⟨k.1.trans h.os, k.2.1.trans h.tape, k.2.2.1.trans h.output, Nat.le_trans h.size k.2.2.2.1, fun i hi => (k.2.2.2.2 i (Nat.lt_of_lt_of_le (Nat.lt_of_lt_of_le hi hw) h.size) (.inl (Nat.lt_of_lt_of_le hi hB))).trans (h.block i hi)⟩
/-- A list outside the blocks from B to D. -/
def OwnD (base B D : Nat) (A : World) (a : Option Addr) (R : List Int) : Prop := R = [] ∨ ∃ g C, a = some ⟨g, 0, none⟩ ∧ RowC A g R C ∧ base ≤ g ∧ (g < B ∨ D ≤ g)
theorem OwnD.away {base B D : Nat} {A A' : World} {a : Option Addr} {R : List Int} (h : OwnD base B D A a R) (k : Away B D A A') : OwnD base B D A' a R := by
  rcases h with h | ⟨g, C, h1, h2, h3, h4⟩
  · exact .inl h
  · exact .inr ⟨g, C, h1, ⟨k.blk h2.1 h4, h2.2⟩, h3, h4⟩
theorem OwnD.below {base B D : Nat} {A A' : World} {a : Option Addr} {R : List Int} (h : OwnD base B D A a R) (k : Below A.heap.size A A') : OwnD base B D A' a R := by
  rcases h with h | ⟨g, C, h1, h2, h3, h4⟩
  · exact .inl h
  · exact .inr ⟨g, C, h1, ⟨h2.1.below k h2.1.lt, h2.2⟩, h3, h4⟩
theorem OwnD.setc {base B D : Nat} {A : World} {a : Option Addr} {R : List Int} (h : OwnD base B D A a R) {b : Nat} {C0 : Array Value} (hb : Blk A b C0 22) (v : Value) : OwnD base B D (A.setCell ⟨b, 0, none⟩ v) a R := by
  rcases h with h | ⟨g, C, h1, h2, h3, h4⟩
  · exact .inl h
  · refine .inr ⟨g, C, h1, ⟨h2.1.other _ _ (fun e => ?_), h2.2⟩, h3, h4⟩
    have h5 : A.heap[b]? = some (.cells C 2 (0, 0)) := by rw [← show g = b from e]; exact h2.1
    have h6 := hb.symm.trans h5
    cases h6
theorem OwnD.sl {base B D : Nat} {A : World} {a : Option Addr} {R : List Int} (h : OwnD base B D A a R) : SlI A a R := by
  rcases h with h | ⟨g, C, h1, h2, _⟩
  · exact .inl h
  · exact .inr ⟨g, 0, h1, fun j hj => by rw [Nat.zero_add]; exact h2.cell hj⟩
theorem OwnD.own {base B D : Nat} {A : World} {a : Option Addr} {R : List Int} (h : OwnD base B D A a R) : OwnL A base a R := by
  rcases h with h | ⟨g, C, h1, h2, h3, _⟩
  · exact .inl h
  · exact .inr ⟨g, C, h3, h1, h2.1, h2.2.1, h2.2.2⟩
theorem OwnL.d {A : World} {base B D : Nat} {a : Option Addr} {R : List Int} (h : OwnL A base a R) {b0 : Nat} (hb : b0 ≤ base) (hd : A.heap.size ≤ B ∨ D ≤ base) : OwnD b0 B D A a R := by
  rcases h with h | ⟨g, C, h1, h2, h3, h4, h5⟩
  · exact .inl h
  · refine .inr ⟨g, C, h2, ⟨h3, h4, h5⟩, by omega, ?_⟩
    have := h3.lt
    omega
/-- The boxes, the cell of the least list, the list. -/
def RelK (n : Int) (zs : List Int) (b cap Lc : Nat) (w : World) (B D : Nat) (R : List Int) (A : World) : Prop :=
  Blk A w.heap.size #[.int .i64 n] 2 ∧ Blk A (w.heap.size + 1) #[.slice (some ⟨b, 0, none⟩) zs.length cap] 22 ∧ (∃ a c, Blk A Lc #[.slice a zs.length c] 22 ∧ OwnD w.heap.size B D A a R) ∧ Below w.heap.size w A
theorem RelK.away {n : Int} {zs : List Int} {b cap Lc : Nat} {w : World} {B D : Nat} {R : List Int} {A A' : World} (h : RelK n zs b cap Lc w B D R A) (k : Away B D A A') (h1 : w.heap.size + 1 < B) (h2 : Lc < B) : RelK n zs b cap Lc w B D R A' := by
  obtain ⟨k1, k2, ⟨a, c, k3, k4⟩, k5⟩ := h
  exact ⟨k.blk k1 (.inl (by omega)), k.blk k2 (.inl h1), ⟨a, c, k.blk k3 (.inl h2), k4.away k⟩, below_away k5 k (by omega) (Nat.le_refl _)⟩
theorem RelK.below {n : Int} {zs : List Int} {b cap Lc : Nat} {w : World} {B D : Nat} {R : List Int} {A A' : World} (h : RelK n zs b cap Lc w B D R A) (k : Below A.heap.size A A') : RelK n zs b cap Lc w B D R A' := by
  obtain ⟨k1, k2, ⟨a, c, k3, k4⟩, k5⟩ := h
  exact ⟨k1.below k k1.lt, k2.below k k2.lt, ⟨a, c, k3.below k k3.lt, k4.below k⟩, k5.trans (k.mono k5.size)⟩
theorem RelK.put {n : Int} {zs : List Int} {b cap Lc : Nat} {w : World} {B D : Nat} {R : List Int} {A : World} (h : RelK n zs b cap Lc w B D R A) (hL : w.heap.size + 1 < Lc) {a : Option Addr} {c : Nat} {R' : List Int} (h' : OwnD w.heap.size B D A a R') :
    RelK n zs b cap Lc w B D R' (A.setCell ⟨Lc, 0, none⟩ (.slice a zs.length c)) := by
  obtain ⟨k1, k2, ⟨a0, c0, k3, k4⟩, k5⟩ := h
  exact ⟨k1.other _ _ (by show w.heap.size ≠ Lc; omega), k2.other _ _ (by show w.heap.size + 1 ≠ Lc; omega), ⟨a, c, k3.same 0 _, h'.setc k3 _⟩, k5.setCell (p := ⟨Lc, 0, none⟩) (by show w.heap.size ≤ Lc; omega) _⟩
end Go.Proofs.Ytidengcihakijaa
