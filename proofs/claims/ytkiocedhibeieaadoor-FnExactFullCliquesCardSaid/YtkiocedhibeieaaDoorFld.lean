/- FullCliques: the model; what its first round of calls makes. -/
import Derived.Deep.CutRange
import Derived.Test.YtkiocedhibeieaaDoorFlc
import Derived.Test.YtkiocedhibeieaaDoorPt8
namespace Go.Proofs.YtkiocedhibeieaaDoor
set_option linter.unusedVariables false
set_option linter.unusedSimpArgs false
open Go Go.RowKit Go.Shelf
theorem setCell_self {w : World} {b i : Nat} {C : Array Value} {t : TypeId} {v : Value} (h : Blk w b C t) (hv : C[i]? = some v) : w.setCell ⟨b, i, none⟩ v = w := by
  have hC : C.setIfInBounds i v = C := by
    apply Array.ext_getElem?
    intro j
    rw [Array.getElem?_setIfInBounds]
    by_cases e : i = j
    · subst e
      rw [if_pos rfl]
      have := (Array.getElem?_eq_some_iff.1 hv).1
      rw [if_pos this, hv]
    · rw [if_neg e]
  have hh : (w.setCell ⟨b, i, none⟩ v).heap = w.heap := by
    apply Array.ext_getElem?
    intro j
    by_cases e : j = b
    · subst e
      have h1 := h.same i v
      rw [hC] at h1
      exact h1.trans h.symm
    · exact heap_setCell_other w ⟨b, i, none⟩ j v e
  have h2 : w.setCell ⟨b, i, none⟩ v = { w with heap := (w.setCell ⟨b, i, none⟩ v).heap } := rfl
  rw [h2, hh]
/-- What is there while the calls run: the colouring, the rows, the two empty lists. -/
def St4 (C : Array Value) (N : Nat) (R : Nat → Nat) (w W : World) (rb ob gb : Option Nat) : Prop :=
  Blk W w.heap.size C 28 ∧ Below w.heap.size w W ∧ (∀ b, rb = some b → (∃ C', Blk W b C' 2 ∧ ∀ j, j < N → C'[j]? = some (.int .i64 ((R j : Nat) : Int))) ∧ w.heap.size < b) ∧ (∀ o, ob = some o → Blk W o #[] 2 ∧ w.heap.size < o) ∧ (∀ g, gb = some g → Blk W g #[] 25 ∧ w.heap.size < g) ∧ ∀ b o, rb = some b → ob = some o → b ≠ o
theorem St4.keep {C : Array Value} {N : Nat} {R : Nat → Nat} {w W W' : World} {rb ob gb : Option Nat} (h : St4 C N R w W rb ob gb) (hb : Below W.heap.size W W') : St4 C N R w W' rb ob gb := by
  obtain ⟨h1, h2, h3, h4, h5, h6⟩ := h
  refine ⟨h1.below hb h1.lt, h2.trans (hb.mono h2.size), fun b e => ?_, fun o e => ?_, fun g e => ?_, h6⟩
  · obtain ⟨⟨C', k1, k2⟩, k3⟩ := h3 b e
    exact ⟨⟨C', k1.below hb k1.lt, k2⟩, k3⟩
  · obtain ⟨k1, k2⟩ := h4 o e
    exact ⟨k1.below hb k1.lt, k2⟩
  · obtain ⟨k1, k2⟩ := h5 g e
    exact ⟨k1.below hb k1.lt, k2⟩
theorem St4.row {C : Array Value} {N : Nat} {R : Nat → Nat} {w W W' : World} {ob gb : Option Nat} (h : St4 C N R w W none ob gb) (hb : Below W.heap.size W W') {ar : Option Addr} (hN : 1 ≤ N) (ho : OwnL W' W.heap.size ar (fillA (fun j => ((R j : Nat) : Int)) N)) : ∃ b, ar = some ⟨b, 0, none⟩ ∧ St4 C N R w W' (some b) ob gb := by
  have hk := h.keep hb
  rcases ho with e | ⟨b, C', a1, a2, a3, a4, a5⟩
  · have h2 := congrArg List.length e
    rw [fillA_len] at h2
    simp at h2
    omega
  · have hl := h.1.lt
    refine ⟨b, a2, hk.1, hk.2.1, fun b' e => ?_, hk.2.2.2.1, hk.2.2.2.2.1, fun b' o e1 e2 => ?_⟩
    · cases e
      refine ⟨⟨C', a3, fun j hj => ?_⟩, by omega⟩
      rw [a5 j (by rw [fillA_len]; exact hj), fillA_get _ hj]
    · cases e1
      have := (h.2.2.2.1 o e2).1.lt
      omega
theorem St4.out {C : Array Value} {N : Nat} {R : Nat → Nat} {w W : World} {rb gb : Option Nat} (h : St4 C N R w W rb none gb) : St4 C N R w (W.alloc (.cells #[] 2)) rb (some W.heap.size) gb := by
  have hk := h.keep ((Below.refl W.heap.size W).alloc (Nat.le_refl _) (.cells #[] 2))
  have hl := h.1.lt
  refine ⟨hk.1, hk.2.1, hk.2.2.1, fun o e => ?_, hk.2.2.2.2.1, fun b o e1 e2 => ?_⟩
  · cases e; exact ⟨Blk.new _ _ _ _ rfl, hl⟩
  · cases e2
    obtain ⟨⟨C', k1, k2⟩, k3⟩ := h.2.2.1 b e1
    have := k1.lt
    omega
theorem St4.ll {C : Array Value} {N : Nat} {R : Nat → Nat} {w W : World} {rb ob : Option Nat} (h : St4 C N R w W rb ob none) : St4 C N R w (W.alloc (.cells #[] 25)) rb ob (some W.heap.size) := by
  have hk := h.keep ((Below.refl W.heap.size W).alloc (Nat.le_refl _) (.cells #[] 25))
  have hl := h.1.lt
  refine ⟨hk.1, hk.2.1, hk.2.2.1, hk.2.2.2.1, fun g e => ?_, hk.2.2.2.2.2⟩
  cases e; exact ⟨Blk.new _ _ _ _ rfl, hl⟩
/-- The sets are found. -/
def St5 (C : Array Value) (w W : World) (L : List Int) (a : Option Addr) (gb : Option Nat) : Prop :=
  Blk W w.heap.size C 28 ∧ Below w.heap.size w W ∧ OwnL W 0 a L ∧ ∀ g, gb = some g → Blk W g #[] 25 ∧ w.heap.size < g
theorem St4.rwb {C : Array Value} {N : Nat} {R : Nat → Nat} {w W : World} {b o : Nat} {gb : Option Nat} (h : St4 C N R w W (some b) (some o) gb) : RwB W b (.slice (some ⟨o, 0, none⟩) 0 0) N R ∧ W.ownsRow 0 2 1 (.slice (some ⟨o, 0, none⟩) 0 0) 0 (icells []) := by
  obtain ⟨h1, h2, h3, h4, h5, h6⟩ := h
  obtain ⟨⟨C', k1, k2⟩, k3⟩ := h3 b rfl
  refine ⟨⟨C', k1, fun e => ?_, k2⟩, rfl, .inr ⟨o, 0, #[], rfl, Nat.zero_le _, (h4 o rfl).1, Nat.le_refl _, by simp [maxLen], rfl, rfl⟩⟩
  have : o = b := by simpa [Value.ownBlock] using e
  exact h6 b o rfl rfl this.symm
theorem St4.find {C : Array Value} {N : Nat} {R : Nat → Nat} {w W W' : World} {b o : Nat} {gb : Option Nat} (h : St4 C N R w W (some b) (some o) gb) {L : List Int} {a : Option Addr} {c : Nat} (ho : W'.ownsRow 0 2 1 (.slice a L.length c) L.length (icells L)) (hf : Fr W W' (.slice (some ⟨o, 0, none⟩) 0 0) (.slice a L.length c)) : St5 C w W' L a gb := by
  obtain ⟨h1, h2, h3, h4, h5, h6⟩ := h
  obtain ⟨k1, k2⟩ := h4 o rfl
  obtain ⟨a', c', e, hO⟩ := own_list ho
  cases e
  have hob : ∀ (x : Nat), x ≠ o → (Value.slice (some ⟨o, 0, none⟩) 0 0).ownBlock ≠ some x := fun x hx e => hx (by simpa [Value.ownBlock] using e.symm)
  refine ⟨(hf.1.block _ h1.lt (fun e => hob _ (by omega) e.symm)).trans h1, ⟨hf.1.os.trans h2.os, hf.1.tape.trans h2.tape, hf.1.output.trans h2.output, Nat.le_trans h2.size hf.1.size, fun x hx => ?_⟩, hO, fun g e => ?_⟩
  · have hs := h2.size
    rw [hf.1.block x (by omega) (fun e => hob x (by omega) e.symm)]
    exact h2.block x hx
  · obtain ⟨q1, q2⟩ := h5 g e
    refine ⟨(hf.1.block g q1.lt (fun e' => hob g (fun e2 => ?_) e'.symm)).trans q1, q2⟩
    subst e2
    unfold Blk at q1 k1
    rw [k1] at q1
    cases q1
theorem St5.ll {C : Array Value} {w W : World} {L : List Int} {a : Option Addr} (h : St5 C w W L a none) : St5 C w (W.alloc (.cells #[] 25)) L a (some W.heap.size) := by
  have hb : Below W.heap.size W (W.alloc (.cells #[] 25)) := (Below.refl W.heap.size W).alloc (Nat.le_refl _) _
  obtain ⟨h1, h2, h3, h4⟩ := h
  have hl := h1.lt
  refine ⟨h1.below hb hl, h2.trans (hb.mono h2.size), h3.below hb (Nat.le_refl _), fun g e => ?_⟩
  cases e; exact ⟨Blk.new _ _ _ _ rfl, hl⟩
end Go.Proofs.YtkiocedhibeieaaDoor
