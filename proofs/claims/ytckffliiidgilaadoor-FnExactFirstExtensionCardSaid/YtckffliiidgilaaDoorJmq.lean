/- A scope with two labels, one jumped to from everywhere, the other run into from it. -/
import Derived.Test.YtckffliiidgilaaDoorJmp
namespace Go.Proofs.YtckffliiidgilaaDoor
set_option linter.unusedVariables false
set_option linter.unusedSimpArgs false
open Go Go.RowKit
theorem jumpsTo_mono {J J' : Nat → Act → World → Prop} {Q : Exit → Act → World → Prop} (h : ∀ l a w, J l a w → J' l a w) : ∀ e a w, jumpsTo J Q e a w → jumpsTo J' Q e a w := by
  intro e a w hq
  cases e with
  | goto l => exact h _ _ _ hq
  | _ => exact hq
theorem wpIn_scope_two {P : Program} {F : Fence} {n : Nat} {a : Act} {w : World} {Q : Exit → Act → World → Prop} {c R1 R0 : Code} {ι : Type} (hf1 : findLabel c 1 = some (.seq .skip R1)) (hf0 : findLabel c 0 = some (.seq .skip R0))
    (J1 J0 : ι → Act → World → Prop) (μ1 μ0 : ι → Nat)
    (back : ∀ i a w, J0 i a w → R0.wpIn F n P (jumpsTo (fun l a' w' => l = 1 ∧ ∃ i', J1 i' a' w' ∧ μ1 i' < μ0 i) Q) a w)
    (pass : ∀ i a w, J1 i a w → (∀ i0 a w, J0 i0 a w → μ0 i0 ≤ μ1 i → R0.wpIn F n P (jumpsTo (fun l a' w' => (l = 1 ∧ ∃ i', J1 i' a' w' ∧ μ1 i' < μ1 i) ∨ (l = 0 ∧ ∃ i', J0 i' a' w' ∧ μ0 i' < μ1 i)) Q) a w) →
      R1.wpIn F n P (jumpsTo (fun l a' w' => (l = 1 ∧ ∃ i', J1 i' a' w' ∧ μ1 i' < μ1 i) ∨ (l = 0 ∧ ∃ i', J0 i' a' w' ∧ μ0 i' < μ1 i)) Q) a w)
    (first : (∀ i a w, J1 i a w → R1.wpIn F n P (jumpsTo (fun l a' w' => (l = 1 ∧ ∃ i', J1 i' a' w') ∨ (l = 0 ∧ ∃ i', J0 i' a' w')) Q) a w) →
      c.wpIn F n P (jumpsTo (fun l a' w' => (l = 1 ∧ ∃ i', J1 i' a' w') ∨ (l = 0 ∧ ∃ i', J0 i' a' w')) Q) a w) : (Code.scope c).wpIn F n P Q a w := by
  have hp : ∀ i a w, J1 i a w → R1.wpIn F n P (jumpsTo (fun l a' w' => (l = 1 ∧ ∃ i', J1 i' a' w' ∧ μ1 i' < μ1 i) ∨ (l = 0 ∧ ∃ i', J0 i' a' w' ∧ μ0 i' < μ1 i)) Q) a w := fun i a w hJ =>
    pass i a w hJ fun i0 a0 w0 h0 hμ => wpIn_mono (back i0 a0 w0 h0) (jumpsTo_mono fun l a' w' ⟨hl, i', h1, h2⟩ => .inl ⟨hl, i', h1, Nat.lt_of_lt_of_le h2 hμ⟩)
  refine wpIn_scope_jumps (ι := Bool × ι) (fun i => if i.1 then 1 else 0) (fun i => .seq .skip (if i.1 then R1 else R0)) (fun i a w => if i.1 then J1 i.2 a w else J0 i.2 a w) (fun i => if i.1 then μ1 i.2 else μ0 i.2) (fun i => ?_) ?_ (fun i a w hJ => ?_)
  · obtain ⟨b, i⟩ := i
    cases b
    · exact hf0
    · exact hf1
  · refine wpIn_mono (first fun i a w hJ => wpIn_mono (hp i a w hJ) (jumpsTo_mono fun l a' w' h => ?_)) (jumpsTo_mono fun l a' w' h => ?_)
    · rcases h with ⟨hl, i', h1, _⟩ | ⟨hl, i', h1, _⟩
      · exact .inl ⟨hl, i', h1⟩
      · exact .inr ⟨hl, i', h1⟩
    · rcases h with ⟨rfl, i', h1⟩ | ⟨rfl, i', h1⟩
      · exact ⟨(true, i'), rfl, h1⟩
      · exact ⟨(false, i'), rfl, h1⟩
  · obtain ⟨b, i⟩ := i
    refine wpIn_seq (wpIn_skip ?_)
    cases b
    · refine wpIn_mono (back i a w hJ) ?_
      intro e a' w' hq
      cases e with
      | goto l =>
        obtain ⟨rfl, i', h1, h2⟩ := hq
        exact ⟨(true, i'), rfl, h1, h2⟩
      | _ => exact hq
    · refine wpIn_mono (hp i a w hJ) ?_
      intro e a' w' hq
      cases e with
      | goto l =>
        rcases hq with ⟨rfl, i', h1, h2⟩ | ⟨rfl, i', h1, h2⟩
        · exact ⟨(true, i'), rfl, h1, h2⟩
        · exact ⟨(false, i'), rfl, h1, h2⟩
      | _ => exact hq
end Go.Proofs.YtckffliiidgilaaDoor
