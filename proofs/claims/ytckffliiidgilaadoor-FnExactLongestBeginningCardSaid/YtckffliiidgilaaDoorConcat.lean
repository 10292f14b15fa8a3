/- slices.Grow and slices.Concat of two lists; a list of colours taken as an array. -/
import Derived.Test.YtckffliiidgilaaDoorGb
import Derived.Lib.AppendZeros
namespace Go.Proofs.YtckffliiidgilaaDoor
set_option linter.unusedVariables false
set_option linter.unusedSimpArgs false
open Go Go.RowKit
theorem zeroCells_size (z : Array Value) (n : Nat) : (Builtin.zeroCells z n).size = n * z.size := by simp [Builtin.zeroCells]
theorem grown_plain {w1 w2 : World} {B : Nat} {e : TypeId} {size : Nat} {v : Value} {n : Nat} {xs : List Value} (hown : w1.ownsRow B e size v n xs) (hg : w1.grownBy w2 v.ownBlock) (hB : B ≤ w1.heap.size) : Below B w1 w2 :=
  (Below.refl B w1).grown hg hB (fun g hgg => by
    rcases hown.2 with ⟨h1, _⟩ | ⟨g', cap', cur', h1, h2, _⟩
    · rw [h1] at hgg; cases hgg
    · rw [h1] at hgg; cases hgg; exact h2)
theorem SlI.some {w : World} {a : Option Addr} {zs : List Int} (h : SlI w a zs) (h1 : 1 ≤ zs.length) : ∃ b off, a = some ⟨b, off, none⟩ ∧ ∀ j u, (icells zs)[j]? = some u → w.cell? ((⟨b, off, none⟩ : Addr).add j) = some u := by
  rcases h with h | ⟨b, off, ha, hc⟩
  · rw [h] at h1; simp at h1
  · refine ⟨b, off, ha, fun j u hu => ?_⟩
    have hj : j < zs.length := by
      have := (List.getElem?_eq_some_iff.1 hu).1
      rwa [icells_len] at this
    rw [Addr.add_mid, hc j hj]
    have := icells_get hj
    simp only [List.getElem?_toArray] at this
    rw [← this]; exact hu
theorem icells_oc (zs : List Int) : ∀ u ∈ icells zs, u.oneCell' = true := by
  intro u hu
  simp only [icells, List.mem_map] at hu
  obtain ⟨x, _, rfl⟩ := hu; rfl
end Go.Proofs.YtckffliiidgilaaDoor
