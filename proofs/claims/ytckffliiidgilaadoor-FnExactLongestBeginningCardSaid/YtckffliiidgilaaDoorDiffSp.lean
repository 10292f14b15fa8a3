/- Colourings that a list tells by distances or by differences: the model. -/
import Derived.Test.YtckffliiidgilaaDoorDiff
import Derived.Test.YtckffliiidgilaaDoorGc
namespace Go.Proofs.YtckffliiidgilaaDoor
set_option linter.unusedVariables false
set_option linter.unusedSimpArgs false
open Go Go.RowKit Go.Shelf
theorem dst_int' {N lo hi : Nat} (h1 : lo < hi) (h2 : hi < N) : min (max (lo : Int) hi - min (lo : Int) hi) ((N : Int) - (max (lo : Int) hi - min (lo : Int) hi)) = (dst N lo hi : Int) := by unfold dst; omega
def RelSc (n k : Int) (zs : List Int) (a : Option Addr) (r : Nat → Nat → Int) (w : World) (j i : Nat) (wr : World) : Prop :=
  Blk wr w.heap.size (ccells 0 0 zbl).toArray 28 ∧ Blk wr (w.heap.size + 1) (ccells n k (ptB r j i)).toArray 28 ∧ SlI wr a zs ∧ Below w.heap.size w wr
theorem RelSc.put {n k : Int} {zs : List Int} {a : Option Addr} {r : Nat → Nat → Int} {w : World} {j i : Nat} {wr : World} (h : RelSc n k zs a r w j i wr) (HRB : ∀ lo hi, 0 ≤ r lo hi ∧ r lo hi < 256) (hs : SlI w a zs) {E : Nat} (hE : E = eN j + i) (hE136 : E < 136) {v : Int} (hv : v = r i j) :
    (∃ old, wr.cell? ⟨w.heap.size + 1, 2 + E, none⟩ = some old) ∧ wr.frozen? ⟨w.heap.size + 1, 2 + E, none⟩ = false ∧ RelSc n k zs a r w j (i + 1) (wr.setCell ⟨w.heap.size + 1, 2 + E, none⟩ (.int .u8 v)) := by
  obtain ⟨q1, q2, q3, q4⟩ := h
  have hbe := q4.setCell (p := ⟨w.heap.size + 1, 2 + E, none⟩) (by show w.heap.size ≤ w.heap.size + 1; omega) (.int .u8 v)
  refine ⟨⟨_, q2.cell ((ptB_bys HRB j i).cget n k hE136)⟩, q2.fro _, q1.other _ _ (by show w.heap.size ≠ w.heap.size + 1; omega), ?_, hs.below hbe (Nat.le_refl _), hbe⟩
  have s := q2.same (2 + E) (.int .u8 v)
  obtain ⟨x, hx⟩ := Int.eq_ofNat_of_zero_le (hv ▸ (HRB i j).1 : 0 ≤ v)
  rw [hx, ccells_set] at s
  rw [ptB_step, ← hv, hx, ← hE, Int.toNat_natCast]
  exact s
end Go.Proofs.YtckffliiidgilaaDoor
