/- CountTriangles: the program answers as the model's list tells. -/
import Derived.Test.YthohkfdloinlmaaCtSp
import Derived.Test.YthohkfdloinlmaaCtIm
namespace Go.Proofs.Ythohkfdloinlmaa
set_option linter.unusedVariables false
set_option linter.unusedSimpArgs false
open Go Go.RowKit Go.Shelf
theorem ct_eq (n k : Int) (bs : List Nat) : (if isCol n k bs then dgL k.toNat (teC bs (eseq n.toNat)) else []) = ctList n k bs := by
  unfold ctList
  rw [show teC bs (eseq n.toNat) = ctF bs n.toNat from funext fun c => teC_cC bs c n.toNat]
theorem impl9c (n k : Int) (bs : List Nat) (hb : Bys bs) (w : World) : Calls Try.prog 9 #[.agg (ccells n k bs).toArray] w (LOut w (ctList n k bs) (ceCode n k bs)) := by
  rw [← ct_eq]; exact impl9t n k bs hb w
theorem ctList_len {n k : Int} {bs : List Nat} : (ctList n k bs).length ≤ 17 := by
  unfold ctList
  split
  · rename_i h
    have := isCol_bd h
    rw [dgL_len]; omega
  · simp
end Go.Proofs.Ythohkfdloinlmaa
