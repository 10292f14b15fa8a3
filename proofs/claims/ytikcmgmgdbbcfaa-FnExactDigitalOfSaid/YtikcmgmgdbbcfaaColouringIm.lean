/- ColouringOf: the program's own text. -/
import Derived.Test.YtikcmgmgdbbcfaaColouringOf
namespace Go.Proofs.Ytikcmgmgdbbcfaa
set_option linter.unusedVariables false
set_option linter.unusedSimpArgs false
open Go Go.RowKit Go.Shelf
theorem eix_eN {lo hi : Nat} (h : lo < hi) : eix (lo : Int) (hi : Int) = ((eN hi + lo : Nat) : Int) := by
  unfold eix
  rw [if_neg (by omega), Int.natCast_add, eN_edg]
theorem Below.drewN {B : Nat} {a w : World} (h : Below B a w) (n : Nat) : Below B a (w.drewN n) := ⟨h.1, h.2, h.3, h.4, h.5⟩
theorem SlI.drewN {w : World} {a : Option Addr} {zs : List Int} (h : SlI w a zs) (n : Nat) : SlI (w.drewN n) a zs := h
theorem edg_rng {zs : List Int} {k : Int} {N : Nat} (h : allB zs k = true) (hk : k ≤ 4) (hl : zs.length = eN N) (x : Edg N) : 0 ≤ zs.getD (eN x.1.2.2 + x.1.2.1) 0 ∧ zs.getD (eN x.1.2.2 + x.1.2.1) 0 < 256 := by
  obtain ⟨hx1, hx2, hx3⟩ := x.2
  have hx := x.lt
  exact all_lt h hk _ (by omega)
end Go.Proofs.Ytikcmgmgdbbcfaa
