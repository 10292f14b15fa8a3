/- FullCliques: the program, whole. -/
import Derived.Test.YtkiocedhibeieaaDoorFli
namespace Go.Proofs.YtkiocedhibeieaaDoor
set_option linter.unusedVariables false
set_option linter.unusedSimpArgs false
open Go Go.RowKit Go.Shelf
theorem impl28 (n k : Int) (bs : List Nat) (hb : Bys bs) (c : Int) (w : World) (hT : Tz w) (hw0 : 0 < w.heap.size) :
    Calls Tryd.prog 28 #[.agg (ccells n k bs).toArray, .int .i64 c] w (LLOut w (fcL n k bs c) (fcCode n k bs c)) := by
  cases hi : isCol n k bs with
  | false =>
    have h1 : given n k bs c [] = 1 := given_1 hi
    unfold fcL fcCode
    rw [h1, if_neg (by omega), if_neg (by omega)]
    exact impl28_1 n k bs hb c w hi
  | true =>
    obtain ⟨n1, n2, k1, k2⟩ := isCol_bd hi
    cases hc : belowB c k with
    | false =>
      have h1 : given n k bs c [] = 2 := given_2 hi (by rw [hc]; rfl)
      unfold fcL fcCode
      rw [h1, if_neg (by omega), if_neg (by omega)]
      exact impl28_2 n k bs hb c w hi hc
    | true =>
      have h0 : given n k bs c [] = 0 := given_0 hi hc rfl
      obtain ⟨N, rfl⟩ := Int.eq_ofNat_of_zero_le (show 0 ≤ n by omega)
      unfold fcL fcCode
      rw [if_pos h0, if_pos h0, Int.toNat_natCast]
      exact impl28_0 N k c bs hb w (by omega) (by omega) hi hc hT hw0
end Go.Proofs.YtkiocedhibeieaaDoor
