/- FullCliques: the program's side, numbers only. -/
import Derived.Test.YtkiocedhibeieaaDoorFlf
import Derived.Test.YtkiocedhibeieaaDoorHh
namespace Go.Proofs.YtkiocedhibeieaaDoor
set_option linter.unusedVariables false
set_option linter.unusedSimpArgs false
open Go Go.RowKit Go.Shelf
/-- The full ones among the cliques that have come. -/
def flF {N : Nat} (R : Nat → Nat) (pre : List (Cl N)) : List (List Int) := ((pre.map Cl.v).filter (fulB R N)).map rv
theorem flF_nil {N : Nat} (R : Nat → Nat) : flF R ([] : List (Cl N)) = [] := rfl
theorem flF_skip {N : Nat} {R : Nat → Nat} {pre : List (Cl N)} {x : Cl N} (h : fulB R N x.1 = false) : flF R (pre ++ [x]) = flF R pre := by
  unfold flF
  rw [List.map_append, List.filter_append, List.map_cons, List.map_nil, List.filter_cons_of_neg (by rw [show Cl.v x = x.1 from rfl, h]; simp), List.filter_nil, List.append_nil]
theorem flF_take {N : Nat} {R : Nat → Nat} {pre : List (Cl N)} {x : Cl N} (h : fulB R N x.1 = true) : flF R (pre ++ [x]) = flF R pre ++ [rv x.1] := by
  unfold flF
  rw [List.map_append, List.filter_append, List.map_cons, List.map_nil, List.filter_cons_of_pos (show fulB R N (Cl.v x) = true from h), List.filter_nil, List.map_append]; rfl
theorem fulB_congr {F R : Nat → Nat} {N : Nat} (h : ∀ p, p < N → F p = R p) {s : List Nat} (hs : ∀ q ∈ s, q < N) : fulB F N s = fulB R N s := by
  unfold fulB
  rw [Bool.eq_iff_iff, List.all_eq_true, List.all_eq_true]
  constructor
  · intro k q hq
    rw [← fitR_congr h q s hs]; exact k q hq
  · intro k q hq
    rw [fitR_congr h q s hs]; exact k q hq
theorem fcS_F {N : Nat} (bs : List Nat) (c : Int) (hN : N ≤ 17) : fcS N bs c = (cqR (fitR (nsF bs c (eseq N))) N [] N).filter (fulB (nsF bs c (eseq N)) N) := by
  unfold fcS fqE
  rw [clq_list bs c hN]
  refine List.filter_congr fun s hs => (fulB_congr (fun p hp => nsF_rw bs c hp hN) ?_).symm
  exact (cqE_ok N [] s (Nat.le_refl _) List.Pairwise.nil (fun q h => by cases h) hs).2
theorem flF_all {N : Nat} {bs : List Nat} {c : Int} (hN : N ≤ 17) {xs : List (Cl N)} (h : xs.map Cl.v = cqR (fitR (nsF bs c (eseq N))) N [] N) : flF (nsF bs c (eseq N)) xs = (fcS N bs c).map rv := by
  unfold flF
  rw [h, fcS_F bs c hN]
theorem flF_more {N : Nat} {bs : List Nat} {c : Int} (hN : N ≤ 17) {xs : List (Cl N)} {rest : List (List Nat)} (h : xs.map Cl.v ++ rest = cqR (fitR (nsF bs c (eseq N))) N [] N) : (flF (nsF bs c (eseq N)) xs).length ≤ (fcS N bs c).length := by
  unfold flF
  rw [fcS_F bs c hN, ← h, List.filter_append, List.length_map, List.length_append]; omega
/-- The test of one point. -/
theorem adn_is {R : Nat → Nat} {s : List Nat} {p : Nat} (hs : ∀ q ∈ s, q < 17) (hsym : ∀ q ∈ s, (R q).testBit p = (R p).testBit q) : (((adn (bitS s) (R p) : Nat) : Int) == 0) = fitR R s p := by
  have h := adn_fit hs hsym
  rw [Bool.eq_iff_iff, beq_iff_eq, ← h]
  omega
/-- No point before p fits. -/
theorem fulB_of {R : Nat → Nat} {N : Nat} {s : List Nat} (h : ∀ q, q < N → fitR R s q = false) : fulB R N s = true := by
  unfold fulB
  rw [List.all_eq_true]
  intro q hq
  rw [h q (List.mem_range.1 hq)]; rfl
theorem fulB_not {R : Nat → Nat} {N : Nat} {s : List Nat} {q : Nat} (hq : q < N) (h : fitR R s q = true) : fulB R N s = false := by
  unfold fulB
  rw [List.all_eq_false]
  exact ⟨q, List.mem_range.2 hq, by rw [h]; simp⟩
end Go.Proofs.YtkiocedhibeieaaDoor
