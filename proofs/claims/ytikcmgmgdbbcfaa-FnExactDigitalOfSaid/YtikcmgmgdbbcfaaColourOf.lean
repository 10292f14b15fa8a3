/- ColourOf: the program and its model. -/
import Derived.Test.YtikcmgmgdbbcfaaGiven
namespace Go.Proofs.Ytikcmgmgdbbcfaa
open Go Go.RowKit
/-- The code of an edge that is asked for. -/
def codeE (n k : Int) (bs : List Nat) (i j : Int) : Int := if isCol n k bs then (if pairB i j n then 0 else 2) else 1
def colE (n k : Int) (bs : List Nat) (i j : Int) : Int := if isCol n k bs && pairB i j n then colAt bs i j else 0
theorem codeE_1 {n k : Int} {bs : List Nat} {i j : Int} (h : isCol n k bs = false) : codeE n k bs i j = 1 ∧ colE n k bs i j = 0 := by simp [codeE, colE, h]
theorem codeE_2 {n k : Int} {bs : List Nat} {i j : Int} (h : isCol n k bs = true) (h2 : pairB i j n = false) : codeE n k bs i j = 2 ∧ colE n k bs i j = 0 := by simp [codeE, colE, h, h2]
theorem codeE_0 {n k : Int} {bs : List Nat} {i j : Int} (h : isCol n k bs = true) (h2 : pairB i j n = true) : codeE n k bs i j = 0 ∧ colE n k bs i j = colAt bs i j := by simp [codeE, colE, h, h2]
theorem all2 (i j n : Int) : allB [i, j] n = (belowB i n && belowB j n) := by simp [allB]
theorem pair_of {i j n : Int} (h : allB [i, j] n = true) (h2 : i ≠ j) : pairB i j n = true := by
  rw [all2, Bool.and_eq_true] at h; exact pairB_yes h.1 h.2 h2
theorem pair_not {i j n : Int} (h : allB [i, j] n = false) : pairB i j n = false := by
  rw [all2, Bool.and_eq_false_iff] at h
  rcases h with h | h
  · exact pairB_no1 h
  · exact pairB_no2 h
theorem below0 {k : Int} (h : 1 ≤ k) : belowB 0 k = true := inB_yes (by omega) (by omega)
theorem sl2 (w : World) (i j : Int) (t : TypeId) (b : Nat) (hb : b = w.heap.size) : SlI (w.alloc (.cells #[.int .i64 i, .int .i64 j] t)) (some ⟨b, 0, none⟩) [i, j] := by
  refine .inr ⟨_, _, rfl, fun m hm => ?_⟩
  have hB := Blk.new w #[.int .i64 i, .int .i64 j] t b hb
  match m, hm with
  | 0, _ => exact hB.cell rfl
  | 1, _ => exact hB.cell rfl
end Go.Proofs.Ytikcmgmgdbbcfaa
