/- NamedColouring: the program. -/
import Derived.Test.YtoiamgmlehmomaaNmr
import Derived.Maps.RangeWalk
namespace Go.Proofs.Ytoiamgmlehmomaa
set_option linter.unusedVariables false
set_option linter.unusedSimpArgs false
open Go Go.RowKit Go.Maps Go.ChangeMaps
/-- Which colouring has a name: five if none. -/
def ncI (s : ByteArray) : Nat := if s = pcT 0 then 0 else if s = pcT 1 then 1 else if s = pcT 2 then 2 else if s = pcT 3 then 3 else if s = pcT 4 then 4 else 5
def ncN (s : ByteArray) : Int := if ncI s = 5 then 0 else (pcN (ncI s) : Int)
def ncK (s : ByteArray) : Int := if ncI s = 5 then 0 else pcK (ncI s)
def ncB (s : ByteArray) : List Nat := if ncI s = 5 then zbl else pcB (ncI s)
def ncCode (s : ByteArray) : Int := if ncI s = 5 then 4 else 0
def ncOut (s : ByteArray) : Value := .tuple #[.agg (ccells (ncN s) (ncK s) (ncB s)).toArray, .int .i64 (ncCode s)]
theorem pcT_inj {i j : Nat} (hi : i < 5) (hj : j < 5) (h : pcT i = pcT j) : i = j := by
  have : (List.range 5).all (fun i => (List.range 5).all fun j => decide (pcT i = pcT j → i = j)) = true := by decide
  exact of_decide_eq_true (List.all_eq_true.1 (List.all_eq_true.1 this i (List.mem_range.2 hi)) j (List.mem_range.2 hj)) h
theorem ncI_at (i : Nat) (hi : i < 5) : ncI (pcT i) = i := by
  have : (List.range 5).all (fun i => decide (ncI (pcT i) = i)) = true := by decide
  exact of_decide_eq_true (List.all_eq_true.1 this i (List.mem_range.2 hi))
theorem ncI_none {s : ByteArray} (h : ∀ i, i < 5 → pcT i ≠ s) : ncI s = 5 := by
  unfold ncI
  rw [if_neg (fun e => h 0 (by omega) e.symm), if_neg (fun e => h 1 (by omega) e.symm), if_neg (fun e => h 2 (by omega) e.symm), if_neg (fun e => h 3 (by omega) e.symm), if_neg (fun e => h 4 (by omega) e.symm)]
theorem ncB_bys (s : ByteArray) : Bys (ncB s) := by
  unfold ncB
  split
  · exact zbl_bys
  · exact pcB_bys _
theorem ncOut_at (i : Nat) (hi : i < 5) : ncOut (pcT i) = .tuple #[pcV i, .int .i64 0] := by
  have h := ncI_at i hi
  unfold ncOut ncN ncK ncB ncCode
  rw [h, if_neg (by omega), if_neg (by omega), if_neg (by omega), if_neg (by omega)]
  rfl
theorem ncOut_none {s : ByteArray} (h : ∀ i, i < 5 → pcT i ≠ s) : ncOut s = .tuple #[.agg (ccells 0 0 zbl).toArray, .int .i64 4] := by
  unfold ncOut ncN ncK ncB ncCode
  rw [ncI_none h]
  rfl
theorem plainElem_str_inv {v : Value} {z : DataW Unit × List MemPlace} (h : plainElem Try.prog 9 v = some z) : ∃ s, v = .string s ∧ z = (.lit (.string s.data.toList), []) := by
  unfold plainElem at h
  rw [Try.underlying9] at h
  cases v <;> simp at h
  obtain ⟨_, rfl⟩ := h
  exact ⟨_, rfl, rfl⟩
theorem key24_inv {key : Value} {kl : Lit} (h : keyOf Try.prog 24 key = some kl) : ∃ x, key = .agg x := by
  unfold keyOf at h
  simp only [Try.underlying24] at h
  split at h
  · rename_i hc
    rw [Bool.and_eq_true] at hc
    cases key <;> simp [Value.formed, Try.underlying24] at hc
    exact ⟨_, rfl⟩
  · cases h
theorem grown_below {B r : Nat} {w w' : World} (h : w.grownBy w' (some r)) (hr : B ≤ r) (hB : B ≤ w.heap.size) : Below B w w' :=
  ⟨h.os, h.tape, h.output, h.size, fun k hk => h.block k (by omega) (by simp; omega)⟩
theorem below_grown {w w' : World} (h : Below w.heap.size w w') : w.grownBy w' none :=
  ⟨h.os, h.tape, h.output, h.size, fun k hk _ => h.block k hk⟩
end Go.Proofs.Ytoiamgmlehmomaa
