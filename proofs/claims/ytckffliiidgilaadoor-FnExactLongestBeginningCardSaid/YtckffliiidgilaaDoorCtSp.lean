/- CountTriangles: its model. -/
import Derived.Test.YtckffliiidgilaaDoorCountIm
import Derived.Test.YtckffliiidgilaaDoorTriC
import Derived.Deep.RegionHeld2
namespace Go.Proofs.YtckffliiidgilaaDoor
set_option linter.unusedVariables false
set_option linter.unusedSimpArgs false
open Go Go.RowKit Go.Shelf
def ctF (bs : List Nat) (N c : Nat) : Nat := cC (rwN bs (c : Int) N) N 3 (2 ^ N - 1)
def ctList (n k : Int) (bs : List Nat) : List Int := if isCol n k bs then dgL k.toNat (ctF bs n.toNat) else []
theorem fillA_get' {f : Nat → Int} {d j : Nat} (h : j < d) : (fillA f d).getD j 0 = f j := by
  induction d with
  | zero => omega
  | succ d ih =>
    rw [fillA_snoc, List.getD_eq_getElem?_getD]
    by_cases e : j = d
    · subst e; rw [List.getElem?_append_right (by rw [fillA_len]; omega), fillA_len]; simp
    · rw [List.getElem?_append_left (by rw [fillA_len]; omega), ← List.getD_eq_getElem?_getD, ih (by omega)]
theorem rows_rws {N : Nat} (hN : N ≤ 17) (bs : List Nat) (c : Int) : Rws N (rwN bs c N) (fillA (rowF N bs c) N) :=
  ⟨fillA_len _ _, fun p hp => by rw [fillA_get' hp]; rfl, fun p hp => Nat.lt_of_lt_of_le (arK_lt _ _) (Nat.pow_le_pow_right (by omega) hN)⟩
def RelCt (N : Nat) (bs : List Nat) (C : Array Value) (w : World) (d : Nat) (v : Value) (wr : World) : Prop :=
  Blk wr w.heap.size C 28 ∧ wr.ownsRow (w.heap.size + 1) 2 1 v (dgL d (ctF bs N)).length (icells (dgL d (ctF bs N))) ∧ Below w.heap.size w wr
theorem ctF_le (bs : List Nat) {N : Nat} (hN : N ≤ 17) (c : Nat) : ctF bs N c ≤ 4913 := by have := cC_le (R := rwN bs (c : Int) N) hN 3 (2 ^ N - 1); unfold ctF; omega
theorem full_int {N : Nat} (hN : N ≤ 17) : wrap64 (2 ^ N) - 1 = ((2 ^ N - 1 : Nat) : Int) := by
  have h2 : 2 ^ N ≤ 2 ^ 17 := Nat.pow_le_pow_right (by omega) hN
  have h3 : 1 ≤ 2 ^ N := Nat.one_le_two_pow
  have e : (2 : Int) ^ N = ((2 ^ N : Nat) : Int) := by simp
  rw [e]
  generalize 2 ^ N = y at *
  rw [IntWalk.wrap64_in _ ⟨by omega, by omega⟩]; omega
theorem load_row {w : World} {b : Nat} {n k : Int} {bs : List Nat} (hb : Bys bs) (h : Blk w b (ccells n k bs).toArray 28) :
    (Instr.loadAt 28 (.pointer (some ⟨b, 0, none⟩))).run Tryd.prog w = .ok (.agg (ccells n k bs).toArray) w :=
  run_loadAt_mid w b 0 28 (ccells n k bs) _ (h.range 0 _ (fun j v hj => by simpa using hj)) Tryd.underlying28 rfl (by rw [size_c26 n k hb]; simp)
end Go.Proofs.YtckffliiidgilaaDoor
