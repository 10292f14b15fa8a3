/- AvoidsSizes: its model. -/
import Derived.Test.YtckffliiidgilaaDoorGoList
namespace Go.Proofs.YtckffliiidgilaaDoor
set_option linter.unusedVariables false
set_option linter.unusedSimpArgs false
open Go Go.RowKit Go.Shelf
theorem cell_below {w w' : World} {p : Addr} {v : Value} (h : w.cell? p = some v) (hb : Below w.heap.size w w') : w'.cell? p = some v := by
  rw [World.cell?_of_block (hb.block _ (World.block_lt_of_cell? w p h))]; exact h
def szP (zs : List Int) (d : Nat) : Bool := (List.range d).all fun j => inB (zs.getD j 0) 1 17
theorem szP_step (zs : List Int) (d : Nat) : szP zs (d + 1) = (szP zs d && inB (zs.getD d 0) 1 17) := by simp [szP, List.range_succ]
theorem szP_get {zs : List Int} {d j : Nat} (h : szP zs d = true) (hj : j < d) : inB (zs.getD j 0) 1 17 = true := List.all_eq_true.1 h j (List.mem_range.2 hj)
theorem szP_fall {zs : List Int} {d m : Nat} (h : inB (zs.getD d 0) 1 17 = false) (hm : d < m) : szP zs m = false := by
  unfold szP
  rw [List.all_eq_false]
  exact ⟨d, List.mem_range.2 hm, by rw [h]; simp⟩
def szOk (k : Int) (zs : List Int) : Bool := decide ((zs.length : Int) = k) && szP zs zs.length
def szCode (n k : Int) (bs : List Nat) (zs : List Int) : Int := if isCol n k bs then (if szOk k zs then 0 else 2) else 1
theorem szCode_1 {n k : Int} {bs : List Nat} {zs : List Int} (h : isCol n k bs = false) : szCode n k bs zs = 1 := by simp [szCode, h]
theorem szCode_2 {n k : Int} {bs : List Nat} {zs : List Int} (h : isCol n k bs = true) (h2 : szOk k zs = false) : szCode n k bs zs = 2 := by simp [szCode, h, h2]
theorem szCode_0 {n k : Int} {bs : List Nat} {zs : List Int} (h : isCol n k bs = true) (h2 : szOk k zs = true) : szCode n k bs zs = 0 := by simp [szCode, h, h2]
/-- Is there no clique of the size of one of the first d colours? -/
def avP (N : Nat) (bs : List Nat) (zs : List Int) (d : Nat) : Bool := (List.range d).all fun c => (clqL bs (c : Int) N (zs.getD c 0).toNat).isEmpty
theorem avP_step (N : Nat) (bs : List Nat) (zs : List Int) (d : Nat) : avP N bs zs (d + 1) = (avP N bs zs d && (clqL bs (d : Int) N (zs.getD d 0).toNat).isEmpty) := by simp [avP, List.range_succ]
theorem avP_fall {N : Nat} {bs : List Nat} {zs : List Int} {d m : Nat} (h : (clqL bs (d : Int) N (zs.getD d 0).toNat).isEmpty = false) (hm : d < m) : avP N bs zs m = false := by
  unfold avP
  rw [List.all_eq_false]
  exact ⟨d, List.mem_range.2 hm, by rw [h]; simp⟩
def avB (n k : Int) (bs : List Nat) (zs : List Int) : Bool := decide (szCode n k bs zs = 0) && avP n.toNat bs zs k.toNat
end Go.Proofs.YtckffliiidgilaaDoor

