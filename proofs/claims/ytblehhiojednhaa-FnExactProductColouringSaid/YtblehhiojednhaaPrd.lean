/- ProductColouring: what it answers. -/
import Derived.Test.YtblehhiojednhaaGc
import Derived.BigFrame
namespace Go.Proofs.Ytblehhiojednhaa
set_option linter.unusedVariables false
set_option linter.unusedSimpArgs false
open Go Go.RowKit Go.Shelf
/-- The load of a whole row behind a guard that lets it by. -/
theorem wpList_load_row_want {P : Program} {ops : Array Oper} {rest : List Oper} {o : Oper} {a : Act} {w : World} {Q : Exit → Act → World → Prop} (hw : Region.wanted o (yielded ops a.tmps) = true) (ty : TypeId) (x : Operand) (ho : o.op = .load ty x)
    (g : Nat) (hx : a.eval x = .pointer (some ⟨g, 0, none⟩)) (t : TypeId) (cs : Array Value) (fr : Nat × Nat) (d : TypeDesc) (hg : w.heap[g]? = some (.cells cs t fr))
    (hu : P.underlying ty = some d) (hd : (match d with | .struct _ | .array _ _ => true | _ => false) = true) (hi : (P.info? ty).map (·.size) = some cs.size)
    (h : wpList P ops Q rest (a.put o.dst (.agg cs)) w) : wpList P ops Q (o :: rest) a w :=
  Go.BigFrame.wpList_want hw fun _ hK => wp_load_row ty x ho g hx t cs fr d hg hu hd hi (hK _ _ h)
/-- The colour of an edge of the product. -/
def prR (k : Int) (m : Nat) (bs cs : List Nat) (lo hi : Nat) : Int := if lo / m ≠ hi / m then colAt bs ((lo / m : Nat) : Int) ((hi / m : Nat) : Int) else k + colAt cs ((lo % m : Nat) : Int) ((hi % m : Nat) : Int)
theorem col_small {n k : Int} {bs : List Nat} (hb : Bys bs) (h : isCol n k bs = true) (e : Nat) : ((bs.getD e 0 : Nat) : Int) < k := by
  have hk := isCol_bd h
  by_cases he : e < 136
  · by_cases h1 : (e : Int) < edg n
    · exact col_lo h h1 he
    · rw [col_hi h (by omega) he]; omega
  · rw [List.getD, List.getElem?_eq_none (by rw [hb.len]; omega)]; simp; omega
theorem prR_bd {n k m l : Int} {bs cs : List Nat} (hb : Bys bs) (hc : Bys cs) (h1 : isCol n k bs = true) (h2 : isCol m l cs = true) (lo hi : Nat) : 0 ≤ prR k m.toNat bs cs lo hi ∧ prR k m.toNat bs cs lo hi < 256 := by
  have b1 := isCol_bd h1
  have b2 := isCol_bd h2
  unfold prR
  split
  · exact colAt_bd hb _ _
  · have := colAt_bd hc ((lo % m.toNat : Nat) : Int) ((hi % m.toNat : Nat) : Int)
    have h4 : colAt cs ((lo % m.toNat : Nat) : Int) ((hi % m.toNat : Nat) : Int) < l := col_small hc h2 _
    omega
def prCode (n k : Int) (bs : List Nat) (m l : Int) (cs : List Nat) : Int := if isCol n k bs = true ∧ isCol m l cs = true then (if n * m ≤ 17 ∧ k + l ≤ 4 then 0 else 3) else 1
def prN (n k : Int) (bs : List Nat) (m l : Int) (cs : List Nat) : Int := if prCode n k bs m l cs = 0 then n * m else 0
def prK (n k : Int) (bs : List Nat) (m l : Int) (cs : List Nat) : Int := if prCode n k bs m l cs = 0 then k + l else 0
def prB (n k : Int) (bs : List Nat) (m l : Int) (cs : List Nat) : List Nat := if prCode n k bs m l cs = 0 then paintB (n * m).toNat (prR k m.toNat bs cs) else zbl
/-- What ProductColouring returns. -/
def prOut (n k : Int) (bs : List Nat) (m l : Int) (cs : List Nat) : Value := .tuple #[.agg (ccells (prN n k bs m l cs) (prK n k bs m l cs) (prB n k bs m l cs)).toArray, .int .i64 (prCode n k bs m l cs)]
theorem prCode_1 {n k : Int} {bs : List Nat} {m l : Int} {cs : List Nat} (h : ¬ (isCol n k bs = true ∧ isCol m l cs = true)) : prCode n k bs m l cs = 1 := by unfold prCode; rw [if_neg h]
theorem prCode_3 {n k : Int} {bs : List Nat} {m l : Int} {cs : List Nat} (h : isCol n k bs = true) (h2 : isCol m l cs = true) (h3 : ¬ (n * m ≤ 17 ∧ k + l ≤ 4)) : prCode n k bs m l cs = 3 := by unfold prCode; rw [if_pos ⟨h, h2⟩, if_neg h3]
theorem prCode_0 {n k : Int} {bs : List Nat} {m l : Int} {cs : List Nat} (h : isCol n k bs = true) (h2 : isCol m l cs = true) (h3 : n * m ≤ 17 ∧ k + l ≤ 4) : prCode n k bs m l cs = 0 := by unfold prCode; rw [if_pos ⟨h, h2⟩, if_pos h3]
theorem prOut_bad {n k : Int} {bs : List Nat} {m l : Int} {cs : List Nat} {c : Int} (h : prCode n k bs m l cs = c) (hc : c ≠ 0) : prOut n k bs m l cs = .tuple #[.agg (ccells 0 0 zbl).toArray, .int .i64 c] := by
  simp [prOut, prN, prK, prB, h, hc]
theorem prOut_good {n k : Int} {bs : List Nat} {m l : Int} {cs : List Nat} (h : prCode n k bs m l cs = 0) : prOut n k bs m l cs = .tuple #[.agg (ccells (n * m) (k + l) (paintB (n * m).toNat (prR k m.toNat bs cs))).toArray, .int .i64 0] := by
  simp [prOut, prN, prK, prB, h]
theorem prB_bys (n k : Int) {bs : List Nat} (hb : Bys bs) (m l : Int) {cs : List Nat} (hc : Bys cs) : Bys (prB n k bs m l cs) := by
  unfold prB
  split
  · rename_i h
    unfold prCode at h
    split at h
    · rename_i h2
      exact paintB_bys (prR_bd hb hc h2.1 h2.2)
    · simp at h
  · exact zbl_bys
end Go.Proofs.Ytblehhiojednhaa
