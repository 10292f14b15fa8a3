/- ListOfCircular: the program and its model. -/
import Derived.Test.YtckffliiidgilaaDoorDiffSp
import Derived.Test.YtckffliiidgilaaDoorEqc
import Derived.Test.YtckffliiidgilaaDoorCirc
import Derived.BigQuiet
namespace Go.Proofs.YtckffliiidgilaaDoor
set_option linter.unusedVariables false
set_option linter.unusedSimpArgs false
open Go Go.RowKit Go.Shelf
theorem wp_region_quiet_at {P : Program} {id : Nat} {Q : Exit → Act → World → Prop} {a : Act} {w : World} {l : List Oper} (C : World → Prop) (hm : P.follows .mixedOrders = true) (hB : Region.lexB .any l.toArray = true) (hC : C w.drew)
    (h : wpQuiet P l.toArray C (fun a' => ∀ w', C w' → Q .normal a' w') l a) : (Code.region id l.toArray true).wp P Q a w :=
  wp_region_quiet (C := C) hm hB hC (by simpa using h)
theorem quietEql25 {C : World → Prop} {o : Oper} {a : Act} {w : World} (x y : Operand) (ho : o.op = .binOp .eql 28 x y 28) (n k : Int) (bs cs : List Nat) (hb : Bys bs) (hc : Bys cs)
    (hx : a.eval x = .agg (ccells n k bs).toArray) (hy : a.eval y = .agg (ccells n k cs).toArray) : o.quietAt Tryd.prog a C w (.bool (bs == cs)) := by
  unfold Oper.quietAt execOp
  simp only [ho, hx, hy, Sem.run_bind, run_eqGuard_agg w .eql 28 x y _ _ guard25, Result.andThen_ok, run_eql_struct, eqCol25 w n k bs cs hb hc 9996]
  exact ⟨rfl, rfl⟩
theorem quietNeq25 {C : World → Prop} {o : Oper} {a : Act} {w : World} (x y : Operand) (ho : o.op = .binOp .neq 28 x y 28) (n k : Int) (bs cs : List Nat) (hb : Bys bs) (hc : Bys cs)
    (hx : a.eval x = .agg (ccells n k bs).toArray) (hy : a.eval y = .agg (ccells n k cs).toArray) : o.quietAt Tryd.prog a C w (.bool (!(bs == cs))) := by
  unfold Oper.quietAt execOp
  simp only [ho, hx, hy, Sem.run_bind, run_eqGuard_agg w .neq 28 x y _ _ guard25, Result.andThen_ok, run_neq_struct, eqCol25 w n k bs cs hb hc 9996]
  exact ⟨rfl, rfl⟩
/-! ### Lists filled one by one -/
def fillK (f : Nat → Int) (M j : Nat) : List Int := (List.range M).map fun i => if i < j then f i else 0
def fillA (f : Nat → Int) (M : Nat) : List Int := (List.range M).map f
theorem fillK_zero (f : Nat → Int) (M : Nat) : zrow M = (icells (fillK f M 0)).toArray := by
  rw [zrow_icells]
  congr 2
  apply List.ext_getElem
  · simp [fillK]
  · intro p h1 h2
    simp [fillK]
theorem fillK_done (f : Nat → Int) (M : Nat) : fillK f M M = fillA f M := by
  unfold fillK fillA
  refine List.map_congr_left fun i hi => ?_
  rw [if_pos (List.mem_range.1 hi)]
theorem fillK_len (f : Nat → Int) (M j : Nat) : (fillK f M j).length = M := by simp [fillK]
theorem fillA_len (f : Nat → Int) (M : Nat) : (fillA f M).length = M := by simp [fillA]
theorem fillA_get (f : Nat → Int) {M j : Nat} (h : j < M) : (fillA f M).getD j 0 = f j := by simp [fillA, List.getD, h]
theorem fillA_snoc (f : Nat → Int) (M : Nat) : fillA f (M + 1) = fillA f M ++ [f M] := by simp [fillA, List.range_succ]
theorem fillK_set (f : Nat → Int) (M j : Nat) : (fillK f M j).set j (f j) = fillK f M (j + 1) := by
  apply List.ext_getElem
  · simp [fillK]
  · intro p h1 h2
    rw [List.getElem_set]
    by_cases e : j = p
    · subst e; simp [fillK]
    · rw [if_neg e]
      simp only [fillK, List.getElem_map, List.getElem_range]
      by_cases h : p < j
      · rw [if_pos h, if_pos (by omega)]
      · rw [if_neg h, if_neg (by omega)]
/-- The colours of the edges of 0 with 1, 2, .. -/
def fcol (bs : List Nat) (d : Nat) : Int := colAt bs 0 ((d : Int) + 1)
theorem fcol_rng {bs : List Nat} (hb : Bys bs) (M j : Nat) : 0 ≤ (fillA (fcol bs) M).getD j 0 ∧ (fillA (fcol bs) M).getD j 0 < 256 := by
  by_cases h : j < M
  · rw [fillA_get _ h]; exact colAt_bd hb _ _
  · rw [List.getD, List.getElem?_eq_none (by rw [fillA_len]; omega)]; simp
def RelFf (bs : List Nat) (M : Nat) (C : Array Value) (w : World) (j : Nat) (wr : World) : Prop := Blk wr w.heap.size C 28 ∧ Blk wr (w.heap.size + 1) (icells (fillK (fcol bs) M j)).toArray 2 ∧ Below w.heap.size w wr
/-- The list of a circular colouring. -/
def lcL (N : Nat) (bs : List Nat) : List Int := fillA (fcol bs) (N / 2)
theorem ownL_base {w : World} {B B' : Nat} {a : Option Addr} {zs : List Int} (h : OwnL w B a zs) (hB : B' ≤ B) : OwnL w B' a zs := by
  rcases h with h | ⟨g, C, h1, h2⟩
  · exact .inl h
  · exact .inr ⟨g, C, by omega, h2⟩
theorem lcL_len (N : Nat) (bs : List Nat) : (lcL N bs).length = N / 2 := fillA_len _ _
/-- The colouring that the list tells. -/
def lcP (N : Nat) (bs : List Nat) : List Nat := paintB N (fun lo hi => (lcL N bs).getD (dst N lo hi - 1) 0)
theorem lcP_bys {bs : List Nat} (hb : Bys bs) (N : Nat) : Bys (lcP N bs) := paintB_bys fun lo hi => fcol_rng hb _ _
def circB (N : Nat) (bs : List Nat) : Bool := decide (2 ≤ N) && (lcP N bs == bs)
def lcCode (n k : Int) (bs : List Nat) : Int := if isCol n k bs = true then (if circB n.toNat bs = true then 0 else 5) else 1
def lcList (n k : Int) (bs : List Nat) : List Int := if lcCode n k bs = 0 then lcL n.toNat bs else []
theorem lc_1 {n k : Int} {bs : List Nat} (h : isCol n k bs = false) : lcList n k bs = [] ∧ lcCode n k bs = 1 := by
  have e : lcCode n k bs = 1 := by simp [lcCode, h]
  exact ⟨by simp [lcList, e], e⟩
theorem lc_5 {n k : Int} {bs : List Nat} (h : isCol n k bs = true) (h2 : circB n.toNat bs = false) : lcList n k bs = [] ∧ lcCode n k bs = 5 := by
  have e : lcCode n k bs = 5 := by simp [lcCode, h, h2]
  exact ⟨by simp [lcList, e], e⟩
theorem lc_0 {n k : Int} {bs : List Nat} (h : isCol n k bs = true) (h2 : circB n.toNat bs = true) : lcList n k bs = lcL n.toNat bs ∧ lcCode n k bs = 0 := by
  have e : lcCode n k bs = 0 := by simp [lcCode, h, h2]
  exact ⟨by simp [lcList, e], e⟩
theorem lcList_len {n k : Int} {bs : List Nat} : (lcList n k bs).length ≤ 17 := by
  cases h : isCol n k bs with
  | false => rw [(lc_1 h).1]; simp
  | true =>
    have := isCol_bd h
    cases h2 : circB n.toNat bs with
    | false => rw [(lc_5 h h2).1]; simp
    | true => rw [(lc_0 h h2).1, lcL_len]; omega
end Go.Proofs.YtckffliiidgilaaDoor
