/- PartOn: the program's own text. -/
import Derived.Test.YtikcmgmgdbbcfaaSet
import Derived.StillTailTactics
namespace Go.Proofs.Ytikcmgmgdbbcfaa
set_option linter.unusedVariables false
set_option linter.unusedSimpArgs false
open Go Go.RowKit Go.Shelf
/-- The load of a whole row in a region that draws its order. -/
theorem stillRow {P : Program} {ops : Array Oper} {rest : List Oper} {o : Oper} {a : Act} {w : World} {Q : Act → Prop} (hw : Region.wanted o (yielded ops a.tmps) = true) (ty : TypeId) (x : Operand) (ho : o.op = .load ty x)
    (g : Nat) (hx : a.eval x = .pointer (some ⟨g, 0, none⟩)) (t : TypeId) (cs : Array Value) (d : TypeDesc) (hg : Blk w g cs t)
    (hu : P.underlying ty = some d) (hd : (match d with | .struct _ | .array _ _ => true | _ => false) = true) (hi : (P.info? ty).map (·.size) = some cs.size)
    (h : wpStill P ops w Q rest (a.put o.dst (.agg cs))) : wpStill P ops w Q (o :: rest) a := by
  refine wpStill_step fun K hK => ?_
  rw [if_pos hw]
  unfold Oper.still execOp
  simp only [ho, hx, Instr.loadAt, Instr.sureAddr, Sem.run_bind, Sem.run_pure, Result.andThen_ok, run_loadVar_row w g t ty cs (0, 0) d hg hu hd hi]
  rw [Oper.stillUpon_value]
  exact hK _ h
theorem set_get {zs : List Int} {n : Int} (h : setB zs n = true) : (∀ i, i < zs.length → 0 ≤ zs.getD i 0 ∧ zs.getD i 0 < n) ∧ ∀ i, i + 1 < zs.length → zs.getD i 0 < zs.getD (i + 1) 0 := by
  unfold setB at h
  rw [Bool.and_eq_true] at h
  refine ⟨fun i hi => allB_get h.2 hi, fun i hi => ?_⟩
  have := of_decide_eq_true h.1
  exact this i (by omega) hi
theorem set_up {zs : List Int} {n : Int} (h : setB zs n = true) {i : Nat} : ∀ d, i + d < zs.length → zs.getD i 0 + d ≤ zs.getD (i + d) 0
  | 0, _ => by simp
  | d + 1, hd => by
    have h1 := set_up h (i := i) d (by omega)
    have h2 := (set_get h).2 (i + d) (by omega)
    rw [← Nat.add_assoc]; omega
theorem set_len {zs : List Int} {n : Int} (h : setB zs n = true) (hn : 0 ≤ n) : (zs.length : Int) ≤ n := by
  by_cases h0 : zs.length = 0
  · omega
  · have h1 := set_up h (i := 0) (zs.length - 1) (by omega)
    have h2 := (set_get h).1 (zs.length - 1) (by omega)
    have h3 := (set_get h).1 0 (by omega)
    rw [Nat.zero_add] at h1
    omega
def poCode (n k : Int) (bs : List Nat) (zs : List Int) : Int := if isCol n k bs = true then (if zs.length ≠ 0 ∧ setB zs n = true then 0 else 2) else 1
def poN (n k : Int) (bs : List Nat) (zs : List Int) : Int := if poCode n k bs zs = 0 then (zs.length : Int) else 0
def poK (n k : Int) (bs : List Nat) (zs : List Int) : Int := if poCode n k bs zs = 0 then k else 0
def poB (n k : Int) (bs : List Nat) (zs : List Int) : List Nat := if poCode n k bs zs = 0 then paintB zs.length (fun lo hi => colAt bs (zs.getD lo 0) (zs.getD hi 0)) else zbl
/-- What PartOn returns. -/
def poOut (n k : Int) (bs : List Nat) (zs : List Int) : Value := .tuple #[.agg (ccells (poN n k bs zs) (poK n k bs zs) (poB n k bs zs)).toArray, .int .i64 (poCode n k bs zs)]
theorem poOut_bad {n k : Int} {bs : List Nat} {zs : List Int} {m : Int} (h : poCode n k bs zs = m) (hm : m ≠ 0) : poOut n k bs zs = .tuple #[.agg (ccells 0 0 zbl).toArray, .int .i64 m] := by
  simp [poOut, poN, poK, poB, h, hm]
theorem poOut_good {n k : Int} {bs : List Nat} {zs : List Int} (h : poCode n k bs zs = 0) : poOut n k bs zs = .tuple #[.agg (ccells (zs.length : Int) k (paintB zs.length (fun lo hi => colAt bs (zs.getD lo 0) (zs.getD hi 0)))).toArray, .int .i64 0] := by
  simp [poOut, poN, poK, poB, h]
theorem poCode_1 {n k : Int} {bs : List Nat} {zs : List Int} (h : isCol n k bs = false) : poCode n k bs zs = 1 := by simp [poCode, h]
theorem poCode_2 {n k : Int} {bs : List Nat} {zs : List Int} (h : isCol n k bs = true) (h2 : ¬ (zs.length ≠ 0 ∧ setB zs n = true)) : poCode n k bs zs = 2 := by unfold poCode; rw [if_pos h, if_neg h2]
theorem poCode_0 {n k : Int} {bs : List Nat} {zs : List Int} (h : isCol n k bs = true) (h2 : zs.length ≠ 0 ∧ setB zs n = true) : poCode n k bs zs = 0 := by unfold poCode; rw [if_pos h, if_pos h2]
theorem paintB_bys {N : Nat} {r : Nat → Nat → Int} (hr : ∀ lo hi, 0 ≤ r lo hi ∧ r lo hi < 256) : Bys (paintB N r) := by
  unfold paintB
  suffices h : ∀ (l : List (Nat × Nat × Nat)) b, Bys b → Bys (l.foldl (fun b t => b.set t.1 (r t.2.1 t.2.2).toNat) b) from h _ _ zbl_bys
  intro l
  induction l with
  | nil => intro b hb; exact hb
  | cons x l ih => intro b hb; exact ih _ (hb.set _ _ (by have := hr x.2.1 x.2.2; omega))
end Go.Proofs.Ytikcmgmgdbbcfaa
