/- PartOn: its model. -/
import Derived.Test.YtikcmgmgdbbcfaaPart
import Derived.Test.YtikcmgmgdbbcfaaTail
namespace Go.Proofs.Ytikcmgmgdbbcfaa
set_option linter.unusedVariables false
set_option linter.unusedSimpArgs false
open Go Go.RowKit Go.Shelf
def ptB (r : Nat → Nat → Int) (j i : Nat) : List Nat := (eseq j ++ rowE j i).foldl (fun b t => b.set t.1 (r t.2.1 t.2.2).toNat) zbl
theorem ptB_step (r : Nat → Nat → Int) (j i : Nat) : ptB r j (i + 1) = (ptB r j i).set (eN j + i) (r i j).toNat := by
  unfold ptB
  rw [rowE_succ, ← List.append_assoc, List.foldl_append]
  rfl
theorem ptB_row (r : Nat → Nat → Int) (j : Nat) : ptB r j j = ptB r (j + 1) 0 := by
  unfold ptB
  simp [eseq, rowE]
theorem ptB_done (r : Nat → Nat → Int) (j : Nat) : ptB r j 0 = paintB j r := by
  unfold ptB paintB
  simp [rowE]
theorem ptB_bys {r : Nat → Nat → Int} (hr : ∀ lo hi, 0 ≤ r lo hi ∧ r lo hi < 256) (j i : Nat) : Bys (ptB r j i) := by
  unfold ptB
  suffices h : ∀ (l : List (Nat × Nat × Nat)) b, Bys b → Bys (l.foldl (fun b t => b.set t.1 (r t.2.1 t.2.2).toNat) b) from h _ _ zbl_bys
  intro l
  induction l with
  | nil => intro b hb; exact hb
  | cons x l ih => intro b hb; exact ih _ (hb.set _ _ (by have := hr x.2.1 x.2.2; omega))
def RelPp (n k : Int) (bs : List Nat) (zs : List Int) (a : Option Addr) (r : Nat → Nat → Int) (w : World) (j i : Nat) (wr : World) : Prop :=
  Blk wr w.heap.size (ccells n k bs).toArray 25 ∧ Blk wr (w.heap.size + 1) (ccells 0 0 zbl).toArray 25 ∧ Blk wr (w.heap.size + 1 + 1) (ccells (zs.length : Int) k (ptB r j i)).toArray 25 ∧ SlI wr a zs ∧ Below w.heap.size w wr
theorem quietRow {P : Program} {C : World → Prop} {o : Oper} {a : Act} {w : World} (ty : TypeId) (x : Operand) (ho : o.op = .load ty x)
    (g : Nat) (hx : a.eval x = .pointer (some ⟨g, 0, none⟩)) (t : TypeId) (cs : Array Value) (d : TypeDesc) (hg : Blk w g cs t)
    (hu : P.underlying ty = some d) (hd : (match d with | .struct _ | .array _ _ => true | _ => false) = true) (hi : (P.info? ty).map (·.size) = some cs.size) : o.quietAt P a C w (.agg cs) := by
  unfold Oper.quietAt execOp
  simp only [ho, hx, Instr.loadAt, Instr.sureAddr, Sem.run_bind, Sem.run_pure, Result.andThen_ok, run_loadVar_row w g t ty cs (0, 0) d hg hu hd hi]
  exact ⟨rfl, rfl⟩
end Go.Proofs.Ytikcmgmgdbbcfaa
