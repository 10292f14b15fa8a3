/- ColouringOf: the program and its model. -/
import Derived.Test.YtikcmgmgdbbcfaaPaint
import Derived.Test.YtikcmgmgdbbcfaaPutPoint
namespace Go.Proofs.Ytikcmgmgdbbcfaa
set_option linter.unusedVariables false
set_option linter.unusedSimpArgs false
open Go Go.RowKit Go.Shelf
def coCode (n k : Int) (zs : List Int) : Int := if shapeB n k = true ∧ (zs.length : Int) = edg n ∧ allB zs k = true then 0 else 2
def coN (n k : Int) (zs : List Int) : Int := if coCode n k zs = 0 then n else 0
def coK (n k : Int) (zs : List Int) : Int := if coCode n k zs = 0 then k else 0
def coB (n k : Int) (zs : List Int) : List Nat := if coCode n k zs = 0 then putK zbl 0 zs zs.length else zbl
/-- What ColouringOf returns. -/
def coOut (n k : Int) (zs : List Int) : Value := .tuple #[.agg (ccells (coN n k zs) (coK n k zs) (coB n k zs)).toArray, .int .i64 (coCode n k zs)]
theorem coOut_bad {n k : Int} {zs : List Int} (h : ¬ (shapeB n k = true ∧ (zs.length : Int) = edg n ∧ allB zs k = true)) : coOut n k zs = .tuple #[.agg (ccells 0 0 zbl).toArray, .int .i64 2] := by
  have e : coCode n k zs = 2 := if_neg h
  simp [coOut, coN, coK, coB, e]
theorem coOut_good {n k : Int} {zs : List Int} (h : shapeB n k = true ∧ (zs.length : Int) = edg n ∧ allB zs k = true) : coOut n k zs = .tuple #[.agg (ccells n k (putK zbl 0 zs zs.length)).toArray, .int .i64 0] := by
  have e : coCode n k zs = 0 := if_pos h
  simp [coOut, coN, coK, coB, e]
theorem all_lt {zs : List Int} {k : Int} (h : allB zs k = true) (hk : k ≤ 4) : ∀ j, j < zs.length → 0 ≤ zs.getD j 0 ∧ zs.getD j 0 < 256 := fun j hj => by have := allB_get h hj; omega
theorem coB_bys (n k : Int) (zs : List Int) : Bys (coB n k zs) := by
  unfold coB
  split
  · rename_i h
    unfold coCode at h
    split at h
    · rename_i h2
      exact putK_bys zbl_bys 0 (all_lt h2.2.2 (shape_bd h2.1).2.2.2) _ (Nat.le_refl _)
    · omega
  · exact zbl_bys
theorem putK_range (zs : List Int) : ∀ m, putK zbl 0 zs m = (List.range m).foldl (fun b j => b.set j (zs.getD j 0).toNat) zbl
  | 0 => rfl
  | m + 1 => by rw [List.range_succ, List.foldl_append, ← putK_range zs m, putK, Nat.zero_add]; rfl
theorem eseq_mem {h : Nat} {t : Nat × Nat × Nat} (ht : t ∈ eseq h) : t.1 = eN t.2.2 + t.2.1 := by
  induction h with
  | zero => simp [eseq] at ht
  | succ h ih =>
    rw [eseq, List.mem_append] at ht
    rcases ht with ht | ht
    · exact ih ht
    · simp only [rowE, List.mem_map] at ht
      obtain ⟨m, _, rfl⟩ := ht
      rfl
theorem foldl_congr {α β : Type} {f g : β → α → β} : ∀ (l : List α) (b : β), (∀ x ∈ l, ∀ b, f b x = g b x) → l.foldl f b = l.foldl g b
  | [], _, _ => rfl
  | x :: l, b, h => by
    rw [List.foldl_cons, List.foldl_cons, h x (by simp) b]
    exact foldl_congr l _ (fun y hy => h y (by simp [hy]))
theorem paint_list (N : Nat) (zs : List Int) : paintB N (fun lo hi => zs.getD (eN hi + lo) 0) = putK zbl 0 zs (eN N) := by
  rw [putK_range, ← eseq_nums, List.foldl_map]
  unfold paintB
  exact foldl_congr _ _ (fun t ht b => by show b.set t.1 (zs.getD (eN t.2.2 + t.2.1) 0).toNat = _; rw [← eseq_mem ht])
theorem len_eN {N : Nat} {zs : List Int} (h : (zs.length : Int) = edg (N : Int)) : zs.length = eN N := by rw [← eN_edg] at h; omega
def Rel18 (n k : Int) (zs : List Int) (a : Option Addr) (w : World) (j : Nat) (wr : World) : Prop :=
  Blk wr w.heap.size (ccells 0 0 zbl).toArray 25 ∧ Blk wr (w.heap.size + 1) (ccells n k (putK zbl 0 zs j)).toArray 25 ∧ SlI wr a zs ∧ Below w.heap.size w wr
end Go.Proofs.Ytikcmgmgdbbcfaa
