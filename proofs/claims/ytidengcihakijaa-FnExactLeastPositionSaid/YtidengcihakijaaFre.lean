/- Free edges: the model's list of them. -/
import Derived.Test.YtidengcihakijaaEnt
namespace Go.Proofs.Ytidengcihakijaa
set_option linter.unusedVariables false
set_option linter.unusedSimpArgs false
open Go Go.RowKit Go.Shelf
def LOne (w : World) (zs : List Int) (e : Ending) (w' : World) : Prop :=
  ∃ a cap, e = .returned (.slice a zs.length cap) ∧ OwnL w' w.heap.size a zs ∧ Below w.heap.size w w'
/-- A list under way: what has been laid, the list that is read. -/
def RelLa (zs : List Int) (a : Option Addr) (w : World) (xs : List Int) (v : Value) (wr : World) : Prop :=
  wr.ownsRow w.heap.size 2 1 v xs.length (icells xs) ∧ SlI wr a zs ∧ Below w.heap.size w wr
theorem RelLa.step {zs : List Int} {a : Option Addr} {w : World} {xs : List Int} {v : Value} {wr : World} (h : RelLa zs a w xs v wr) (hs : SlI w a zs) {y : Int} {o : Obj} {v' : Value} {w2 : World}
    (hown' : w2.ownsRow w.heap.size 2 1 v' (xs.length + 1) (icells xs ++ [.int .i64 y])) (hg : (wr.alloc o).grownBy w2 v.ownBlock) : RelLa zs a w (xs ++ [y]) v' w2 := by
  have hb := h.2.2.trans ((grown_step h.1 hg h.2.2.size).mono (Nat.le_refl _))
  refine ⟨?_, hs.below hb (Nat.le_refl _), hb⟩
  rw [icells_app, List.length_append]; exact hown'
theorem empty_own (w : World) : (w.alloc (.cells #[] 2)).ownsRow w.heap.size 2 1 (.slice (some ⟨w.heap.size, 0, none⟩) 0 0) 0 (icells []) :=
  ⟨rfl, .inr ⟨w.heap.size, 0, #[], rfl, Nat.le_refl _, Blk.new _ _ _ _ rfl, Nat.le_refl _, by simp [maxLen], rfl, rfl⟩⟩
/-- Is the edge j free? -/
def frB (zs : List Int) (j : Nat) : Bool := decide (zs.getD j 0 < 0)
theorem nbK_put {p : Nat → Bool} {k : Nat} (h : p k = true) : nbK p (k + 1) = nbK p k ++ [(k : Int)] := by rw [nbK, if_pos h]
theorem nbK_not {p : Nat → Bool} {k : Nat} (h : p k = false) : nbK p (k + 1) = nbK p k := by rw [nbK, if_neg (by simp [h])]
/-- Free edges and both players' make up all. -/
theorem free_cnt {zs : List Int} (h : allW zs = true) : ∀ k, k ≤ zs.length → (nbK (frB zs) k).length + cnt (pw 0 zs) k + cnt (pw 1 zs) k = k
  | 0, _ => by simp [nbK, cnt]
  | k + 1, hk => by
    have ih := free_cnt h k (by omega)
    have hz := allW_get h (show k < zs.length by omega)
    rcases (show zs.getD k 0 = -1 ∨ zs.getD k 0 = 0 ∨ zs.getD k 0 = 1 by omega) with e | e | e
    · rw [nbK_put (show frB zs k = true by unfold frB; rw [e]; rfl), cnt_not (by rw [e]; decide), cnt_not (by rw [e]; decide), List.length_append]; simp; omega
    · rw [nbK_not (show frB zs k = false by unfold frB; rw [e]; rfl), cnt_put e, cnt_not (by rw [e]; decide)]; omega
    · rw [nbK_not (show frB zs k = false by unfold frB; rw [e]; rfl), cnt_not (by rw [e]; decide), cnt_put e]; omega
/-- Who wins: 2 if nobody does, -1 if it is not over. -/
def rsl (N : Nat) (zs : List Int) : Int := if (triK (1 - mvr zs) zs N).isEmpty = true then (if (nbK (frB zs) zs.length).isEmpty = true then 2 else -1) else mvr zs
theorem rsl_m {N : Nat} {zs : List Int} (h : (triK (1 - mvr zs) zs N).isEmpty = false) : rsl N zs = mvr zs := by unfold rsl; rw [if_neg (by simp [h])]
theorem rsl_2 {N : Nat} {zs : List Int} (h : (triK (1 - mvr zs) zs N).isEmpty = true) (h2 : (nbK (frB zs) zs.length).isEmpty = true) : rsl N zs = 2 := by unfold rsl; rw [if_pos h, if_pos h2]
theorem rsl_n {N : Nat} {zs : List Int} (h : (triK (1 - mvr zs) zs N).isEmpty = true) (h2 : (nbK (frB zs) zs.length).isEmpty = false) : rsl N zs = -1 := by unfold rsl; rw [if_pos h, if_neg (by simp [h2])]
theorem len_pos {l : List Nat} (h : l.isEmpty = false) : 0 < l.length := by
  cases l with
  | nil => cases h
  | cons x l => simp
theorem len_nil {l : List Nat} (h : l.isEmpty = true) : l.length = 0 := by
  cases l with
  | nil => rfl
  | cons x l => cases h
theorem len_zero (l : List Int) : ((l.length : Int) == 0) = l.isEmpty := by
  cases l with
  | nil => rfl
  | cons x l => rw [List.isEmpty_cons, List.length_cons, beq_eq_false_iff_ne]; omega
end Go.Proofs.Ytidengcihakijaa
