/- CountEdges: the program and its model. -/
import Derived.Test.YtikcmgmgdbbcfaaFence
import Derived.Shelf.RegionOpen
namespace Go.Proofs.Ytikcmgmgdbbcfaa
set_option linter.unusedVariables false
set_option linter.unusedSimpArgs false
open Go Go.RowKit Go.Shelf
attribute [local go_sem] Oper.semAt_some
/-- The numbers of the edges of each colour, over the first j edges. -/
def cntL (K : Nat) (bs : List Nat) : Nat → List Int
  | 0 => List.replicate K 0
  | j + 1 => (cntL K bs j).set (bs.getD j 0) ((cntL K bs j).getD (bs.getD j 0) 0 + 1)
theorem cntL_len (K : Nat) (bs : List Nat) : ∀ j, (cntL K bs j).length = K
  | 0 => by simp [cntL]
  | j + 1 => by rw [cntL, List.length_set, cntL_len K bs j]
theorem cntL_bd (K : Nat) (bs : List Nat) : ∀ j c, 0 ≤ (cntL K bs j).getD c 0 ∧ (cntL K bs j).getD c 0 ≤ j
  | 0, c => by
    rw [cntL, List.getD_eq_getElem?_getD, List.getElem?_replicate]
    split <;> simp
  | j + 1, c => by
    have h1 := cntL_bd K bs j c
    have h2 := cntL_bd K bs j (bs.getD j 0)
    rw [cntL]
    simp only [List.getD_eq_getElem?_getD] at *
    rw [List.getElem?_set]
    split
    · split
      · simp; omega
      · simp; omega
    · omega
theorem zrow_icells (K : Nat) : zrow K = (icells (List.replicate K 0)).toArray := by
  apply Array.ext'
  rw [zrow, toList_madeCells_one]
  simp [icells]
theorem icells_set (zs : List Int) (c : Nat) (v : Int) : (icells zs).toArray.setIfInBounds c (.int .i64 v) = (icells (zs.set c v)).toArray := by
  simp [icells, List.map_set]
def ceCode (n k : Int) (bs : List Nat) : Int := if isCol n k bs then 0 else 1
def ceList (n k : Int) (bs : List Nat) : List Int := if isCol n k bs then cntL k.toNat bs (eN n.toNat) else []
theorem ceList_len {n k : Int} {bs : List Nat} : (ceList n k bs).length ≤ 17 := by
  unfold ceList
  split
  · rename_i h
    have := isCol_bd h
    rw [cntL_len]; omega
  · simp
theorem col_lt {n k : Int} {bs : List Nat} (h : isCol n k bs = true) {j : Nat} (hj : (j : Int) < edg n) (hj2 : j < 136) : ((bs.getD j 0 : Nat) : Int) < k := by
  have h1 := (isCol_good h).2 j hj2
  unfold goodAt at h1
  rw [if_pos hj] at h1
  exact of_decide_eq_true h1
/-- The numbers of the edges of each colour, over edges that have come. -/
def cntF {N : Nat} (K : Nat) (bs : List Nat) (xs : List (Edg N)) : List Int := xs.foldl (fun L x => L.set (bs.getD x.1.1 0) (L.getD (bs.getD x.1.1 0) 0 + 1)) (List.replicate K 0)
theorem cntF_snoc {N : Nat} (K : Nat) (bs : List Nat) (xs : List (Edg N)) (x : Edg N) : cntF K bs (xs ++ [x]) = (cntF K bs xs).set (bs.getD x.1.1 0) ((cntF K bs xs).getD (bs.getD x.1.1 0) 0 + 1) := by simp [cntF]
theorem cntF_len {N : Nat} (K : Nat) (bs : List Nat) (xs : List (Edg N)) : (cntF K bs xs).length = K := by
  unfold cntF
  suffices h : ∀ (L : List Int), (xs.foldl (fun L x => L.set (bs.getD x.1.1 0) (L.getD (bs.getD x.1.1 0) 0 + 1)) L).length = L.length by rw [h]; simp
  induction xs with
  | nil => intro L; rfl
  | cons x xs ih => intro L; rw [List.foldl_cons, ih]; simp
theorem eseq_nums (h : Nat) : (eseq h).map (·.1) = List.range (eN h) := by
  induction h with
  | zero => rfl
  | succ h ih =>
    rw [eseq, List.map_append, ih, eN, List.range_add]
    simp [rowE]
theorem cntF_eq {N : Nat} (K : Nat) (bs : List Nat) (xs : List (Edg N)) (h : xs.map Edg.v = eseq N) : cntF K bs xs = cntL K bs (eN N) := by
  have h1 : xs.map (fun x => x.1.1) = List.range (eN N) := by
    rw [← eseq_nums, ← h, List.map_map]; rfl
  have h2 : cntF K bs xs = (xs.map (fun x => x.1.1)).foldl (fun L j => L.set (bs.getD j 0) (L.getD (bs.getD j 0) 0 + 1)) (List.replicate K 0) := by
    rw [List.foldl_map]; rfl
  rw [h2, h1]
  generalize eN N = m
  induction m with
  | zero => rfl
  | succ m ih => rw [List.range_succ, List.foldl_append, ih]; rfl
theorem cntF_bd {N : Nat} (K : Nat) (bs : List Nat) (xs : List (Edg N)) : ∀ c, 0 ≤ (cntF K bs xs).getD c 0 ∧ (cntF K bs xs).getD c 0 ≤ xs.length := by
  suffices h : ∀ (ys : List (Edg N)) c, 0 ≤ (cntF K bs ys.reverse).getD c 0 ∧ (cntF K bs ys.reverse).getD c 0 ≤ ys.length by
    intro c
    have := h xs.reverse c
    simpa using this
  intro ys
  induction ys with
  | nil =>
    intro c
    rw [show cntF K bs ([] : List (Edg N)).reverse = List.replicate K 0 from rfl, List.getD_eq_getElem?_getD, List.getElem?_replicate]
    split <;> simp
  | cons y ys ih =>
    intro c
    have h1 := ih c
    have h2 := ih (bs.getD y.1.1 0)
    rw [List.reverse_cons, cntF_snoc]
    simp only [List.getD_eq_getElem?_getD, List.length_cons] at *
    rw [List.getElem?_set]
    split
    · split
      · simp; omega
      · simp; omega
    · omega
theorem ko_drew (W : World) : KeepsOthers W W.drew := ⟨Nat.le_refl _, fun _ _ h _ => h⟩
theorem blk_own {B b : Nat} {W W' : World} {C : Array Value} {t : TypeId} {row : Option Nat} (h : Blk W b C t) (hg : W.grownBy W' row) (hr : ∀ r, row = some r → B ≤ r ∧ ∃ o : Obj, W.heap[r]? = some o ∧ o.isCells = false) : Blk W' b C t := by
  refine (hg.block b h.lt (fun e => ?_)).trans h
  obtain ⟨_, o, ho, hc⟩ := hr b e.symm
  rw [show W.heap[b]? = _ from h] at ho
  cases ho; cases hc
def Rel33 (C : Array Value) (K : Nat) (bs : List Nat) (w : World) (j : Nat) (wr : World) : Prop := Blk wr w.heap.size C 25 ∧ (∃ b, w.heap.size < b ∧ b = w.heap.size + 1 ∧ True) ∧ Below w.heap.size w wr
/-- A list in a block of its own, handed back. -/
theorem own_blk {w : World} {b : Nat} {zs : List Int} {B : Nat} (h : Blk w b (icells zs).toArray 2) (hB : B ≤ b) : OwnL w B (some ⟨b, 0, none⟩) zs :=
  .inr ⟨b, _, hB, rfl, h, by simp [icells_len], fun j hj => icells_get hj⟩
def RelC (n : Int) (k : Int) (bs : List Nat) (g : Nat) (w : World) (j : Nat) (wr : World) : Prop := Blk wr w.heap.size (ccells n k bs).toArray 25 ∧ Blk wr g (icells (cntL k.toNat bs j)).toArray 2 ∧ Below w.heap.size w wr
end Go.Proofs.Ytikcmgmgdbbcfaa
