/- My texts Gd, Gf, Cnt, Count, Cliques, CqM, CountIm, in one. -/
import Derived.Test.YtkiocedhibeieaaDoorHb
import Derived.Test.YtkiocedhibeieaaDoorHa
import Derived.RangeFuncBox
import Derived.RangeFuncLeaves
import Derived.OwnWalkIn
import Derived.TacticsInMore
import Derived.Sort.OwnSortedInts
import Derived.Test.YtkiocedhibeieaaDoorHc
/- My texts Seq, Collect, Lay, Sort, Order, OrderMo, Exch, Ren, RenSp, RenIm, in one. -/
/- slices.Values, slices.Collect: a list handed on as a function, and gathered again. -/
namespace Go.Proofs.YtkiocedhibeieaaDoor
set_option linter.unusedVariables false
set_option linter.unusedSimpArgs false
open Go Go.RowKit Go.Shelf
/-- A list that lies below a bound. -/
def SlB (B : Nat) (w : World) (a : Option Addr) (zs : List Int) : Prop := zs = [] ∨ ∃ b off, a = some ⟨b, off, none⟩ ∧ b < B ∧ ∀ j, j < zs.length → w.cell? ⟨b, off + j, none⟩ = some (.int .i64 (zs.getD j 0))
theorem SlB.below {B : Nat} {w w' : World} {a : Option Addr} {zs : List Int} (h : SlB B w a zs) (hb : Below B w w') : SlB B w' a zs := by
  rcases h with h | ⟨b, off, ha, hlt, hc⟩
  · exact .inl h
  · exact .inr ⟨b, off, ha, hlt, fun j hj => (hb.cell (p := ⟨b, off + j, none⟩) hlt).trans (hc j hj)⟩
theorem SlI.toB {w : World} {a : Option Addr} {zs : List Int} (h : SlI w a zs) : SlB w.heap.size w a zs := by
  rcases h with h | ⟨b, off, ha, hc⟩
  · exact .inl h
  · by_cases h0 : zs.length = 0
    · exact .inl (List.length_eq_zero_iff.1 h0)
    · exact .inr ⟨b, off, ha, block_lt_of_cell (hc 0 (by omega)), hc⟩
end Go.Proofs.YtkiocedhibeieaaDoor
/- slices.AppendSeq and slices.Collect of a list's values: a list of the call's own that holds the same numbers. -/
namespace Go.Proofs.YtkiocedhibeieaaDoor
set_option linter.unusedVariables false
set_option linter.unusedSimpArgs false
open Go Go.RowKit Go.Shelf
attribute [local go_sem] Oper.semAt_some
end Go.Proofs.YtkiocedhibeieaaDoor
/- slices.Sort at []int64: the library's contract, at this program. -/
namespace Go.Proofs.YtkiocedhibeieaaDoor
set_option linter.unusedVariables false
set_option linter.unusedSimpArgs false
open Go Go.RowKit Go.Shelf Go.Proofs
def rhoS : Ren := ⟨fun x => match x with | 5 => 116 | 7 => 121 | 8 => 122 | 10 => 123 | 11 => 124 | 12 => 125 | 13 => 126 | 14 => 127 | 15 => 128 | 16 => 129 | 17 => 130 | 18 => 131 | 19 => 119 | 20 => 132 | 30 => 133 | 31 => 134 | 24 => 135 | 33 => 136 | 34 => 137 | 35 => 138 | 40 => 139 | _ => x, fun x => match x with | 0 => 0 | 3 => 3 | 4 => 4 | 5 => 5 | 9 => 9 | 25 => 25 | 22 => 25 | 28 => 2 | 24 => 111 | 35 => 117 | 36 => 118 | 41 => 122 | 44 => 82 | 46 => 55 | 53 => 125 | 71 => 129 | 63 => 131 | 64 => 132 | _ => x, fun x => x⟩
end Go.Proofs.YtkiocedhibeieaaDoor
/- slices.Sorted(slices.Values(list)): a list of the call's own that holds the numbers in order. -/
namespace Go.Proofs.YtkiocedhibeieaaDoor
set_option linter.unusedVariables false
set_option linter.unusedSimpArgs false
open Go Go.RowKit Go.Shelf Go.Proofs Go.Sort
def srt (zs : List Int) : List Int := zs.mergeSort fun x y => decide (x ≤ y)
theorem srt_len (zs : List Int) : (srt zs).length = zs.length := List.length_mergeSort zs
end Go.Proofs.YtkiocedhibeieaaDoor
/- Orders: the program's test. -/
namespace Go.Proofs.YtkiocedhibeieaaDoor
set_option linter.unusedVariables false
set_option linter.unusedSimpArgs false
open Go Go.RowKit Go.Shelf
/-- All numbers below n, each once. -/
def ordB (zs : List Int) (n : Int) : Bool := decide ((zs.length : Int) = n) && (allB zs n && decide zs.Nodup)
theorem srt_perm (zs : List Int) : (srt zs).Perm zs := List.mergeSort_perm zs _
theorem srt_pair (zs : List Int) : (srt zs).Pairwise (· ≤ ·) := by
  have h := List.pairwise_mergeSort (le := fun (x y : Int) => decide (x ≤ y)) (fun a b c h1 h2 => by simp at *; omega) (fun a b => by simp; omega) zs
  exact h.imp fun h => by simpa using h
theorem allB_mem {zs : List Int} {n : Int} : allB zs n = true ↔ ∀ z ∈ zs, belowB z n = true := by
  unfold allB; exact List.all_eq_true
theorem pair_asc {zs : List Int} (h : zs.Pairwise (· < ·)) : ascB zs = true := by
  refine ascB_yes (m := zs.length) (fun i _ hi => ?_) (by omega)
  have := List.pairwise_iff_getElem.1 h i (i + 1) (by omega) hi (by omega)
  simpa [List.getD, List.getElem?_eq_getElem (show i < zs.length by omega), List.getElem?_eq_getElem hi] using this
theorem srt_set (zs : List Int) (n : Int) : setB (srt zs) n = (allB zs n && decide zs.Nodup) := by
  have hall : allB (srt zs) n = allB zs n := by
    rw [Bool.eq_iff_iff, allB_mem, allB_mem]
    exact ⟨fun h z hz => h z ((srt_perm zs).mem_iff.2 hz), fun h z hz => h z ((srt_perm zs).mem_iff.1 hz)⟩
  cases ha : allB zs n with
  | false => unfold setB; rw [hall, ha, Bool.and_false]; rfl
  | true =>
    rw [Bool.true_and, Bool.eq_iff_iff, decide_eq_true_iff]
    constructor
    · intro h
      have hp := set_pair h
      have : (srt zs).Nodup := hp.imp fun h e => by omega
      exact (srt_perm zs).nodup_iff.1 this
    · intro h
      have hn : (srt zs).Nodup := (srt_perm zs).nodup_iff.2 h
      have hp : (srt zs).Pairwise (· < ·) := by
        have := List.Pairwise.and (srt_pair zs) hn
        exact this.imp fun h => by have h1 := h.1; have h2 := h.2; omega
      unfold setB
      rw [pair_asc hp, hall, ha]; rfl
end Go.Proofs.YtkiocedhibeieaaDoor
/- Orders: the model's test. -/
namespace Go.Proofs.YtkiocedhibeieaaDoor
set_option linter.unusedVariables false
set_option linter.unusedSimpArgs false
open Go Go.RowKit Go.Shelf
theorem info4 : (Tryd.prog.info? 4).map (fun i => (i.zero, i.size, i.bytes)) = some (some (.bool false), 1, 1) := by kernel_rfl
def metC (N : Nat) (zs : List Int) (j : Nat) : Array Value := ((List.range N).map fun q => Value.bool (memB (zs.take j) q)).toArray
theorem metC_get {N : Nat} {zs : List Int} {j q : Nat} (h : q < N) : (metC N zs j)[q]? = some (.bool (memB (zs.take j) q)) := by simp [metC, h]
theorem metC_0 (N : Nat) (zs : List Int) : madeCells #[.bool false] N = metC N zs 0 := by
  apply Array.ext'
  rw [toList_madeCells_one]
  show List.replicate N (Value.bool false) = (List.range N).map fun q => Value.bool (memB (zs.take 0) q)
  apply List.ext_getElem
  · simp
  · intro i h1 h2
    simp [memB]
theorem metC_step {N : Nat} {zs : List Int} {j q : Nat} (hj : j < zs.length) (hq : zs.getD j 0 = (q : Int)) : (metC N zs j).setIfInBounds q (.bool true) = metC N zs (j + 1) := by
  have hg : zs.getD j 0 = zs[j] := by simp [List.getD, List.getElem?_eq_getElem hj]
  apply Array.ext_getElem?
  intro i
  rw [Array.getElem?_setIfInBounds]
  by_cases hi : i < N
  · rw [metC_get hi]
    by_cases e : q = i
    · subst e
      rw [if_pos rfl, if_pos (by simpa [metC] using hi)]
      have : memB (zs.take (j + 1)) q = true := by
        rw [List.take_succ_eq_append_getElem hj]
        exact decide_eq_true (List.mem_append.2 (.inr (List.mem_singleton.2 (by rw [← hg, hq]))))
      rw [metC_get hi, this]
    · simp only [if_neg e, metC_get hi]
      have : memB (zs.take (j + 1)) i = memB (zs.take j) i := by
        rw [List.take_succ_eq_append_getElem hj]
        unfold memB
        congr 1
        simp only [List.mem_append, List.mem_singleton, ← hg, hq, eq_iff_iff]
        constructor
        · rintro (h | h)
          · exact h
          · omega
        · exact fun h => .inl h
      rw [this]
  · have h1 : (metC N zs j)[i]? = none := by rw [Array.getElem?_eq_none_iff]; simp [metC]; omega
    have h2 : (metC N zs (j + 1))[i]? = none := by rw [Array.getElem?_eq_none_iff]; simp [metC]; omega
    rw [h1, h2]
    split
    · rw [if_neg (by simp [metC]; omega)]
    · rfl
def Ord (zs : List Int) (n : Int) (j : Nat) : Prop := (∀ z ∈ zs.take j, belowB z n = true) ∧ (zs.take j).Nodup
theorem Ord.step {zs : List Int} {n : Int} {j : Nat} (h : Ord zs n j) (hj : j < zs.length) (h1 : belowB (zs.getD j 0) n = true) (h2 : ¬ zs.getD j 0 ∈ zs.take j) : Ord zs n (j + 1) := by
  have hg : zs.getD j 0 = zs[j] := by simp [List.getD, List.getElem?_eq_getElem hj]
  unfold Ord
  rw [List.take_succ_eq_append_getElem hj, ← hg]
  refine ⟨fun z hz => ?_, ?_⟩
  · rcases List.mem_append.1 hz with hz | hz
    · exact h.1 z hz
    · rw [List.mem_singleton.1 hz]; exact h1
  · rw [List.nodup_append]
    refine ⟨h.2, by simp, fun a ha b hb e => ?_⟩
    rw [List.mem_singleton.1 hb] at e
    subst e; exact h2 ha
theorem Ord.done {zs : List Int} {n : Int} (h : Ord zs n zs.length) : ordB zs n = decide ((zs.length : Int) = n) := by
  unfold Ord at h
  rw [List.take_length] at h
  unfold ordB
  rw [allB_mem.2 h.1, decide_eq_true h.2]; simp
theorem ord_out {zs : List Int} {n : Int} {j : Nat} (hj : j < zs.length) (h : belowB (zs.getD j 0) n = false) : ordB zs n = false := by
  unfold ordB; rw [allB_no hj h]; simp
theorem ord_twice {zs : List Int} {n : Int} {j : Nat} (hj : j < zs.length) (h : zs.getD j 0 ∈ zs.take j) : ordB zs n = false := by
  have hg : zs.getD j 0 = zs[j] := by simp [List.getD, List.getElem?_eq_getElem hj]
  have hn : ¬ zs.Nodup := fun hn => by
    rw [← List.take_append_drop j zs, List.nodup_append] at hn
    refine hn.2.2 _ h _ ?_ rfl
    rw [hg, List.mem_drop_iff_getElem]
    exact ⟨0, by omega, by simp⟩
  unfold ordB; rw [decide_eq_false hn]; simp
def RelOr (N : Nat) (zs : List Int) (a : Option Addr) (w : World) (j : Nat) (wr : World) : Prop := Blk wr w.heap.size (metC N zs j) 4 ∧ SlI wr a zs ∧ Below w.heap.size w wr
end Go.Proofs.YtkiocedhibeieaaDoor
/- ExchangeColours: what both answer, the rule, the model. -/
namespace Go.Proofs.YtkiocedhibeieaaDoor
set_option linter.unusedVariables false
set_option linter.unusedSimpArgs false
open Go Go.RowKit Go.Shelf
theorem ord_len {zs : List Int} {n : Int} (h : ordB zs n = true) : (zs.length : Int) = n ∧ allB zs n = true ∧ zs.Nodup := by
  unfold ordB at h
  rw [Bool.and_eq_true, Bool.and_eq_true] at h
  exact ⟨of_decide_eq_true h.1, h.2.1, of_decide_eq_true h.2.2⟩
def exCode (n k : Int) (bs : List Nat) (zs : List Int) : Int := if isCol n k bs = true then (if ordB zs k = true then 0 else 2) else 1
def exN (n k : Int) (bs : List Nat) (zs : List Int) : Int := if exCode n k bs zs = 0 then n else 0
def exK (n k : Int) (bs : List Nat) (zs : List Int) : Int := if exCode n k bs zs = 0 then k else 0
def exB (n k : Int) (bs : List Nat) (zs : List Int) : List Nat := if exCode n k bs zs = 0 then paintB n.toNat (fun lo hi => zs.getD (colAt bs lo hi).toNat 0) else zbl
def exOut (n k : Int) (bs : List Nat) (zs : List Int) : Value := .tuple #[.agg (ccells (exN n k bs zs) (exK n k bs zs) (exB n k bs zs)).toArray, .int .i64 (exCode n k bs zs)]
theorem exOut_bad {n k : Int} {bs : List Nat} {zs : List Int} {m : Int} (h : exCode n k bs zs = m) (hm : m ≠ 0) : exOut n k bs zs = .tuple #[.agg (ccells 0 0 zbl).toArray, .int .i64 m] := by
  unfold exOut exN exK exB
  rw [h, if_neg hm, if_neg hm, if_neg hm]
theorem exOut_good {n k : Int} {bs : List Nat} {zs : List Int} (h : exCode n k bs zs = 0) : exOut n k bs zs = .tuple #[.agg (ccells n k (paintB n.toNat (fun lo hi => zs.getD (colAt bs lo hi).toNat 0))).toArray, .int .i64 0] := by
  unfold exOut exN exK exB
  rw [h, if_pos rfl, if_pos rfl, if_pos rfl]
theorem exCode_1 {n k : Int} {bs : List Nat} {zs : List Int} (h : isCol n k bs = false) : exCode n k bs zs = 1 := by simp [exCode, h]
theorem exCode_2 {n k : Int} {bs : List Nat} {zs : List Int} (h : isCol n k bs = true) (h2 : ordB zs k = false) : exCode n k bs zs = 2 := by simp [exCode, h, h2]
theorem exCode_0 {n k : Int} {bs : List Nat} {zs : List Int} (h : isCol n k bs = true) (h2 : ordB zs k = true) : exCode n k bs zs = 0 := by simp [exCode, h, h2]
theorem ex_rng {zs : List Int} {k : Int} (h : allB zs k = true) (hk : k ≤ 17) (x : Nat) : 0 ≤ zs.getD x 0 ∧ zs.getD x 0 < 256 := by
  by_cases hx : x < zs.length
  · have := allB_get h hx; omega
  · rw [List.getD, List.getElem?_eq_none (by omega)]; simp
theorem exB_bys (n k : Int) {bs : List Nat} (zs : List Int) : Bys (exB n k bs zs) := by
  unfold exB
  split
  · rename_i h
    unfold exCode at h
    split at h
    · rename_i hi
      split at h
      · rename_i ho
        have := isCol_bd hi
        exact paintB_bys fun lo hi => ex_rng (ord_len ho).2.1 (by omega) _
      · cases h
    · cases h
  · exact zbl_bys
end Go.Proofs.YtkiocedhibeieaaDoor
/- RenumberPoints: what both answer, and the model. -/
namespace Go.Proofs.YtkiocedhibeieaaDoor
set_option linter.unusedVariables false
set_option linter.unusedSimpArgs false
open Go Go.RowKit Go.Shelf
def rnF (zs : List Int) (bs : List Nat) (b : List Nat) (t : Nat × Nat × Nat) : List Nat := b.set (eix (zs.getD t.2.1 0) (zs.getD t.2.2 0)).toNat (bs.getD t.1 0)
theorem rnF_bys {zs : List Int} {bs : List Nat} (hb : Bys bs) : ∀ (l : List (Nat × Nat × Nat)) (b : List Nat), Bys b → Bys (l.foldl (rnF zs bs) b)
  | [], b, h => h
  | t :: l, b, h => rnF_bys hb l _ (h.set _ _ (hb.lt _))
def rnB (N : Nat) (zs : List Int) (bs : List Nat) : List Nat := (eseq N).foldl (rnF zs bs) zbl
def rnP (zs : List Int) (bs : List Nat) (j i : Nat) : List Nat := (eseq j ++ rowE j i).foldl (rnF zs bs) zbl
theorem rnP_step (zs : List Int) (bs : List Nat) (j i : Nat) : rnP zs bs j (i + 1) = (rnP zs bs j i).set (eix (zs.getD i 0) (zs.getD j 0)).toNat (bs.getD (eN j + i) 0) := by
  unfold rnP
  rw [rowE_succ, ← List.append_assoc, List.foldl_append]
  rfl
theorem rnP_row (zs : List Int) (bs : List Nat) (j : Nat) : rnP zs bs j j = rnP zs bs (j + 1) 0 := by
  unfold rnP
  rw [show eseq (j + 1) = eseq j ++ rowE j j from rfl]
  simp [rowE]
theorem rnP_done (zs : List Int) (bs : List Nat) (j : Nat) : rnP zs bs j 0 = rnB j zs bs := by
  unfold rnP rnB
  simp [rowE]
theorem rnP_bys {zs : List Int} {bs : List Nat} (hb : Bys bs) (j i : Nat) : Bys (rnP zs bs j i) := rnF_bys hb _ _ zbl_bys
def rnCode (n k : Int) (bs : List Nat) (zs : List Int) : Int := if isCol n k bs = true then (if ordB zs n = true then 0 else 2) else 1
def rnN (n k : Int) (bs : List Nat) (zs : List Int) : Int := if rnCode n k bs zs = 0 then n else 0
def rnK (n k : Int) (bs : List Nat) (zs : List Int) : Int := if rnCode n k bs zs = 0 then k else 0
def rnBB (n k : Int) (bs : List Nat) (zs : List Int) : List Nat := if rnCode n k bs zs = 0 then rnB n.toNat zs bs else zbl
def rnOut (n k : Int) (bs : List Nat) (zs : List Int) : Value := .tuple #[.agg (ccells (rnN n k bs zs) (rnK n k bs zs) (rnBB n k bs zs)).toArray, .int .i64 (rnCode n k bs zs)]
theorem rnOut_bad {n k : Int} {bs : List Nat} {zs : List Int} {m : Int} (h : rnCode n k bs zs = m) (hm : m ≠ 0) : rnOut n k bs zs = .tuple #[.agg (ccells 0 0 zbl).toArray, .int .i64 m] := by
  unfold rnOut rnN rnK rnBB
  rw [h, if_neg hm, if_neg hm, if_neg hm]
theorem rnOut_good {n k : Int} {bs : List Nat} {zs : List Int} (h : rnCode n k bs zs = 0) : rnOut n k bs zs = .tuple #[.agg (ccells n k (rnB n.toNat zs bs)).toArray, .int .i64 0] := by
  unfold rnOut rnN rnK rnBB
  rw [h, if_pos rfl, if_pos rfl, if_pos rfl]
theorem rnCode_1 {n k : Int} {bs : List Nat} {zs : List Int} (h : isCol n k bs = false) : rnCode n k bs zs = 1 := by simp [rnCode, h]
theorem rnCode_2 {n k : Int} {bs : List Nat} {zs : List Int} (h : isCol n k bs = true) (h2 : ordB zs n = false) : rnCode n k bs zs = 2 := by simp [rnCode, h, h2]
theorem rnCode_0 {n k : Int} {bs : List Nat} {zs : List Int} (h : isCol n k bs = true) (h2 : ordB zs n = true) : rnCode n k bs zs = 0 := by simp [rnCode, h, h2]
theorem rnBB_bys (n k : Int) {bs : List Nat} (hb : Bys bs) (zs : List Int) : Bys (rnBB n k bs zs) := by
  unfold rnBB
  split
  · exact rnF_bys hb _ _ zbl_bys
  · exact zbl_bys
theorem ord_two {zs : List Int} {n : Int} (h : ordB zs n = true) {i j : Nat} (hij : i < j) (hj : j < zs.length) : (0 ≤ zs.getD i 0 ∧ zs.getD i 0 < n) ∧ (0 ≤ zs.getD j 0 ∧ zs.getD j 0 < n) ∧ zs.getD i 0 ≠ zs.getD j 0 := by
  obtain ⟨h1, h2, h3⟩ := ord_len h
  refine ⟨allB_get h2 (by omega), allB_get h2 hj, fun e => ?_⟩
  have := List.pairwise_iff_getElem.1 h3 i j (by omega) hj hij
  simp only [List.getD, List.getElem?_eq_getElem (show i < zs.length by omega), List.getElem?_eq_getElem hj, Option.getD_some] at e
  exact this e
def RelRn (n k : Int) (bs : List Nat) (zs : List Int) (a : Option Addr) (w : World) (j i : Nat) (wr : World) : Prop :=
  Blk wr w.heap.size (ccells n k bs).toArray 28 ∧ Blk wr (w.heap.size + 1) (ccells 0 0 zbl).toArray 28 ∧ Blk wr (w.heap.size + 1 + 1) (ccells n k (rnP zs bs j i)).toArray 28 ∧ SlI wr a zs ∧ Below w.heap.size w wr
end Go.Proofs.YtkiocedhibeieaaDoor
/- RenumberPoints: its model. -/
namespace Go.Proofs.YtkiocedhibeieaaDoor
set_option linter.unusedVariables false
set_option linter.unusedSimpArgs false
open Go Go.RowKit Go.Shelf
end Go.Proofs.YtkiocedhibeieaaDoor
/- RenumberPoints: the program. -/
namespace Go.Proofs.YtkiocedhibeieaaDoor
set_option linter.unusedVariables false
set_option linter.unusedSimpArgs false
open Go Go.RowKit Go.Shelf
attribute [local go_sem] Oper.semAt_some
def RelRe {N : Nat} (k : Int) (bs : List Nat) (zs : List Int) (a : Option Addr) (cap : Nat) (g : Nat) (w : World) (pre : List (Edg N)) (W : World) : Prop :=
  Blk W w.heap.size (ccells (N : Int) k bs).toArray 28 ∧ Blk W (w.heap.size + 1) #[.slice a zs.length cap] 25 ∧ Blk W (w.heap.size + 1 + 1) (ccells 0 0 zbl).toArray 28 ∧ Blk W g (ccells (N : Int) k ((pre.map Edg.v).foldl (rnF zs bs) zbl)).toArray 28 ∧ Below w.heap.size w W
end Go.Proofs.YtkiocedhibeieaaDoor
/- My texts Join, JoinIm, JoinSp, Angle, AngleIm, ClqSp, ClqMo, ClqIm, Com, ComIm, ExchIm, in one. -/
/- JoinColours: the rule and the program. -/
namespace Go.Proofs.YtkiocedhibeieaaDoor
set_option linter.unusedVariables false
set_option linter.unusedSimpArgs false
open Go Go.RowKit
def jq (c d x : Int) : Int := if x = d then c else if d < x then x - 1 else x
theorem jq_eq {c d x : Int} (h : x = d) : jq c d x = c := if_pos h
theorem jq_gt {c d x : Int} (h : d < x) : jq c d x = x - 1 := by unfold jq; rw [if_neg (by omega), if_pos h]
theorem jq_lt {c d x : Int} (h : x < d) : jq c d x = x := by unfold jq; rw [if_neg (by omega), if_neg (by omega)]
theorem jq_bd {c d x : Int} (hc : 0 ≤ c ∧ c < 256) (hd : 0 ≤ d) (hx : 0 ≤ x ∧ x < 256) : 0 ≤ jq c d x ∧ jq c d x < 256 := by
  unfold jq
  split
  · exact hc
  · split <;> omega
def jcCode (n k : Int) (bs : List Nat) (c d : Int) : Int := if isCol n k bs = true then (if setB [c, d] k = true then 0 else 2) else 1
def jcN (n k : Int) (bs : List Nat) (c d : Int) : Int := if jcCode n k bs c d = 0 then n else 0
def jcK (n k : Int) (bs : List Nat) (c d : Int) : Int := if jcCode n k bs c d = 0 then k - 1 else 0
def jcB (n k : Int) (bs : List Nat) (c d : Int) : List Nat := if jcCode n k bs c d = 0 then paintB n.toNat (fun lo hi => jq c d (colAt bs lo hi)) else zbl
def jcOut (n k : Int) (bs : List Nat) (c d : Int) : Value := .tuple #[.agg (ccells (jcN n k bs c d) (jcK n k bs c d) (jcB n k bs c d)).toArray, .int .i64 (jcCode n k bs c d)]
theorem jcOut_bad {n k : Int} {bs : List Nat} {c d m : Int} (h : jcCode n k bs c d = m) (hm : m ≠ 0) : jcOut n k bs c d = .tuple #[.agg (ccells 0 0 zbl).toArray, .int .i64 m] := by
  unfold jcOut jcN jcK jcB
  rw [h, if_neg hm, if_neg hm, if_neg hm]
theorem jcOut_good {n k : Int} {bs : List Nat} {c d : Int} (h : jcCode n k bs c d = 0) : jcOut n k bs c d = .tuple #[.agg (ccells n (k - 1) (paintB n.toNat (fun lo hi => jq c d (colAt bs lo hi)))).toArray, .int .i64 0] := by
  unfold jcOut jcN jcK jcB
  rw [h, if_pos rfl, if_pos rfl, if_pos rfl]
theorem jcCode_1 {n k : Int} {bs : List Nat} {c d : Int} (h : isCol n k bs = false) : jcCode n k bs c d = 1 := by simp [jcCode, h]
theorem jcCode_2 {n k : Int} {bs : List Nat} {c d : Int} (h : isCol n k bs = true) (h2 : setB [c, d] k = false) : jcCode n k bs c d = 2 := by simp [jcCode, h, h2]
theorem jcCode_0 {n k : Int} {bs : List Nat} {c d : Int} (h : isCol n k bs = true) (h2 : setB [c, d] k = true) : jcCode n k bs c d = 0 := by simp [jcCode, h, h2]
theorem set2 {c d k : Int} : setB [c, d] k = (decide (c < d) && belowB c k && belowB d k) := by
  unfold setB
  have h1 : ascB [c, d] = decide (c < d) := by
    by_cases h : c < d
    · rw [decide_eq_true h]
      exact ascB_yes (m := 1) (fun i hi1 hi2 => match i, hi1, hi2 with | 0, _, _ => h) (by simp)
    · rw [decide_eq_false h]
      exact ascB_no (i := 0) (by simp) h
  rw [h1]
  simp [allB, Bool.and_assoc]
theorem set2_bd {c d k : Int} (h : setB [c, d] k = true) : 0 ≤ c ∧ c < d ∧ d < k := by
  rw [set2, Bool.and_eq_true, Bool.and_eq_true] at h
  have h1 := of_decide_eq_true h.1.1
  have h2 := inB_bd h.1.2
  have h3 := inB_bd h.2
  omega
theorem jcB_bys {n k : Int} {bs : List Nat} (hb : Bys bs) (c d : Int) : Bys (jcB n k bs c d) := by
  unfold jcB
  split
  · rename_i h
    unfold jcCode at h
    split at h
    · rename_i hi
      split at h
      · rename_i hs
        have := set2_bd hs
        have := isCol_bd hi
        exact paintB_bys fun lo hi => jq_bd (by omega) (by omega) (colAt_bd hb _ _)
      · cases h
    · cases h
  · exact zbl_bys
end Go.Proofs.YtkiocedhibeieaaDoor
/- JoinColours: the program. -/
namespace Go.Proofs.YtkiocedhibeieaaDoor
set_option linter.unusedVariables false
set_option linter.unusedSimpArgs false
open Go Go.RowKit
end Go.Proofs.YtkiocedhibeieaaDoor
/- JoinColours: its model. -/
namespace Go.Proofs.YtkiocedhibeieaaDoor
set_option linter.unusedVariables false
set_option linter.unusedSimpArgs false
open Go Go.RowKit
def qL (c d : Int) (m : Nat) : List Int := (List.range m).map fun (o : Nat) => jq c d (o : Int)
theorem qL_len (c d : Int) (m : Nat) : (qL c d m).length = m := by simp [qL]
theorem qL_snoc (c d : Int) (m : Nat) : qL c d (m + 1) = qL c d m ++ [jq c d (m : Int)] := by simp [qL, List.range_succ]
theorem qL_get {c d : Int} {m i : Nat} (h : i < m) : (qL c d m).getD i 0 = jq c d (i : Int) := by simp [qL, List.getD, h]
def RelJ (c d : Int) (C Z : Array Value) (w : World) (j : Nat) (v : Value) (wr : World) : Prop :=
  Blk wr w.heap.size C 28 ∧ Blk wr (w.heap.size + 1) Z 28 ∧ wr.ownsRow (w.heap.size + 1 + 1) 2 1 v (qL c d j).length (icells (qL c d j)) ∧ Below w.heap.size w wr
theorem jc_paint {N : Nat} {k : Int} {bs : List Nat} {K : Nat} (hb : Bys bs) (hi : isCol (N : Int) k bs = true) (hk : (K : Int) = k) (c d : Int) :
    paintB N (fun lo hi => (qL c d K).getD (colAt bs lo hi).toNat 0) = paintB N (fun lo hi => jq c d (colAt bs lo hi)) := by
  have hbd := isCol_bd hi
  refine paint_congr fun lo hi' h1 h2 => ?_
  have h0 := (colAt_bd hb lo hi').1
  have he := colAt_eN bs h1
  have hm := eN_mono (a := hi' + 1) (b := N) (by omega)
  have h17 := eN_17 (n := N) (by omega)
  have hs : eN (hi' + 1) = eN hi' + hi' := rfl
  have := col_lo hi (i := eN hi' + lo) (by rw [← eN_edg]; omega) (by omega)
  rw [qL_get (by omega)]
  congr 1
end Go.Proofs.YtkiocedhibeieaaDoor
/- The angle number: sums, and the model. -/
namespace Go.Proofs.YtkiocedhibeieaaDoor
set_option linter.unusedVariables false
set_option linter.unusedSimpArgs false
open Go Go.RowKit Go.Shelf
def sm (f : Nat → Nat) : Nat → Nat
  | 0 => 0
  | m + 1 => sm f m + f m
theorem sm_congr {f g : Nat → Nat} : ∀ m, (∀ j, j < m → f j = g j) → sm f m = sm g m
  | 0, _ => rfl
  | m + 1, h => by rw [sm, sm, sm_congr m fun j hj => h j (by omega), h m (by omega)]
theorem sm_add (f g : Nat → Nat) : ∀ m, sm (fun i => f i + g i) m = sm f m + sm g m
  | 0 => rfl
  | m + 1 => by rw [sm, sm, sm, sm_add f g m]; omega
theorem sm_zero : ∀ m, sm (fun _ => 0) m = 0
  | 0 => rfl
  | m + 1 => by rw [sm, sm_zero m]
theorem sm_swap (f : Nat → Nat → Nat) (m : Nat) : ∀ n, sm (fun i => sm (fun j => f i j) m) n = sm (fun j => sm (fun i => f i j) n) m
  | 0 => by simp only [sm]; exact (sm_zero m).symm
  | n + 1 => by
    rw [sm, sm_swap f m n, ← sm_add]
    rfl
theorem sm_le {f : Nat → Nat} {B : Nat} : ∀ m, (∀ j, j < m → f j ≤ B) → sm f m ≤ m * B
  | 0, _ => by simp [sm]
  | m + 1, h => by
    have h1 := sm_le m fun j hj => h j (by omega)
    have h2 := h m (by omega)
    rw [sm, Nat.succ_mul]; omega
theorem i64_in {z : Int} (h0 : 0 ≤ z) (h1 : z ≤ 9223372036854775807) : IntKind.i64.wrap z = z := by
  simp [IntKind.wrap, IntKind.bits, IntKind.signed]; omega
def DD (bs : List Nat) (N p c : Nat) : Nat := cnt (nbB bs (p : Int) (c : Int)) N
theorem DD_le (bs : List Nat) (N p c : Nat) : DD bs N p c ≤ N := cnt_le _ N
def anH (bs : List Nat) (N p c d : Nat) : Nat := DD bs N p c * DD bs N p d
def anG (bs : List Nat) (N p c : Nat) : Nat := sm (anH bs N p c) c
def anF (bs : List Nat) (N K p : Nat) : Nat := sm (anG bs N p) K
def anS (bs : List Nat) (N K : Nat) : Nat := sm (anF bs N K) N
def anI (bs : List Nat) (N K : Nat) : Nat := sm (fun d => sm (fun c => sm (fun p => anH bs N p c d) N) d) K
theorem an_eq (bs : List Nat) (N K : Nat) : anI bs N K = anS bs N K := by
  have e : anS bs N K = sm (fun p => sm (fun d => sm (fun c => anH bs N p d c) d) K) N := rfl
  rw [e, sm_swap (fun p d => sm (fun c => anH bs N p d c) d)]
  refine sm_congr K fun d _ => ?_
  rw [sm_swap (fun p c => anH bs N p d c)]
  exact sm_congr d fun c _ => sm_congr N fun p _ => Nat.mul_comm _ _
theorem anH_le {bs : List Nat} {N : Nat} (hN : N ≤ 17) (p c d : Nat) : anH bs N p c d ≤ 289 := by
  have h1 := DD_le bs N p c
  have h2 := DD_le bs N p d
  exact Nat.le_trans (Nat.mul_le_mul (Nat.le_trans h1 hN) (Nat.le_trans h2 hN)) (by omega)
theorem anG_le {bs : List Nat} {N : Nat} (hN : N ≤ 17) {c : Nat} (hc : c ≤ 4) (p : Nat) : anG bs N p c ≤ 1156 :=
  Nat.le_trans (sm_le c fun j _ => anH_le hN p c j) (by omega)
theorem anF_le {bs : List Nat} {N K : Nat} (hN : N ≤ 17) (hK : K ≤ 4) (p : Nat) : anF bs N K p ≤ 4624 :=
  Nat.le_trans (sm_le K fun j hj => anG_le hN (show j ≤ 4 by omega) p) (by omega)
def anCode (n k : Int) (bs : List Nat) : Int := if isCol n k bs = true then 0 else 1
def anV (n k : Int) (bs : List Nat) : Int := if isCol n k bs = true then ((anS bs n.toNat k.toNat : Nat) : Int) else 0
theorem ones_DD (bs : List Nat) (N p c : Nat) : ones (arK (nbB bs (p : Int) (c : Int)) N) = DD bs N p c := ones_arK _ N
end Go.Proofs.YtkiocedhibeieaaDoor
/- The angle number: the program. -/
namespace Go.Proofs.YtkiocedhibeieaaDoor
set_option linter.unusedVariables false
set_option linter.unusedSimpArgs false
open Go Go.RowKit Go.Shelf
def an2 (bs : List Nat) (N d c : Nat) : Nat := sm (fun p => anH bs N p c d) N
def an1 (bs : List Nat) (N d : Nat) : Nat := sm (an2 bs N d) d
def dgZ (bs : List Nat) (N d : Nat) : List Int := dgL N (fun p => DD bs N p d)
theorem dgZ_len (bs : List Nat) (N d : Nat) : (dgZ bs N d).length = N := dgL_len _ _
theorem dgZ_get {bs : List Nat} {N d p : Nat} (h : p < N) : (dgZ bs N d).getD p 0 = (DD bs N p d : Int) := dgL_get h
theorem dg_dgZ {N : Nat} {k : Int} {bs : List Nat} {d : Nat} (hi : isCol (N : Int) k bs = true) (hd : (d : Int) < k) : dgList (N : Int) k bs (d : Int) = dgZ bs N d ∧ dgCode (N : Int) k bs (d : Int) = 0 :=
  dg_good (given_0 hi (inB_yes (by omega) (by omega)) rfl)
end Go.Proofs.YtkiocedhibeieaaDoor
/- l02Clique and IsClique: the model. -/
namespace Go.Proofs.YtkiocedhibeieaaDoor
set_option linter.unusedVariables false
set_option linter.unusedSimpArgs false
open Go Go.RowKit Go.Shelf
def cliB (bs : List Nat) (c : Int) (zs : List Int) : Bool := decide (∀ j, j < zs.length → ∀ i, i < j → colAt bs (zs.getD i 0) (zs.getD j 0) = c)
theorem cli_yes {bs : List Nat} {c : Int} {zs : List Int} (h : ∀ j, j < zs.length → ∀ i, i < j → colAt bs (zs.getD i 0) (zs.getD j 0) = c) : cliB bs c zs = true := decide_eq_true h
theorem cli_no {bs : List Nat} {c : Int} {zs : List Int} {i j : Nat} (hj : j < zs.length) (hi : i < j) (h : colAt bs (zs.getD i 0) (zs.getD j 0) ≠ c) : cliB bs c zs = false :=
  decide_eq_false fun hh => h (hh j hj i hi)
def Cli (bs : List Nat) (c : Int) (zs : List Int) (j : Nat) : Prop := ∀ j', j' < j → ∀ i, i < j' → colAt bs (zs.getD i 0) (zs.getD j' 0) = c
def Cli2 (bs : List Nat) (c : Int) (zs : List Int) (j i : Nat) : Prop := Cli bs c zs j ∧ ∀ i', i' < i → colAt bs (zs.getD i' 0) (zs.getD j 0) = c
theorem Cli2.done {bs : List Nat} {c : Int} {zs : List Int} {j : Nat} (h : Cli2 bs c zs j j) : Cli bs c zs (j + 1) := fun j' hj' i hi => by
  by_cases e : j' = j
  · subst e; exact h.2 i hi
  · exact h.1 j' (by omega) i hi
theorem Cli2.step {bs : List Nat} {c : Int} {zs : List Int} {j i : Nat} (h : Cli2 bs c zs j i) (hc : colAt bs (zs.getD i 0) (zs.getD j 0) = c) : Cli2 bs c zs j (i + 1) := ⟨h.1, fun i' hi' => by
  by_cases e : i' = i
  · subst e; exact hc
  · exact h.2 i' (by omega)⟩
def RelCq (C : Array Value) (zs : List Int) (a : Option Addr) (w : World) (wr : World) : Prop := Blk wr w.heap.size C 28 ∧ SlI wr a zs ∧ Below w.heap.size w wr
end Go.Proofs.YtkiocedhibeieaaDoor
/- IsClique: its model. -/
namespace Go.Proofs.YtkiocedhibeieaaDoor
set_option linter.unusedVariables false
set_option linter.unusedSimpArgs false
open Go Go.RowKit Go.Shelf
def icCode (n k : Int) (bs : List Nat) (c : Int) (zs : List Int) : Int := if isCol n k bs = true then (if (belowB c k && setB zs n) = true then 0 else 2) else 1
def icV (n k : Int) (bs : List Nat) (c : Int) (zs : List Int) : Bool := if icCode n k bs c zs = 0 then cliB bs c zs else false
theorem ic_bad {n k : Int} {bs : List Nat} {c : Int} {zs : List Int} {m : Int} (h : icCode n k bs c zs = m) (hm : m ≠ 0) : icV n k bs c zs = false ∧ icCode n k bs c zs = m := ⟨by unfold icV; rw [h, if_neg hm], h⟩
theorem icCode_1 {n k : Int} {bs : List Nat} {c : Int} {zs : List Int} (h : isCol n k bs = false) : icCode n k bs c zs = 1 := by simp [icCode, h]
theorem icCode_2 {n k : Int} {bs : List Nat} {c : Int} {zs : List Int} (h : isCol n k bs = true) (h2 : (belowB c k && setB zs n) = false) : icCode n k bs c zs = 2 := by unfold icCode; rw [if_pos h, h2]; rfl
theorem icCode_0 {n k : Int} {bs : List Nat} {c : Int} {zs : List Int} (h : isCol n k bs = true) (h2 : (belowB c k && setB zs n) = true) : icCode n k bs c zs = 0 := by unfold icCode; rw [if_pos h, h2]; rfl
theorem ic_good {n k : Int} {bs : List Nat} {c : Int} {zs : List Int} (h : icCode n k bs c zs = 0) : icV n k bs c zs = cliB bs c zs ∧ icCode n k bs c zs = 0 := ⟨by unfold icV; rw [h, if_pos rfl], h⟩
end Go.Proofs.YtkiocedhibeieaaDoor
/- IsClique: the program. -/
namespace Go.Proofs.YtkiocedhibeieaaDoor
set_option linter.unusedVariables false
set_option linter.unusedSimpArgs false
open Go Go.RowKit Go.Shelf
theorem slice38 (b o len cap j : Nat) (w : World) (h : j ≤ cap) : (Instr.sliceAt 25 (.slice (some ⟨b, o, none⟩) len cap) none (some (.int .i64 j)) none).run Tryd.prog w = .ok (.slice (some ⟨b, o, none⟩) j cap) w := by
  simp [Instr.sliceAt, Instr.slice, Instr.sureAddr, Instr.sliceBounds, Instr.sliceBound, Sem.run_bind, run_underlying Tryd.underlying25, asIntOf, h, Result.andThen, Addr.add]
end Go.Proofs.YtkiocedhibeieaaDoor
/- CommonNeighbours: its model. -/
namespace Go.Proofs.YtkiocedhibeieaaDoor
set_option linter.unusedVariables false
set_option linter.unusedSimpArgs false
open Go Go.RowKit Go.Shelf
def cmB (bs : List Nat) (i j c : Int) (q : Nat) : Bool := nbB bs i c q && nbB bs j c q
def cmCode (n k : Int) (bs : List Nat) (i j c : Int) : Int := if isCol n k bs = true then (if (pairB i j n && belowB c k) = true then 0 else 2) else 1
def cmList (n k : Int) (bs : List Nat) (i j c : Int) : List Int := if cmCode n k bs i j c = 0 then nbK (cmB bs i j c) n.toNat else []
theorem cm_bad {n k : Int} {bs : List Nat} {i j c m : Int} (h : cmCode n k bs i j c = m) (hm : m ≠ 0) : cmList n k bs i j c = [] ∧ cmCode n k bs i j c = m := ⟨by unfold cmList; rw [h, if_neg hm], h⟩
theorem cm_good {n k : Int} {bs : List Nat} {i j c : Int} (h : cmCode n k bs i j c = 0) : cmList n k bs i j c = nbK (cmB bs i j c) n.toNat ∧ cmCode n k bs i j c = 0 := ⟨by unfold cmList; rw [h, if_pos rfl], h⟩
theorem cmCode_1 {n k : Int} {bs : List Nat} {i j c : Int} (h : isCol n k bs = false) : cmCode n k bs i j c = 1 := by simp [cmCode, h]
theorem cmCode_2 {n k : Int} {bs : List Nat} {i j c : Int} (h : isCol n k bs = true) (h2 : (pairB i j n && belowB c k) = false) : cmCode n k bs i j c = 2 := by unfold cmCode; rw [if_pos h, h2]; rfl
theorem cmCode_0 {n k : Int} {bs : List Nat} {i j c : Int} (h : isCol n k bs = true) (h2 : (pairB i j n && belowB c k) = true) : cmCode n k bs i j c = 0 := by unfold cmCode; rw [if_pos h, h2]; rfl
theorem cmList_len {n k : Int} {bs : List Nat} {i j c : Int} : (cmList n k bs i j c).length ≤ 17 := by
  unfold cmList
  split
  · rename_i h
    cases hi : isCol n k bs with
    | false => rw [cmCode_1 hi] at h; cases h
    | true =>
      have := isCol_bd hi
      have := nbK_len (cmB bs i j c) n.toNat
      omega
  · simp
theorem cm_bits (bs : List Nat) (i j c : Int) (N : Nat) (q : Nat) : (arK (nbB bs i c) N &&& arK (nbB bs j c) N).testBit q = (decide (q < N) && cmB bs i j c q) := by
  rw [Nat.testBit_and, arK_bit, arK_bit]
  unfold cmB
  cases decide (q < N) <;> simp
end Go.Proofs.YtkiocedhibeieaaDoor
/- CommonNeighbours: the program. -/
namespace Go.Proofs.YtkiocedhibeieaaDoor
set_option linter.unusedVariables false
set_option linter.unusedSimpArgs false
open Go Go.RowKit Go.Shelf
theorem colAt_comm (bs : List Nat) {i j : Int} (h : i ≠ j) : colAt bs i j = colAt bs j i := by unfold colAt; rw [eix_comm h]
def cmf (bs : List Nat) (j c z : Int) : Bool := decide (z ≠ j) && decide (colAt bs z j = c)
theorem nbK_sift (p : Nat → Bool) (f : Int → Bool) : ∀ N, (nbK p N).filter f = nbK (fun q => p q && f (q : Int)) N
  | 0 => rfl
  | N + 1 => by
    rw [nbK, nbK, ← nbK_sift p f N]
    by_cases hp : p N = true
    · rw [if_pos hp, List.filter_append]
      by_cases hf : f (N : Int) = true
      · rw [if_pos (by rw [hp, hf]; rfl), List.filter_cons_of_pos hf]; rfl
      · rw [if_neg (by rw [hp]; simpa using hf), List.filter_cons_of_neg hf]; simp
    · rw [if_neg hp, if_neg (by simp [hp])]
theorem cm_sift (bs : List Nat) (i j c : Int) (N : Nat) : (nbK (nbB bs i c) N).filter (cmf bs j c) = nbK (cmB bs i j c) N := by
  rw [nbK_sift]
  refine nbK_congr N fun q _ => ?_
  unfold cmB cmf
  congr 1
  unfold nbB
  by_cases h : (q : Int) = j
  · simp [h]
  · rw [colAt_comm bs h]
def siftK (f : Int → Bool) (zs : List Int) (m : Nat) : List Int := (zs.take m).filter f
theorem sift_len (f : Int → Bool) (zs : List Int) (m : Nat) : (siftK f zs m).length ≤ m := by
  unfold siftK
  exact Nat.le_trans (List.length_filter_le _ _) (by simp; omega)
theorem sift_yes {f : Int → Bool} {zs : List Int} {m : Nat} (h : m < zs.length) (hf : f (zs.getD m 0) = true) : siftK f zs (m + 1) = siftK f zs m ++ [zs.getD m 0] := by
  have hg : zs.getD m 0 = zs[m] := by simp [List.getD, List.getElem?_eq_getElem h]
  unfold siftK
  rw [List.take_succ_eq_append_getElem h, List.filter_append, ← hg, List.filter_cons_of_pos hf]; rfl
theorem sift_no {f : Int → Bool} {zs : List Int} {m : Nat} (h : m < zs.length) (hf : f (zs.getD m 0) = false) : siftK f zs (m + 1) = siftK f zs m := by
  have hg : zs.getD m 0 = zs[m] := by simp [List.getD, List.getElem?_eq_getElem h]
  unfold siftK
  rw [List.take_succ_eq_append_getElem h, List.filter_append, ← hg, List.filter_cons_of_neg (by rw [hf]; simp)]; simp
theorem sift_all (f : Int → Bool) (zs : List Int) : siftK f zs zs.length = zs.filter f := by unfold siftK; rw [List.take_length]
def RelCm (f : Int → Bool) (zs : List Int) (w2 : World) (m : Nat) (v : Value) (wr : World) : Prop :=
  wr.ownsRow w2.heap.size 2 1 v (siftK f zs m).length (icells (siftK f zs m)) ∧ Below w2.heap.size w2 wr
theorem RelCm.skip {f : Int → Bool} {zs : List Int} {w2 wr w1 : World} {m : Nat} {v : Value} (h : RelCm f zs w2 m v wr) (hb : Below wr.heap.size wr w1) (e : siftK f zs (m + 1) = siftK f zs m) : RelCm f zs w2 (m + 1) v w1 :=
  ⟨by rw [e]; exact own_below h.1 hb (Nat.le_refl _), h.2.trans (hb.mono h.2.size)⟩
end Go.Proofs.YtkiocedhibeieaaDoor
/- ExchangeColours: its model and the program. -/
namespace Go.Proofs.YtkiocedhibeieaaDoor
set_option linter.unusedVariables false
set_option linter.unusedSimpArgs false
open Go Go.RowKit Go.Shelf
end Go.Proofs.YtkiocedhibeieaaDoor
/- l02Rows, l02Count: the numbers of cliques, by the model. -/
namespace Go.Proofs.YtkiocedhibeieaaDoor
set_option linter.unusedVariables false
set_option linter.unusedSimpArgs false
open Go Go.RowKit Go.Shelf
/-- The rows of a colour: the neighbours of each point, as digits. -/
def rowF (N : Nat) (bs : List Nat) (c : Int) (i : Nat) : Int := ((arK (nbB bs (i : Int) c) N : Nat) : Int)
def RelRw (N : Nat) (bs : List Nat) (c : Int) (C : Array Value) (w : World) (d : Nat) (v : Value) (wr : World) : Prop :=
  Blk wr w.heap.size C 28 ∧ wr.ownsRow (w.heap.size + 1) 2 1 v (fillA (rowF N bs c) d).length (icells (fillA (rowF N bs c) d)) ∧ Below w.heap.size w wr
set_option maxRecDepth 100000 in
set_option maxHeartbeats 2000000 in
theorem rows74 (N : Nat) (k : Int) (bs : List Nat) (hb : Bys bs) (c : Int) (n1 : 1 ≤ N) (n2 : N ≤ 17) (w : World) :
    Calls Tryd.prog 57 #[.agg (ccells (N : Int) k bs).toArray, .int .i64 c] w fun e w' => ∃ a cap, e = .returned (.slice a N cap) ∧ OwnL w' w.heap.size a (fillA (rowF N bs c) N) ∧ Below w.heap.size w w' := by
  have HS := hidd (size_c26 (N : Int) k hb)
  have HC0 := hidd (show (ccells (N : Int) k bs).toArray[0]? = some (.int .i64 (N : Int)) from rfl)
  obtain ⟨t0, hi2, hz0, hz1, hz3⟩ := info_parts info2
  have HIF := hidd (And.intro hi2 (And.intro hz0 (And.intro hz1 hz3)))
  clear hi2 hz0 hz1 hz3
  go_enter Tryd.func57, Tryd.ntmps57
  go_wp2_with fail
  go_loopw [5, 6] (fun v e wr => ∃ d : Nat, d ≤ N ∧ e = .int .i64 d ∧ RelRw N bs c (ccells (N : Int) k bs).toArray w d v wr) (fun _ e _ => N - (intOf e).toNat)
  case atStart =>
    refine ⟨0, by omega, rfl, (Blk.new _ _ _ _ rfl).alloc _, ⟨rfl, .inr ⟨w.heap.size + 1, 0, #[], by simp [fillA], by omega, ?_, ?_, ?_, rfl, rfl⟩⟩, ((Below.refl _ _).alloc (Nat.le_refl _) _).alloc (by simp) _⟩
    · exact Blk.new _ _ _ _ (by simp)
    · simp [fillA]
    · simp [maxLen]
  case round =>
    obtain ⟨d, hd2, rfl, HR⟩ := hrel
    have HK := hidd HR
    clear HR
    have c0 := HK.out.1.cell HC0.out
    by_cases hlt : d < N
    · obtain ⟨v1, hv⟩ : ∃ v : Int, v = rowF N bs c d := ⟨_, rfl⟩
      have HAR := hidd (fun W => around63 (N : Int) k bs hb (d : Int) c W (by omega) (by omega) (by omega) (by omega))
      rw [Int.toNat_natCast, show ((arK (nbB bs (d : Int) c) N : Nat) : Int) = v1 from hv.symm] at HAR
      have HSN := hidd (fillA_snoc (rowF N bs c) d)
      rw [← hv] at HSN
      clear hv
      go_wp2_with (refine wpList_load_row rfl 28 (.tmp 2) rfl w.heap.size rfl 28 _ (0,0) _ HK.out.1 Tryd.underlying28 rfl HS.out ?_)
      refine (HAR.out _).mono ?_
      rintro e w1 ⟨rfl, hb1⟩
      have K1 := hidd (And.intro (HK.out.1.below hb1 HK.out.1.lt) (And.intro (own_below HK.out.2.1 hb1 (Nat.le_refl _)) (HK.out.2.2.trans (hb1.mono HK.out.2.2.size))))
      clear hb1 c0
      have hown := K1.out.2.1
      have hlen := fillA_len (rowF N bs c) d
      have hsz := K1.out.2.2.size
      have hszC := K1.out.1.lt
      go_wp2_with (at_builtin; refine wpList_append_own _ rfl _ _ 25 rfl (w.heap.size + 1) 2 t0 (.int .i64 0) 1 8 Tryd.underlying25 HIF.out.1 HIF.out.2.1 HIF.out.2.2.1 HIF.out.2.2.2 rfl (by decide) _ _ _ rfl (hown.alloc _) ⟨w1.heap.size, 0, none⟩ 1 1 [.int .i64 v1] rfl rfl ?c1 ?c2 ?c3 ?c4 ?c5 ?_)
      case c1 => exact one_new _ _ _
      case c2 => intro u hu; simp at hu; subst hu; rfl
      case c3 => unfold maxLen; omega
      case c4 => omega
      case c5 => simp; omega
      intro v' w2 hown' hgrow _
      have K3 := hidd (show RelRw N bs c (ccells (N : Int) k bs).toArray w (d + 1) v' w2 from ⟨K1.out.1.below (grown_step hown hgrow (by omega)) (by omega), by rw [HSN.out, icells_app, List.length_append, fillA_len]; exact hown', K1.out.2.2.trans ((grown_step hown hgrow (by omega)).mono (by omega))⟩)
      clear hown' hgrow hown
      go_wp2
      go_roundw
      case rel => exact ⟨d + 1, by omega, by go_num, K3.out⟩
      case measure => simp [intOf]; omega
    · have hde : d = N := by omega
      subst hde
      obtain ⟨a, cap, rfl, ho⟩ := own_list HK.out.2.1
      have K := hidd (And.intro ho HK.out.2.2)
      have HL2 := hidd (fillA_len (rowF d bs c) d)
      clear HK ho
      rw [HL2.out]
      go_wp2_with fail
      go_ret
      exact ⟨a, cap, rfl, ownL_base K.out.1 (by omega), K.out.2⟩
end Go.Proofs.YtkiocedhibeieaaDoor
/- l02Count: cliques counted by recursion. -/
namespace Go.Proofs.YtkiocedhibeieaaDoor
set_option linter.unusedVariables false
set_option linter.unusedSimpArgs false
open Go Go.RowKit Go.Shelf
/-- The digits from p on. -/
def hiB (F p : Nat) : Nat := F >>> p <<< p
theorem hiB_bit (F p q : Nat) : (hiB F p).testBit q = (decide (p ≤ q) && F.testBit q) := by
  unfold hiB
  rw [Nat.testBit_shiftLeft, Nat.testBit_shiftRight]
  by_cases h : p ≤ q
  · simp [h, show p + (q - p) = q by omega]
  · simp [h]
theorem hiB_le (F p : Nat) : hiB F p ≤ F := by
  unfold hiB
  rw [Nat.shiftRight_eq_div_pow, Nat.shiftLeft_eq]
  exact Nat.div_mul_le_self _ _
theorem hiB_zero (F : Nat) : hiB F 0 = F := by simp [hiB]
theorem hiB_skip {F p : Nat} (h : F.testBit p = false) : hiB F (p + 1) = hiB F p := by
  apply Nat.eq_of_testBit_eq
  intro q
  rw [hiB_bit, hiB_bit]
  by_cases e : p = q
  · subst e; rw [h]; simp
  · by_cases h1 : p ≤ q
    · simp [h1, show p + 1 ≤ q by omega]
    · simp [h1, show ¬ p + 1 ≤ q by omega]
theorem hiB_take {F p : Nat} (h : F.testBit p = true) : hiB F p ^^^ 2 ^ p = hiB F (p + 1) := by
  apply Nat.eq_of_testBit_eq
  intro q
  rw [Nat.testBit_xor, hiB_bit, hiB_bit, Nat.testBit_two_pow]
  by_cases e : p = q
  · subst e; rw [h]; simp
  · by_cases h1 : p ≤ q
    · simp [h1, show p + 1 ≤ q by omega, e]
    · simp [h1, show ¬ p + 1 ≤ q by omega, e]
/-- The number of the sets of m points more, among free ones. -/
def cC (R : Nat → Nat) (N : Nat) : Nat → Nat → Nat
  | 0, _ => 1
  | m + 1, F => sm (fun p => if F.testBit p = true then cC R N m (hiB F (p + 1) &&& R p) else 0) N
def cT (R : Nat → Nat) (N m F : Nat) (p : Nat) : Nat := if F.testBit p = true then cC R N m (hiB F (p + 1) &&& R p) else 0
theorem cC_succ (R : Nat → Nat) (N m F : Nat) : cC R N (m + 1) F = sm (cT R N m F) N := rfl
theorem arK_self {F : Nat} : ∀ {k : Nat}, F < 2 ^ k → arK F.testBit k = F := by
  intro k h
  apply Nat.eq_of_testBit_eq
  intro q
  rw [arK_bit]
  by_cases hq : q < k
  · simp [hq]
  · simp [hq, Nat.testBit_lt_two_pow (Nat.lt_of_lt_of_le h (Nat.pow_le_pow_right (by omega) (show k ≤ q by omega)))]
theorem ones_cnt {F k : Nat} (h : F < 2 ^ k) : ones F = cnt F.testBit k := by rw [← ones_arK, arK_self h]
theorem cnt_mono {p q : Nat → Bool} : ∀ k, (∀ j, j < k → p j = true → q j = true) → cnt p k ≤ cnt q k
  | 0, _ => Nat.le_refl _
  | k + 1, h => by
    have ih := cnt_mono k (fun j hj => h j (by omega))
    have := h k (by omega)
    unfold cnt
    cases hp : p k with
    | false => simp; omega
    | true => rw [this hp]; simp; omega
theorem cnt_less {p q : Nat → Bool} {i : Nat} (hq : q i = true) (hp : p i = false) : ∀ k, i < k → (∀ j, j < k → p j = true → q j = true) → cnt p k + 1 ≤ cnt q k
  | 0, h, _ => by omega
  | k + 1, h, hpq => by
    unfold cnt
    by_cases e : i = k
    · subst e
      have := cnt_mono i (fun j hj => hpq j (by omega))
      rw [hq, hp]; simp; omega
    · have ih := cnt_less hq hp k (by omega) (fun j hj => hpq j (by omega))
      have := hpq k (by omega)
      cases hpk : p k with
      | false => simp; omega
      | true => rw [this hpk]; simp; omega
theorem ones_next {R : Nat → Nat} {F j p : Nat} (hF : F < 2 ^ 17) (hj : j ≤ p) (hp : F.testBit p = true) (h17 : p < 17) : ones (hiB F (p + 1) &&& R p) + 1 ≤ ones (hiB F j) := by
  have h1 : hiB F (p + 1) &&& R p < 2 ^ 17 := Nat.lt_of_le_of_lt (Nat.le_trans Nat.and_le_left (hiB_le _ _)) hF
  have h2 : hiB F j < 2 ^ 17 := Nat.lt_of_le_of_lt (hiB_le _ _) hF
  rw [ones_cnt h1, ones_cnt h2]
  refine cnt_less (i := p) ?_ ?_ 17 h17 ?_
  · rw [hiB_bit, hp]; simp [hj]
  · rw [Nat.testBit_and, hiB_bit, decide_eq_false (by omega), Bool.false_and, Bool.false_and]
  · intro q _ hq
    rw [Nat.testBit_and, hiB_bit, Bool.and_eq_true, Bool.and_eq_true] at hq
    have := of_decide_eq_true hq.1.1
    rw [hiB_bit, hq.1.2]; simp; omega
theorem and_lt17 {F p x : Nat} (hF : F < 2 ^ 17) : hiB F p &&& x < 2 ^ 17 := Nat.lt_of_le_of_lt (Nat.le_trans Nat.and_le_left (hiB_le _ _)) hF
theorem sm_zero' {f : Nat → Nat} : ∀ m, (∀ j, j < m → f j = 0) → sm f m = 0
  | 0, _ => rfl
  | m + 1, h => by rw [sm, sm_zero' m (fun j hj => h j (by omega)), h m (by omega)]
theorem cC_none {R : Nat → Nat} {N : Nat} (hN : N ≤ 17) : ∀ (m F : Nat), F < 2 ^ 17 → ones F < m → cC R N m F = 0
  | 0, F, _, h => by omega
  | m + 1, F, hF, h => by
    rw [cC_succ]
    refine sm_zero' N fun p hp => ?_
    unfold cT
    split
    · rename_i hb
      have := ones_next (R := R) (j := 0) hF (by omega) hb (by omega)
      rw [hiB_zero] at this
      exact cC_none hN m _ (and_lt17 hF) (by omega)
    · rfl
/-- The rest of the sum is nothing where too few are left. -/
theorem sm_rest {f : Nat → Nat} {j : Nat} : ∀ N, j ≤ N → (∀ p, j ≤ p → p < N → f p = 0) → sm f N = sm f j
  | 0, h, _ => by rw [show j = 0 by omega]
  | N + 1, h, h0 => by
    by_cases e : j = N + 1
    · rw [e]
    · rw [sm, h0 N (by omega) (by omega), Nat.add_zero]
      exact sm_rest N (by omega) (fun p h1 h2 => h0 p h1 (by omega))
theorem cC_stop {R : Nat → Nat} {N m F j : Nat} (hN : N ≤ 17) (hF : F < 2 ^ 17) (hj : j ≤ N) (h : ones (hiB F j) < m + 1) : cC R N (m + 1) F = sm (cT R N m F) j := by
  rw [cC_succ]
  refine sm_rest N hj fun p h1 h2 => ?_
  unfold cT
  split
  · rename_i hb
    have := ones_next (R := R) hF h1 hb (by omega)
    exact cC_none hN m _ (and_lt17 hF) (by omega)
  · rfl
theorem cC_le {R : Nat → Nat} {N : Nat} (hN : N ≤ 17) : ∀ (m F : Nat), cC R N m F ≤ 17 ^ m
  | 0, _ => Nat.le_refl _
  | m + 1, F => by
    rw [cC_succ, Nat.pow_succ, Nat.mul_comm]
    refine Nat.le_trans (sm_le N (fun p _ => ?_)) (Nat.mul_le_mul_right _ hN)
    unfold cT
    split
    · exact cC_le hN m _
    · exact Nat.zero_le _
theorem sm_part {R : Nat → Nat} {N m F j : Nat} (hN : N ≤ 17) (hj : j ≤ 17) : sm (cT R N m F) j ≤ 17 * 17 ^ m := by
  refine Nat.le_trans (sm_le j (fun p _ => ?_)) (Nat.mul_le_mul_right _ hj)
  unfold cT
  split
  · exact cC_le hN m _
  · exact Nat.zero_le _
theorem cT_take {R : Nat → Nat} {N m F p : Nat} (h : F.testBit p = true) : sm (cT R N m F) (p + 1) = sm (cT R N m F) p + cC R N m (hiB F (p + 1) &&& R p) := by rw [sm, cT, if_pos h]
theorem cT_skip {R : Nat → Nat} {N m F p : Nat} (h : F.testBit p = false) : sm (cT R N m F) (p + 1) = sm (cT R N m F) p := by rw [sm, cT, if_neg (by rw [h]; simp)]; rfl
theorem pow17 {m : Nat} (h : m ≤ 14) : 17 * 17 ^ m + 17 ^ m ≤ 4611686018427387904 := by
  have : 17 ^ m ≤ 17 ^ 14 := Nat.pow_le_pow_right (by omega) h
  have e : 17 ^ 14 = 168377826559400929 := by decide
  omega
end Go.Proofs.YtkiocedhibeieaaDoor
/- Cliques in order: what is still to come from a state of the search, and the cliques of one size. Nothing of the program. -/
namespace Go.Proofs.YtkiocedhibeieaaDoor
set_option linter.unusedVariables false
set_option linter.unusedSimpArgs false
section
variable (fit : List Nat → Nat → Bool) (N : Nat)
/-- The cliques that go on from s (its points backwards) with points from N - d on, in order. -/
def cqE : Nat → List Nat → List (List Nat)
  | 0, _ => []
  | d + 1, s => if fit s (N - (d + 1)) = true then ((N - (d + 1)) :: s) :: (cqE d ((N - (d + 1)) :: s) ++ cqE d s) else cqE d s
/-- What is still to come. -/
def cqR : List Nat → Nat → List (List Nat)
  | [], d => cqE fit N d []
  | q :: s, d => cqE fit N d (q :: s) ++ cqR s (N - (q + 1))
theorem cqR_eq (s : List Nat) (d d' : Nat) : ∃ t, cqR fit N s d = cqE fit N d s ++ t ∧ cqR fit N s d' = cqE fit N d' s ++ t := by
  cases s with
  | nil => exact ⟨[], by simp [cqR], by simp [cqR]⟩
  | cons q s => exact ⟨_, rfl, rfl⟩
variable {fit N}
theorem cqR_fit {s : List Nat} {d : Nat} (hd : d + 1 ≤ N) (h : fit s (N - (d + 1)) = true) : cqR fit N s (d + 1) = ((N - (d + 1)) :: s) :: cqR fit N ((N - (d + 1)) :: s) d := by
  obtain ⟨t, h1, h2⟩ := cqR_eq fit N s (d + 1) d
  rw [h1, cqE, if_pos h, cqR, show N - (N - (d + 1) + 1) = d by omega, h2]
  simp
theorem cqR_skip {s : List Nat} {d : Nat} (h : fit s (N - (d + 1)) = false) : cqR fit N s (d + 1) = cqR fit N s d := by
  obtain ⟨t, h1, h2⟩ := cqR_eq fit N s (d + 1) d
  rw [h1, h2, cqE, if_neg (by rw [h]; simp)]
theorem cqR_up (q : Nat) (s : List Nat) : cqR fit N (q :: s) 0 = cqR fit N s (N - (q + 1)) := by simp [cqR, cqE]
theorem cqR_end : cqR fit N [] 0 = [] := rfl
theorem cqE_len : ∀ (d : Nat) (s c : List Nat), c ∈ cqE fit N d s → s.length < c.length
  | 0, s, c, h => by simp [cqE] at h
  | d + 1, s, c, h => by
    rw [cqE] at h
    split at h
    · rcases List.mem_cons.1 h with rfl | h
      · simp
      · rcases List.mem_append.1 h with h | h
        · have := cqE_len d _ c h; simp at this; omega
        · exact cqE_len d s c h
    · exact cqE_len d s c h
/-- The cliques of m points among s and those that go on from it. -/
def cqF (fit : List Nat → Nat → Bool) (N m d : Nat) (s : List Nat) : List (List Nat) := (s :: cqE fit N d s).filter fun c => decide (c.length = m)
theorem cqF_here {m d : Nat} {s : List Nat} (h : s.length = m) : cqF fit N m d s = [s] := by
  unfold cqF
  rw [List.filter_cons_of_pos (by simpa using h), List.filter_eq_nil_iff.2]
  intro c hc
  have := cqE_len d s c hc
  simp; omega
theorem cqF_less {m d : Nat} {s : List Nat} (h : s.length ≠ m) : cqF fit N m d s = (cqE fit N d s).filter fun c => decide (c.length = m) := by
  unfold cqF
  rw [List.filter_cons_of_neg (by simpa using h)]
theorem cqG_fit {m d : Nat} {s : List Nat} (h : fit s (N - (d + 1)) = true) : ((cqE fit N (d + 1) s).filter fun c => decide (c.length = m)) = cqF fit N m d ((N - (d + 1)) :: s) ++ (cqE fit N d s).filter fun c => decide (c.length = m) := by
  rw [cqE, if_pos h]
  unfold cqF
  rw [← List.filter_append, List.cons_append]
theorem cqG_skip {m d : Nat} {s : List Nat} (h : fit s (N - (d + 1)) = false) : ((cqE fit N (d + 1) s).filter fun c => decide (c.length = m)) = (cqE fit N d s).filter fun c => decide (c.length = m) := by
  rw [cqE, if_neg (by rw [h]; simp)]
/-- How many of the last d points fit. -/
def cqN (fit : List Nat → Nat → Bool) (N : Nat) : Nat → List Nat → Nat
  | 0, _ => 0
  | d + 1, s => cqN fit N d s + (if fit s (N - (d + 1)) = true then 1 else 0)
theorem cqN_mono (hf : ∀ s p q, fit (q :: s) p = true → fit s p = true) : ∀ (d q : Nat) (s : List Nat), cqN fit N d (q :: s) ≤ cqN fit N d s
  | 0, _, _ => Nat.le_refl _
  | d + 1, q, s => by
    have := cqN_mono hf d q s
    rw [cqN, cqN]
    by_cases h : fit (q :: s) (N - (d + 1)) = true
    · rw [if_pos h, if_pos (hf _ _ _ h)]; omega
    · rw [if_neg h]; omega
theorem cqE_most (hf : ∀ s p q, fit (q :: s) p = true → fit s p = true) : ∀ (d : Nat) (s c : List Nat), c ∈ cqE fit N d s → c.length ≤ s.length + cqN fit N d s
  | 0, s, c, h => by simp [cqE] at h
  | d + 1, s, c, h => by
    rw [cqE] at h
    rw [cqN]
    split at h
    · rename_i hfit
      rw [if_pos hfit]
      rcases List.mem_cons.1 h with rfl | h
      · simp
      · rcases List.mem_append.1 h with h | h
        · have h1 := cqE_most hf d _ c h
          have h2 := cqN_mono (N := N) hf d (N - (d + 1)) s
          simp at h1; omega
        · have := cqE_most hf d s c h; omega
    · have := cqE_most hf d s c h; omega
theorem cqG_none (hf : ∀ s p q, fit (q :: s) p = true → fit s p = true) {m d : Nat} {s : List Nat} (h : s.length + cqN fit N d s < m) : ((cqE fit N d s).filter fun c => decide (c.length = m)) = [] := by
  rw [List.filter_eq_nil_iff]
  intro c hc
  have := cqE_most hf d s c hc
  simp; omega
end
end Go.Proofs.YtkiocedhibeieaaDoor
/- Cliques as the model keeps them: points with their bits, free bits, lists. Nothing of the program. -/
namespace Go.Proofs.YtkiocedhibeieaaDoor
set_option linter.unusedVariables false
set_option linter.unusedSimpArgs false
/-- Is p a neighbour of all points of s? -/
def fitR (R : Nat → Nat) (s : List Nat) (p : Nat) : Bool := s.all fun q => (R q).testBit p
theorem fitR_cons (R : Nat → Nat) (q : Nat) (s : List Nat) (p : Nat) : fitR R (q :: s) p = ((R q).testBit p && fitR R s p) := rfl
theorem fitR_mono (R : Nat → Nat) (s : List Nat) (p q : Nat) (h : fitR R (q :: s) p = true) : fitR R s p = true := by
  rw [fitR_cons, Bool.and_eq_true] at h; exact h.2
/-- The free points, as digits: the last d ones that are neighbours of all of s. -/
def frB (R : Nat → Nat) (N : Nat) (s : List Nat) (d : Nat) : Nat := arK (fun p => decide (N - d ≤ p) && fitR R s p) N
theorem frB_bit {R : Nat → Nat} {N : Nat} {s : List Nat} {d j : Nat} (h : j < N) : (frB R N s d).testBit j = (decide (N - d ≤ j) && fitR R s j) := by
  unfold frB; rw [arK_bit, decide_eq_true h, Bool.true_and]
theorem frB_lt (R : Nat → Nat) {N : Nat} (hN : N ≤ 17) (s : List Nat) (d : Nat) : frB R N s d < 2 ^ 17 :=
  Nat.lt_of_lt_of_le (arK_lt _ _) (Nat.pow_le_pow_right (by omega) hN)
theorem cnt_from (f : Nat → Bool) {i : Nat} : ∀ N, i < N → cnt (fun p => decide (i ≤ p) && f p) N = cnt (fun p => decide (i + 1 ≤ p) && f p) N + (if f i = true then 1 else 0)
  | 0, h => by omega
  | N + 1, h => by
    unfold cnt
    by_cases e : i = N
    · subst e
      have h1 : cnt (fun p => decide (i ≤ p) && f p) i = cnt (fun p => decide (i + 1 ≤ p) && f p) i := cnt_congr i fun j hj => by
        rw [decide_eq_false (show ¬ i ≤ j by omega), decide_eq_false (show ¬ i + 1 ≤ j by omega)]
      rw [h1, decide_eq_true (Nat.le_refl i), decide_eq_false (show ¬ (i + 1 ≤ i) by omega), Bool.true_and, Bool.false_and]
      simp
    · have := cnt_from f (i := i) N (by omega)
      rw [this, decide_eq_true (show i ≤ N by omega), decide_eq_true (show i + 1 ≤ N by omega)]
      omega
theorem cnt_none' {f : Nat → Bool} : ∀ N, (∀ j, j < N → f j = false) → cnt f N = 0
  | 0, _ => rfl
  | N + 1, h => by unfold cnt; rw [cnt_none' N (fun j hj => h j (by omega)), h N (by omega)]; rfl
theorem cqN_cnt (R : Nat → Nat) (N : Nat) (s : List Nat) : ∀ d, d ≤ N → cqN (fitR R) N d s = cnt (fun p => decide (N - d ≤ p) && fitR R s p) N
  | 0, _ => by
    rw [cqN, cnt_none' N]
    intro j hj
    rw [decide_eq_false (by omega)]; rfl
  | d + 1, h => by
    rw [cqN, cqN_cnt R N s d (by omega), cnt_from (fun p => fitR R s p) (i := N - (d + 1)) N (by omega), show N - (d + 1) + 1 = N - d by omega]
theorem frB_ones {R : Nat → Nat} {N : Nat} {s : List Nat} {d : Nat} (h : d ≤ N) : ones (frB R N s d) = cqN (fitR R) N d s := by
  unfold frB
  rw [ones_arK, cqN_cnt R N s d h]
theorem arK_high {f : Nat → Bool} {k j : Nat} (h : k ≤ j) : (arK f k).testBit j = false := by rw [arK_bit, decide_eq_false (by omega)]; rfl
/-- What is free behind a point that is taken. -/
theorem frB_next {R : Nat → Nat} (h0 : ∀ q, (R q).testBit q = false) {N d j : Nat} {s : List Nat} (hj : j < N) (hd : N - d ≤ j) :
    hiB (frB R N s d &&& R j) j = frB R N (j :: s) (N - (j + 1)) := by
  apply Nat.eq_of_testBit_eq
  intro q
  rw [hiB_bit, Nat.testBit_and]
  by_cases hq : q < N
  · rw [frB_bit hq, frB_bit hq, fitR_cons, show N - (N - (j + 1)) = j + 1 by omega]
    by_cases e : j = q
    · subst e
      rw [h0 j]; simp
    · by_cases h1 : j ≤ q
      · rw [decide_eq_true h1, decide_eq_true (show N - d ≤ q by omega), decide_eq_true (show j + 1 ≤ q by omega)]
        cases (R j).testBit q <;> cases fitR R s q <;> rfl
      · rw [decide_eq_false h1, decide_eq_false (show ¬ j + 1 ≤ q by omega)]; rfl
  · unfold frB
    rw [arK_high (by omega), arK_high (by omega)]; simp
/-- A clique as the list that stands for it. -/
def rv (s : List Nat) : List Int := s.reverse.map fun (x : Nat) => (x : Int)
theorem rv_len (s : List Nat) : (rv s).length = s.length := by simp [rv]
theorem rv_cons (q : Nat) (s : List Nat) : rv (q :: s) = rv s ++ [(q : Int)] := by simp [rv]
/-- The cliques of m points that go on from s with the last d points, as lists. -/
def cqL (R : Nat → Nat) (N m d : Nat) (s : List Nat) : List (List Int) := ((cqE (fitR R) N d s).filter fun c => decide (c.length = m)).map rv
/-- The same, and s itself. -/
def cqH (R : Nat → Nat) (N m d : Nat) (s : List Nat) : List (List Int) := (cqF (fitR R) N m d s).map rv
theorem cqH_here {R : Nat → Nat} {N m d : Nat} {s : List Nat} (h : s.length = m) : cqH R N m d s = [rv s] := by unfold cqH; rw [cqF_here h]; rfl
theorem cqH_less {R : Nat → Nat} {N m d : Nat} {s : List Nat} (h : s.length ≠ m) : cqH R N m d s = cqL R N m d s := by unfold cqH cqL; rw [cqF_less h]
theorem cqH_none {R : Nat → Nat} {N m d : Nat} {s : List Nat} (hd : d ≤ N) (h0 : s.length ≠ m) (h : s.length + ones (frB R N s d) < m) : cqH R N m d s = [] := by
  rw [cqH_less h0]
  unfold cqL
  rw [frB_ones hd] at h
  rw [cqG_none (fitR_mono R) h]; rfl
theorem cqL_fit {R : Nat → Nat} {N m d : Nat} {s : List Nat} (h : fitR R s (N - (d + 1)) = true) : cqL R N m (d + 1) s = cqH R N m d ((N - (d + 1)) :: s) ++ cqL R N m d s := by
  unfold cqL cqH
  rw [cqG_fit h, List.map_append]
theorem cqL_skip {R : Nat → Nat} {N m d : Nat} {s : List Nat} (h : fitR R s (N - (d + 1)) = false) : cqL R N m (d + 1) s = cqL R N m d s := by
  unfold cqL
  rw [cqG_skip h]
theorem cqL_zero {R : Nat → Nat} {N m : Nat} {s : List Nat} : cqL R N m 0 s = [] := rfl
/-- The list on its way: dn has come, of the last e points the rest is to come. -/
def Way (R : Nat → Nat) (N m d : Nat) (s : List Nat) (L : List (List Int)) (most e : Nat) (cur : List (List Int)) : Prop :=
  ∃ dn, dn ++ cqL R N m (min d e) s = cqL R N m d s ∧ cur = (L ++ dn).take most
theorem way_start {R : Nat → Nat} {N m d : Nat} {s : List Nat} {L : List (List Int)} {most : Nat} (hd : d ≤ N) (hL : L.length < most) : Way R N m d s L most N L :=
  ⟨[], by rw [Nat.min_eq_left hd]; rfl, by rw [List.append_nil, List.take_of_length_le (by omega)]⟩
theorem way_end {R : Nat → Nat} {N m d : Nat} {s : List Nat} {L cur : List (List Int)} {most e : Nat} (h : Way R N m d s L most e cur) (he : e = 0 ∨ most ≤ cur.length) : cur = (L ++ cqL R N m d s).take most := by
  obtain ⟨dn, h1, h2⟩ := h
  rcases he with rfl | he
  · rw [Nat.min_eq_right (Nat.zero_le _), cqL_zero, List.append_nil] at h1
    rw [← h1]; exact h2
  · have hl : most ≤ (L ++ dn).length := by rw [h2, List.length_take] at he; omega
    rw [← h1, ← List.append_assoc, List.take_append_of_le_length hl]; exact h2
theorem way_skip {R : Nat → Nat} {N m d : Nat} {s : List Nat} {L cur : List (List Int)} {most j : Nat} (h : Way R N m d s L most (N - j) cur) (hj : j < N) (hb : (frB R N s d).testBit j = false) : Way R N m d s L most (N - (j + 1)) cur := by
  obtain ⟨dn, h1, h2⟩ := h
  refine ⟨dn, ?_, h2⟩
  rw [frB_bit hj] at hb
  by_cases hd : N - d ≤ j
  · rw [decide_eq_true hd, Bool.true_and] at hb
    rw [Nat.min_eq_right (show N - j ≤ d by omega)] at h1
    rw [Nat.min_eq_right (show N - (j + 1) ≤ d by omega), ← h1]
    have e : N - j = (N - (j + 1)) + 1 := by omega
    have e2 : N - (N - (j + 1) + 1) = j := by omega
    rw [e, cqL_skip (by rw [e2]; exact hb)]
  · rw [Nat.min_eq_left (show d ≤ N - j by omega)] at h1
    rw [Nat.min_eq_left (show d ≤ N - (j + 1) by omega)]; exact h1
theorem way_take {R : Nat → Nat} {N m d : Nat} {s : List Nat} {L cur : List (List Int)} {most j : Nat} (h : Way R N m d s L most (N - j) cur) (hj : j < N) (hb : (frB R N s d).testBit j = true) (hl : cur.length < most) : Way R N m d s L most (N - (j + 1)) ((cur ++ cqH R N m (N - (j + 1)) (j :: s)).take most) := by
  obtain ⟨dn, h1, h2⟩ := h
  rw [frB_bit hj, Bool.and_eq_true] at hb
  have hd := of_decide_eq_true hb.1
  have hw : cur = L ++ dn := by rw [h2] at hl ⊢; rw [List.length_take] at hl; exact List.take_of_length_le (by omega)
  rw [Nat.min_eq_right (show N - j ≤ d by omega)] at h1
  refine ⟨dn ++ cqH R N m (N - (j + 1)) (j :: s), ?_, by rw [hw, List.append_assoc]⟩
  rw [Nat.min_eq_right (show N - (j + 1) ≤ d by omega), ← h1]
  have e : N - j = (N - (j + 1)) + 1 := by omega
  have e2 : N - (N - (j + 1) + 1) = j := by omega
  rw [e, cqL_fit (by rw [e2]; exact hb.2), e2, List.append_assoc]
theorem way_len {R : Nat → Nat} {N m d : Nat} {s : List Nat} {L cur : List (List Int)} {most e : Nat} (h : Way R N m d s L most e cur) : cur.length ≤ most := by
  obtain ⟨dn, h1, h2⟩ := h
  rw [h2, List.length_take]; omega
end Go.Proofs.YtkiocedhibeieaaDoor
/- l02Count: the walk, by recursion on the number of points that are still to be taken. -/
namespace Go.Proofs.YtkiocedhibeieaaDoor
set_option linter.unusedVariables false
set_option linter.unusedSimpArgs false
open Go Go.RowKit Go.Shelf
theorem xor_bit {X Y j : Nat} (hX : X < 2 ^ 17) (hj : j < 17) (h : X ^^^ 2 ^ j = Y) : bits .xor .i64 (X : Int) (wrap64 (2 ^ j)) = (Y : Int) := by
  subst h
  have h2 : 2 ^ j < 2 ^ 17 := Nat.pow_lt_pow_right (by omega) hj
  have e : (2 : Int) ^ j = ((2 ^ j : Nat) : Int) := by simp
  rw [e]
  generalize 2 ^ j = y at *
  rw [IntWalk.wrap64_in _ ⟨by omega, by omega⟩]
  exact i64_xor_nat X y (by omega) (by omega)
/-- The rows as a slice of the model. -/
structure Rws (N : Nat) (R : Nat → Nat) (zs : List Int) : Prop where
  len : zs.length = N
  get : ∀ p, p < N → zs.getD p 0 = (R p : Int)
  lt : ∀ p, p < N → R p < 2 ^ 17
theorem hiB_lt {F j : Nat} (h : F < 2 ^ 17) : hiB F j < 2 ^ 17 := Nat.lt_of_le_of_lt (hiB_le _ _) h
theorem hiB_bitj {F j : Nat} : (hiB F j).testBit j = F.testBit j := by rw [hiB_bit]; simp
end Go.Proofs.YtkiocedhibeieaaDoor
