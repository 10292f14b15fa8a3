/- My texts Seq, Collect, Lay, Sort, Order, OrderMo, Exch, Ren, RenSp, RenIm, in one. -/
import Derived.Test.YtldlobpjmiacgaaGb
import Derived.Test.YtldlobpjmiacgaaGa
import Derived.RangeFuncBox
import Derived.RangeFuncLeaves
import Derived.OwnWalkIn
import Derived.TacticsInMore
import Derived.Sort.OwnSortedInts
import Derived.Test.YtldlobpjmiacgaaGc
/- slices.Values, slices.Collect: a list handed on as a function, and gathered again. -/
namespace Go.Proofs.Ytldlobpjmiacgaa
set_option linter.unusedVariables false
set_option linter.unusedSimpArgs false
open Go Go.RowKit Go.Shelf
/-- A list that lies below a bound. -/
def SlB (B : Nat) (w : World) (a : Option Addr) (zs : List Int) : Prop := zs = [] ∨ ∃ b off, a = some ⟨b, off, none⟩ ∧ b < B ∧ ∀ j, j < zs.length → w.cell? ⟨b, off + j, none⟩ = some (.int .i64 (zs.getD j 0))
theorem SlB.below {B : Nat} {w w' : World} {a : Option Addr} {zs : List Int} (h : SlB B w a zs) (hb : Below B w w') : SlB B w' a zs := by
  rcases h with h | ⟨b, off, ha, hlt, hc⟩
  · exact .inl h
  · exact .inr ⟨b, off, ha, hlt, fun j hj => (hb.cell (p := ⟨b, off + j, none⟩) hlt).trans (hc j hj)⟩
theorem SlI.toB {w : World} {a : Option Addr} {zs : List Int} (h : SlI w a zs) : SlB w.heap.size w a zs := by
  rcases h with h | ⟨b, off, ha, hc⟩
  · exact .inl h
  · by_cases h0 : zs.length = 0
    · exact .inl (List.length_eq_zero_iff.1 h0)
    · exact .inr ⟨b, off, ha, block_lt_of_cell (hc 0 (by omega)), hc⟩
end Go.Proofs.Ytldlobpjmiacgaa
/- slices.AppendSeq and slices.Collect of a list's values: a list of the call's own that holds the same numbers. -/
namespace Go.Proofs.Ytldlobpjmiacgaa
set_option linter.unusedVariables false
set_option linter.unusedSimpArgs false
open Go Go.RowKit Go.Shelf
attribute [local go_sem] Oper.semAt_some
end Go.Proofs.Ytldlobpjmiacgaa
/- slices.Sort at []int64: the library's contract, at this program. -/
namespace Go.Proofs.Ytldlobpjmiacgaa
set_option linter.unusedVariables false
set_option linter.unusedSimpArgs false
open Go Go.RowKit Go.Shelf Go.Proofs
def rhoS : Ren := ⟨fun x => match x with | 5 => 116 | 7 => 121 | 8 => 122 | 10 => 123 | 11 => 124 | 12 => 125 | 13 => 126 | 14 => 127 | 15 => 128 | 16 => 129 | 17 => 130 | 18 => 131 | 19 => 119 | 20 => 132 | 30 => 133 | 31 => 134 | 24 => 135 | 33 => 136 | 34 => 137 | 35 => 138 | 40 => 139 | _ => x, fun x => match x with | 0 => 0 | 3 => 3 | 4 => 4 | 5 => 5 | 9 => 9 | 25 => 25 | 22 => 25 | 28 => 2 | 24 => 111 | 35 => 117 | 36 => 118 | 41 => 122 | 44 => 82 | 46 => 43 | 53 => 125 | 65 => 129 | 63 => 131 | 64 => 132 | _ => x, fun x => x⟩
end Go.Proofs.Ytldlobpjmiacgaa
/- slices.Sorted(slices.Values(list)): a list of the call's own that holds the numbers in order. -/
namespace Go.Proofs.Ytldlobpjmiacgaa
set_option linter.unusedVariables false
set_option linter.unusedSimpArgs false
open Go Go.RowKit Go.Shelf Go.Proofs Go.Sort
def srt (zs : List Int) : List Int := zs.mergeSort fun x y => decide (x ≤ y)
theorem srt_len (zs : List Int) : (srt zs).length = zs.length := List.length_mergeSort zs
end Go.Proofs.Ytldlobpjmiacgaa
/- Orders: the program's test. -/
namespace Go.Proofs.Ytldlobpjmiacgaa
set_option linter.unusedVariables false
set_option linter.unusedSimpArgs false
open Go Go.RowKit Go.Shelf
/-- All numbers below n, each once. -/
def ordB (zs : List Int) (n : Int) : Bool := decide ((zs.length : Int) = n) && (allB zs n && decide zs.Nodup)
theorem srt_perm (zs : List Int) : (srt zs).Perm zs := List.mergeSort_perm zs _
theorem srt_pair (zs : List Int) : (srt zs).Pairwise (· ≤ ·) := by
  have h := List.pairwise_mergeSort (le := fun (x y : Int) => decide (x ≤ y)) (fun a b c h1 h2 => by simp at *; omega) (fun a b => by simp; omega) zs
  exact h.imp fun h => by simpa using h
theorem allB_mem {zs : List Int} {n : Int} : allB zs n = true ↔ ∀ z ∈ zs, belowB z n = true := by
  unfold allB; exact List.all_eq_true
theorem pair_asc {zs : List Int} (h : zs.Pairwise (· < ·)) : ascB zs = true := by
  refine ascB_yes (m := zs.length) (fun i _ hi => ?_) (by omega)
  have := List.pairwise_iff_getElem.1 h i (i + 1) (by omega) hi (by omega)
  simpa [List.getD, List.getElem?_eq_getElem (show i < zs.length by omega), List.getElem?_eq_getElem hi] using this
theorem srt_set (zs : List Int) (n : Int) : setB (srt zs) n = (allB zs n && decide zs.Nodup) := by
  have hall : allB (srt zs) n = allB zs n := by
    rw [Bool.eq_iff_iff, allB_mem, allB_mem]
    exact ⟨fun h z hz => h z ((srt_perm zs).mem_iff.2 hz), fun h z hz => h z ((srt_perm zs).mem_iff.1 hz)⟩
  cases ha : allB zs n with
  | false => unfold setB; rw [hall, ha, Bool.and_false]; rfl
  | true =>
    rw [Bool.true_and, Bool.eq_iff_iff, decide_eq_true_iff]
    constructor
    · intro h
      have hp := set_pair h
      have : (srt zs).Nodup := hp.imp fun h e => by omega
      exact (srt_perm zs).nodup_iff.1 this
    · intro h
      have hn : (srt zs).Nodup := (srt_perm zs).nodup_iff.2 h
      have hp : (srt zs).Pairwise (· < ·) := by
        have := List.Pairwise.and (srt_pair zs) hn
        exact this.imp fun h => by have h1 := h.1; have h2 := h.2; omega
      unfold setB
      rw [pair_asc hp, hall, ha]; rfl
end Go.Proofs.Ytldlobpjmiacgaa
/- Orders: the model's test. -/
namespace Go.Proofs.Ytldlobpjmiacgaa
set_option linter.unusedVariables false
set_option linter.unusedSimpArgs false
open Go Go.RowKit Go.Shelf
theorem info4 : (Try.prog.info? 4).map (fun i => (i.zero, i.size, i.bytes)) = some (some (.bool false), 1, 1) := by kernel_rfl
def metC (N : Nat) (zs : List Int) (j : Nat) : Array Value := ((List.range N).map fun q => Value.bool (memB (zs.take j) q)).toArray
theorem metC_get {N : Nat} {zs : List Int} {j q : Nat} (h : q < N) : (metC N zs j)[q]? = some (.bool (memB (zs.take j) q)) := by simp [metC, h]
theorem metC_0 (N : Nat) (zs : List Int) : madeCells #[.bool false] N = metC N zs 0 := by
  apply Array.ext'
  rw [toList_madeCells_one]
  show List.replicate N (Value.bool false) = (List.range N).map fun q => Value.bool (memB (zs.take 0) q)
  apply List.ext_getElem
  · simp
  · intro i h1 h2
    simp [memB]
theorem metC_step {N : Nat} {zs : List Int} {j q : Nat} (hj : j < zs.length) (hq : zs.getD j 0 = (q : Int)) : (metC N zs j).setIfInBounds q (.bool true) = metC N zs (j + 1) := by
  have hg : zs.getD j 0 = zs[j] := by simp [List.getD, List.getElem?_eq_getElem hj]
  apply Array.ext_getElem?
  intro i
  rw [Array.getElem?_setIfInBounds]
  by_cases hi : i < N
  · rw [metC_get hi]
    by_cases e : q = i
    · subst e
      rw [if_pos rfl, if_pos (by simpa [metC] using hi)]
      have : memB (zs.take (j + 1)) q = true := by
        rw [List.take_succ_eq_append_getElem hj]
        exact decide_eq_true (List.mem_append.2 (.inr (List.mem_singleton.2 (by rw [← hg, hq]))))
      rw [metC_get hi, this]
    · simp only [if_neg e, metC_get hi]
      have : memB (zs.take (j + 1)) i = memB (zs.take j) i := by
        rw [List.take_succ_eq_append_getElem hj]
        unfold memB
        congr 1
        simp only [List.mem_append, List.mem_singleton, ← hg, hq, eq_iff_iff]
        constructor
        · rintro (h | h)
          · exact h
          · omega
        · exact fun h => .inl h
      rw [this]
  · have h1 : (metC N zs j)[i]? = none := by rw [Array.getElem?_eq_none_iff]; simp [metC]; omega
    have h2 : (metC N zs (j + 1))[i]? = none := by rw [Array.getElem?_eq_none_iff]; simp [metC]; omega
    rw [h1, h2]
    split
    · rw [if_neg (by simp [metC]; omega)]
    · rfl
def Ord (zs : List Int) (n : Int) (j : Nat) : Prop := (∀ z ∈ zs.take j, belowB z n = true) ∧ (zs.take j).Nodup
theorem Ord.step {zs : List Int} {n : Int} {j : Nat} (h : Ord zs n j) (hj : j < zs.length) (h1 : belowB (zs.getD j 0) n = true) (h2 : ¬ zs.getD j 0 ∈ zs.take j) : Ord zs n (j + 1) := by
  have hg : zs.getD j 0 = zs[j] := by simp [List.getD, List.getElem?_eq_getElem hj]
  unfold Ord
  rw [List.take_succ_eq_append_getElem hj, ← hg]
  refine ⟨fun z hz => ?_, ?_⟩
  · rcases List.mem_append.1 hz with hz | hz
    · exact h.1 z hz
    · rw [List.mem_singleton.1 hz]; exact h1
  · rw [List.nodup_append]
    refine ⟨h.2, by simp, fun a ha b hb e => ?_⟩
    rw [List.mem_singleton.1 hb] at e
    subst e; exact h2 ha
theorem Ord.done {zs : List Int} {n : Int} (h : Ord zs n zs.length) : ordB zs n = decide ((zs.length : Int) = n) := by
  unfold Ord at h
  rw [List.take_length] at h
  unfold ordB
  rw [allB_mem.2 h.1, decide_eq_true h.2]; simp
theorem ord_out {zs : List Int} {n : Int} {j : Nat} (hj : j < zs.length) (h : belowB (zs.getD j 0) n = false) : ordB zs n = false := by
  unfold ordB; rw [allB_no hj h]; simp
theorem ord_twice {zs : List Int} {n : Int} {j : Nat} (hj : j < zs.length) (h : zs.getD j 0 ∈ zs.take j) : ordB zs n = false := by
  have hg : zs.getD j 0 = zs[j] := by simp [List.getD, List.getElem?_eq_getElem hj]
  have hn : ¬ zs.Nodup := fun hn => by
    rw [← List.take_append_drop j zs, List.nodup_append] at hn
    refine hn.2.2 _ h _ ?_ rfl
    rw [hg, List.mem_drop_iff_getElem]
    exact ⟨0, by omega, by simp⟩
  unfold ordB; rw [decide_eq_false hn]; simp
def RelOr (N : Nat) (zs : List Int) (a : Option Addr) (w : World) (j : Nat) (wr : World) : Prop := Blk wr w.heap.size (metC N zs j) 4 ∧ SlI wr a zs ∧ Below w.heap.size w wr
end Go.Proofs.Ytldlobpjmiacgaa
/- ExchangeColours: what both answer, the rule, the model. -/
namespace Go.Proofs.Ytldlobpjmiacgaa
set_option linter.unusedVariables false
set_option linter.unusedSimpArgs false
open Go Go.RowKit Go.Shelf
theorem ord_len {zs : List Int} {n : Int} (h : ordB zs n = true) : (zs.length : Int) = n ∧ allB zs n = true ∧ zs.Nodup := by
  unfold ordB at h
  rw [Bool.and_eq_true, Bool.and_eq_true] at h
  exact ⟨of_decide_eq_true h.1, h.2.1, of_decide_eq_true h.2.2⟩
def exCode (n k : Int) (bs : List Nat) (zs : List Int) : Int := if isCol n k bs = true then (if ordB zs k = true then 0 else 2) else 1
def exN (n k : Int) (bs : List Nat) (zs : List Int) : Int := if exCode n k bs zs = 0 then n else 0
def exK (n k : Int) (bs : List Nat) (zs : List Int) : Int := if exCode n k bs zs = 0 then k else 0
def exB (n k : Int) (bs : List Nat) (zs : List Int) : List Nat := if exCode n k bs zs = 0 then paintB n.toNat (fun lo hi => zs.getD (colAt bs lo hi).toNat 0) else zbl
def exOut (n k : Int) (bs : List Nat) (zs : List Int) : Value := .tuple #[.agg (ccells (exN n k bs zs) (exK n k bs zs) (exB n k bs zs)).toArray, .int .i64 (exCode n k bs zs)]
theorem exOut_bad {n k : Int} {bs : List Nat} {zs : List Int} {m : Int} (h : exCode n k bs zs = m) (hm : m ≠ 0) : exOut n k bs zs = .tuple #[.agg (ccells 0 0 zbl).toArray, .int .i64 m] := by
  unfold exOut exN exK exB
  rw [h, if_neg hm, if_neg hm, if_neg hm]
theorem exOut_good {n k : Int} {bs : List Nat} {zs : List Int} (h : exCode n k bs zs = 0) : exOut n k bs zs = .tuple #[.agg (ccells n k (paintB n.toNat (fun lo hi => zs.getD (colAt bs lo hi).toNat 0))).toArray, .int .i64 0] := by
  unfold exOut exN exK exB
  rw [h, if_pos rfl, if_pos rfl, if_pos rfl]
theorem exCode_1 {n k : Int} {bs : List Nat} {zs : List Int} (h : isCol n k bs = false) : exCode n k bs zs = 1 := by simp [exCode, h]
theorem exCode_2 {n k : Int} {bs : List Nat} {zs : List Int} (h : isCol n k bs = true) (h2 : ordB zs k = false) : exCode n k bs zs = 2 := by simp [exCode, h, h2]
theorem exCode_0 {n k : Int} {bs : List Nat} {zs : List Int} (h : isCol n k bs = true) (h2 : ordB zs k = true) : exCode n k bs zs = 0 := by simp [exCode, h, h2]
theorem ex_rng {zs : List Int} {k : Int} (h : allB zs k = true) (hk : k ≤ 17) (x : Nat) : 0 ≤ zs.getD x 0 ∧ zs.getD x 0 < 256 := by
  by_cases hx : x < zs.length
  · have := allB_get h hx; omega
  · rw [List.getD, List.getElem?_eq_none (by omega)]; simp
theorem exB_bys (n k : Int) {bs : List Nat} (zs : List Int) : Bys (exB n k bs zs) := by
  unfold exB
  split
  · rename_i h
    unfold exCode at h
    split at h
    · rename_i hi
      split at h
      · rename_i ho
        have := isCol_bd hi
        exact paintB_bys fun lo hi => ex_rng (ord_len ho).2.1 (by omega) _
      · cases h
    · cases h
  · exact zbl_bys
end Go.Proofs.Ytldlobpjmiacgaa
/- RenumberPoints: what both answer, and the model. -/
namespace Go.Proofs.Ytldlobpjmiacgaa
set_option linter.unusedVariables false
set_option linter.unusedSimpArgs false
open Go Go.RowKit Go.Shelf
def rnF (zs : List Int) (bs : List Nat) (b : List Nat) (t : Nat × Nat × Nat) : List Nat := b.set (eix (zs.getD t.2.1 0) (zs.getD t.2.2 0)).toNat (bs.getD t.1 0)
theorem rnF_bys {zs : List Int} {bs : List Nat} (hb : Bys bs) : ∀ (l : List (Nat × Nat × Nat)) (b : List Nat), Bys b → Bys (l.foldl (rnF zs bs) b)
  | [], b, h => h
  | t :: l, b, h => rnF_bys hb l _ (h.set _ _ (hb.lt _))
def rnB (N : Nat) (zs : List Int) (bs : List Nat) : List Nat := (eseq N).foldl (rnF zs bs) zbl
def rnP (zs : List Int) (bs : List Nat) (j i : Nat) : List Nat := (eseq j ++ rowE j i).foldl (rnF zs bs) zbl
theorem rnP_step (zs : List Int) (bs : List Nat) (j i : Nat) : rnP zs bs j (i + 1) = (rnP zs bs j i).set (eix (zs.getD i 0) (zs.getD j 0)).toNat (bs.getD (eN j + i) 0) := by
  unfold rnP
  rw [rowE_succ, ← List.append_assoc, List.foldl_append]
  rfl
theorem rnP_row (zs : List Int) (bs : List Nat) (j : Nat) : rnP zs bs j j = rnP zs bs (j + 1) 0 := by
  unfold rnP
  rw [show eseq (j + 1) = eseq j ++ rowE j j from rfl]
  simp [rowE]
theorem rnP_done (zs : List Int) (bs : List Nat) (j : Nat) : rnP zs bs j 0 = rnB j zs bs := by
  unfold rnP rnB
  simp [rowE]
theorem rnP_bys {zs : List Int} {bs : List Nat} (hb : Bys bs) (j i : Nat) : Bys (rnP zs bs j i) := rnF_bys hb _ _ zbl_bys
def rnCode (n k : Int) (bs : List Nat) (zs : List Int) : Int := if isCol n k bs = true then (if ordB zs n = true then 0 else 2) else 1
def rnN (n k : Int) (bs : List Nat) (zs : List Int) : Int := if rnCode n k bs zs = 0 then n else 0
def rnK (n k : Int) (bs : List Nat) (zs : List Int) : Int := if rnCode n k bs zs = 0 then k else 0
def rnBB (n k : Int) (bs : List Nat) (zs : List Int) : List Nat := if rnCode n k bs zs = 0 then rnB n.toNat zs bs else zbl
def rnOut (n k : Int) (bs : List Nat) (zs : List Int) : Value := .tuple #[.agg (ccells (rnN n k bs zs) (rnK n k bs zs) (rnBB n k bs zs)).toArray, .int .i64 (rnCode n k bs zs)]
theorem rnOut_bad {n k : Int} {bs : List Nat} {zs : List Int} {m : Int} (h : rnCode n k bs zs = m) (hm : m ≠ 0) : rnOut n k bs zs = .tuple #[.agg (ccells 0 0 zbl).toArray, .int .i64 m] := by
  unfold rnOut rnN rnK rnBB
  rw [h, if_neg hm, if_neg hm, if_neg hm]
theorem rnOut_good {n k : Int} {bs : List Nat} {zs : List Int} (h : rnCode n k bs zs = 0) : rnOut n k bs zs = .tuple #[.agg (ccells n k (rnB n.toNat zs bs)).toArray, .int .i64 0] := by
  unfold rnOut rnN rnK rnBB
  rw [h, if_pos rfl, if_pos rfl, if_pos rfl]
theorem rnCode_1 {n k : Int} {bs : List Nat} {zs : List Int} (h : isCol n k bs = false) : rnCode n k bs zs = 1 := by simp [rnCode, h]
theorem rnCode_2 {n k : Int} {bs : List Nat} {zs : List Int} (h : isCol n k bs = true) (h2 : ordB zs n = false) : rnCode n k bs zs = 2 := by simp [rnCode, h, h2]
theorem rnCode_0 {n k : Int} {bs : List Nat} {zs : List Int} (h : isCol n k bs = true) (h2 : ordB zs n = true) : rnCode n k bs zs = 0 := by simp [rnCode, h, h2]
theorem rnBB_bys (n k : Int) {bs : List Nat} (hb : Bys bs) (zs : List Int) : Bys (rnBB n k bs zs) := by
  unfold rnBB
  split
  · exact rnF_bys hb _ _ zbl_bys
  · exact zbl_bys
theorem ord_two {zs : List Int} {n : Int} (h : ordB zs n = true) {i j : Nat} (hij : i < j) (hj : j < zs.length) : (0 ≤ zs.getD i 0 ∧ zs.getD i 0 < n) ∧ (0 ≤ zs.getD j 0 ∧ zs.getD j 0 < n) ∧ zs.getD i 0 ≠ zs.getD j 0 := by
  obtain ⟨h1, h2, h3⟩ := ord_len h
  refine ⟨allB_get h2 (by omega), allB_get h2 hj, fun e => ?_⟩
  have := List.pairwise_iff_getElem.1 h3 i j (by omega) hj hij
  simp only [List.getD, List.getElem?_eq_getElem (show i < zs.length by omega), List.getElem?_eq_getElem hj, Option.getD_some] at e
  exact this e
def RelRn (n k : Int) (bs : List Nat) (zs : List Int) (a : Option Addr) (w : World) (j i : Nat) (wr : World) : Prop :=
  Blk wr w.heap.size (ccells n k bs).toArray 28 ∧ Blk wr (w.heap.size + 1) (ccells 0 0 zbl).toArray 28 ∧ Blk wr (w.heap.size + 1 + 1) (ccells n k (rnP zs bs j i)).toArray 28 ∧ SlI wr a zs ∧ Below w.heap.size w wr
end Go.Proofs.Ytldlobpjmiacgaa
/- RenumberPoints: its model. -/
namespace Go.Proofs.Ytldlobpjmiacgaa
set_option linter.unusedVariables false
set_option linter.unusedSimpArgs false
open Go Go.RowKit Go.Shelf
end Go.Proofs.Ytldlobpjmiacgaa
/- RenumberPoints: the program. -/
namespace Go.Proofs.Ytldlobpjmiacgaa
set_option linter.unusedVariables false
set_option linter.unusedSimpArgs false
open Go Go.RowKit Go.Shelf
attribute [local go_sem] Oper.semAt_some
def RelRe {N : Nat} (k : Int) (bs : List Nat) (zs : List Int) (a : Option Addr) (cap : Nat) (g : Nat) (w : World) (pre : List (Edg N)) (W : World) : Prop :=
  Blk W w.heap.size (ccells (N : Int) k bs).toArray 28 ∧ Blk W (w.heap.size + 1) #[.slice a zs.length cap] 25 ∧ Blk W (w.heap.size + 1 + 1) (ccells 0 0 zbl).toArray 28 ∧ Blk W g (ccells (N : Int) k ((pre.map Edg.v).foldl (rnF zs bs) zbl)).toArray 28 ∧ Below w.heap.size w W
end Go.Proofs.Ytldlobpjmiacgaa
