/- My texts Seq, Collect, Lay, Sort, Order, OrderMo, Exch, Ren, RenSp, RenIm, in one. -/
import Derived.Test.YtljlbonoohhhdaaGb
import Derived.Test.YtljlbonoohhhdaaGa
import Derived.RangeFuncBox
import Derived.RangeFuncLeaves
import Derived.OwnWalkIn
import Derived.TacticsInMore
import Derived.Shelf.SortM.Plain
import Derived.Sort.OwnSortedInts
import Derived.Test.YtljlbonoohhhdaaGc
/- slices.Values, slices.Collect: a list handed on as a function, and gathered again. -/
namespace Go.Proofs.Ytljlbonoohhhdaa
set_option linter.unusedVariables false
set_option linter.unusedSimpArgs false
open Go Go.RowKit Go.Shelf
/-- A list that lies below a bound. -/
def SlB (B : Nat) (w : World) (a : Option Addr) (zs : List Int) : Prop := zs = [] ∨ ∃ b off, a = some ⟨b, off, none⟩ ∧ b < B ∧ ∀ j, j < zs.length → w.cell? ⟨b, off + j, none⟩ = some (.int .i64 (zs.getD j 0))
theorem SlB.below {B : Nat} {w w' : World} {a : Option Addr} {zs : List Int} (h : SlB B w a zs) (hb : Below B w w') : SlB B w' a zs := by
  rcases h with h | ⟨b, off, ha, hlt, hc⟩
  · exact .inl h
  · exact .inr ⟨b, off, ha, hlt, fun j hj => (hb.cell (p := ⟨b, off + j, none⟩) hlt).trans (hc j hj)⟩
theorem SlI.toB {w : World} {a : Option Addr} {zs : List Int} (h : SlI w a zs) : SlB w.heap.size w a zs := by
  rcases h with h | ⟨b, off, ha, hc⟩
  · exact .inl h
  · by_cases h0 : zs.length = 0
    · exact .inl (List.length_eq_zero_iff.1 h0)
    · exact .inr ⟨b, off, ha, block_lt_of_cell (hc 0 (by omega)), hc⟩
set_option maxRecDepth 100000 in
set_option maxHeartbeats 1000000 in
theorem iterV (m l B b : Nat) (zs : List Int) (a : Option Addr) (cap : Nat) (hl : zs.length ≤ 9223372036854775807) (J Jx : List Int → World → Prop)
    (hY : ∀ pre x W, J pre W → pre.length < zs.length → YieldAt Fence.wide m Try.prog l #[.int .i64 x] W fun e W' =>
      (e = .returned (.bool true) ∧ J (pre ++ [x]) W' ∧ Below B W W') ∨ (e = .returned (.bool false) ∧ Jx (pre ++ [x]) W'))
    (W : World) (hB : W.cell? ⟨b, 0, none⟩ = some (.slice a zs.length cap)) (hs : SlB B W a zs) (h0 : J [] W) :
    CallsIn Fence.wide (m + 1) Try.prog 56 #[.func (.yield l) #[] #[], .pointer (some ⟨b, 0, none⟩)] W fun e W' => (∃ v, e = .returned v) ∧
      ((∃ ys : List Int, ys = zs ∧ J ys W') ∨ (∃ pre, True ∧ Jx pre W')) := by
  refine callsIn_of_wp Try.func56 rfl trivial ?_ rfl
  simp only [Try.ntmps56, List.size_toArray, List.length_cons, List.length_nil, Nat.reduceAdd, Nat.reduceSub, Array.replicate_succ, Array.replicate_zero, List.push_toArray, List.append_toArray, List.nil_append, List.cons_append]
  have HY := hidd hY
  have HS := hidd hs
  clear hY hs
  gi_wp2
  clear hB
  gi_loopw [7] (fun e wr => ∃ j : Nat, j ≤ zs.length ∧ e = .int .i64 j ∧ Hid (J (zs.take j) wr ∧ SlB B wr a zs)) (fun e _ => zs.length - (intOf e).toNat)
  case atStart => exact ⟨0, by omega, rfl, by rw [List.take_zero]; exact ⟨h0, HS.out⟩⟩
  case round =>
    obtain ⟨j, hj, rfl, HR⟩ := hrel
    by_cases hlt : j < zs.length
    · rcases HR.out.2 with hz | ⟨bl, off, ha, hlb, hc⟩
      · subst hz; simp at hlt
      · subst ha
        have hcj := hc j hlt
        obtain ⟨z, hz⟩ : ∃ z, z = zs.getD j 0 := ⟨_, rfl⟩
        rw [← hz] at hcj
        have HT := hidd (show zs.take (j + 1) = zs.take j ++ [z] by
          rw [List.take_succ_eq_append_getElem hlt, hz]; simp [List.getD, List.getElem?_eq_getElem hlt])
        obtain ⟨fn, tmps, assign, body, hy, hR⟩ := HY.out (zs.take j) z wr HR.out.1 (by simp; omega)
        have HRR := hidd hR
        clear hR hc hz
        gi_wp2
        refine HRR.out.mono ?_
        rintro e W3 (⟨rfl, hJ3, hk3⟩ | ⟨rfl, hx3⟩)
        · have K3 := hidd (And.intro (show J (zs.take (j + 1)) W3 by rw [HT.out]; exact hJ3) (HR.out.2.below hk3))
          clear hJ3 hk3
          gi_wp2
          go_roundw
          case rel => exact ⟨j + 1, by omega, by go_num, K3⟩
          case measure => simp [intOf]; omega
        · have X3 := hidd hx3
          clear hx3
          gi_wp2
          refine bodyPost_ret (results_none rfl _ _ _) rfl ?_
          exact ⟨⟨_, rfl⟩, .inr ⟨_, trivial, X3.out⟩⟩
    · have hje : j = zs.length := by omega
      subst hje
      have K := hidd HR.out.1
      gi_wp2
      go_end0
      exact ⟨⟨_, rfl⟩, .inl ⟨_, List.take_length, K.out⟩⟩
theorem seqV (m b B : Nat) (zs : List Int) (a : Option Addr) (cap : Nat) (hl : zs.length ≤ 9223372036854775807) (w : World) (hbw : b < w.heap.size) (hBw : B ≤ w.heap.size) (hB : w.cell? ⟨b, 0, none⟩ = some (.slice a zs.length cap)) (hs : SlB B w a zs) :
    SeqStopsK Fence.wide (m + 1) Try.prog 56 #[.pointer (some ⟨b, 0, none⟩)] (fun x : Int => #[.int .i64 x]) (Below B) (fun ys => ys = zs) (fun _ => True) zs.length w := fun l J Jx W hW _ _ hY h0 =>
  iterV m l B b zs a cap hl J Jx hY W ((hW.cell (p := ⟨b, 0, none⟩) hbw).trans hB) (hs.below (hW.mono hBw)) h0
set_option maxRecDepth 100000 in
theorem values84 (a : Option Addr) (len cap : Nat) (w : World) : Calls Try.prog 42 #[.slice a len cap] w fun e w' => e = .returned (.func (.func 56) #[] #[.pointer (some ⟨w.heap.size, 0, none⟩)]) ∧ w.alloc (.cells #[.slice a len cap] 22) = w' := by
  have hmf : ∀ (fn : Fn) (first cap : Array Value) (w : World), (Instr.makeFunc fn first cap).run Try.prog w = .ok (.func fn first cap) w := fun _ _ _ _ => rfl
  go_enter Try.func42, Try.ntmps42
  go_wp2
  go_ret
  exact ⟨rfl, rfl⟩
end Go.Proofs.Ytljlbonoohhhdaa
/- slices.AppendSeq and slices.Collect of a list's values: a list of the call's own that holds the same numbers. -/
namespace Go.Proofs.Ytljlbonoohhhdaa
set_option linter.unusedVariables false
set_option linter.unusedSimpArgs false
open Go Go.RowKit Go.Shelf
attribute [local go_sem] Oper.semAt_some
set_option maxRecDepth 100000 in
set_option maxHeartbeats 2000000 in
theorem append94 (b : Nat) (zs : List Int) (a : Option Addr) (cap : Nat) (hl : zs.length ≤ 1048576) (w : World) (hbw : b < w.heap.size) (hB : w.cell? ⟨b, 0, none⟩ = some (.slice a zs.length cap)) (hs : SlI w a zs) :
    Calls Try.prog 61 #[.slice none 0 0, .func (.func 56) #[] #[.pointer (some ⟨b, 0, none⟩)]] w fun e w' => ∃ v, e = .returned v ∧ w'.ownsRow w.heap.size 2 1 v zs.length (icells zs) ∧ Below w.heap.size w w' := by
  obtain ⟨i0, hi, hz0, hz1, hz2⟩ := info_parts info2
  refine (callsIn_wide (n := 8)).1 (callsIn_of_wp_marks Try.func61 rfl trivial ?_ rfl)
  simp only [Try.ntmps61, List.size_toArray, List.length_cons, List.length_nil, Nat.reduceAdd, Nat.reduceSub, Array.replicate_succ, Array.replicate_zero, List.push_toArray, List.append_toArray, List.nil_append, List.cons_append]
  gi_wp2
  have bO := Boxed.new w 22 (.slice none 0 0)
  have hB0 : Below w.heap.size w (w.alloc (.cells #[.slice none 0 0] 22)) := (Below.refl _ w).alloc (Nat.le_refl _) _
  refine wpIn_rangeFunc_ownG rfl (by omega) (gf := 56) (lb := #[.pointer (some ⟨b, 0, none⟩)]) rfl trivial (enters_of Try.func56 (by kernel_rfl) rfl)
    (seqV 6 b w.heap.size zs a cap (by omega) _ (by simp; omega) (by simp) ((hB0.cell (p := ⟨b, 0, none⟩) hbw).trans hB) (hs.toB.below hB0)) belowK_t (belowK_b (by simp)) (Below.refl _ _) (fun _ => rfl)
    (fun pre W => (∃ v, Boxed W w.heap.size 22 v ∧ W.ownsRow w.heap.size 2 1 v pre.length (icells pre) ∧ (v = .slice none 0 0 ↔ pre = [])) ∧ Below w.heap.size w W)
    (fun _ _ _ => False)
    (OwnFrom.and (Own.from (holdsRow_own w.heap.size w.heap.size 22 2 1 (fun pre => pre.length) (fun pre => icells pre) (fun pre v => v = .slice none 0 0 ↔ pre = [])) _) (ownFrom_below (Nat.le_refl _) (by simp)))
    (fun _ _ _ _ _ hs _ _ => hs)
    ⟨⟨_, bO, World.ownsRow_nil _ _ _ _, by simp⟩, hB0⟩
    (fun x => { tmps := #[.slice none 0 0, .func (.func 56) #[] #[.pointer (some ⟨b, 0, none⟩)], .pointer (some ⟨w.heap.size, 0, none⟩), undef, .slice none 0 0, .int .i64 x, .func (.func 56) #[] #[.pointer (some ⟨b, 0, none⟩)], .int .i64 x, undef, undef, undef, undef, undef], defers := [] }) ?assign ?body ?done ?stop
  case assign =>
    intro l x W K hK
    gi_wp2
    exact hK
  case body =>
    rintro l pre x W ⟨⟨v, hv, hrow, hnil⟩, hB⟩ hlt
    have hc := hv.cell
    gi_wp2_with (gi_at_builtin; refine wpListIn_append_own _ rfl _ _ 22 rfl w.heap.size 2 i0 (.int .i64 0) 1 8 Try.underlying22 hi hz0 hz1 hz2 rfl (by decide) _ _ _ rfl (hrow.alloc _) ⟨W.heap.size, 0, none⟩ 1 1 [.int .i64 x] rfl rfl (one_new _ _ _) (by simp [Value.oneCell']) (by unfold maxLen; omega) (by omega) (by have := hB.size; simp; omega) ?_; intro v' w1 hown' hgrow _; obtain ⟨g', cap', rfl⟩ := ownsRow_succ hown'; obtain ⟨hv1, hv2, hr2, hk2, hb2⟩ := hv.appended (by decide) hrow hB.size (Nat.le_refl _) hown' hgrow; have hc1 := hv1.cell; have hf1 := hv1.frozen)
    exact ⟨hk2.from _, hb2, ⟨_, hv2, by simpa [icells] using hr2, by simp⟩, hB.trans hb2⟩
  case done =>
    rintro D ys W hD rfl ⟨⟨v, hv, hrow, hnil⟩, hB⟩ hK
    have hc := hv.cell
    gi_wp2
    refine ⟨by simp, .inl ⟨_, _, rfl, run_takeDeferred hK, ?_⟩⟩
    exact ⟨_, results_tmp rfl _ _ _, v, rfl, ownsRow_putObj hrow _ hK rfl, hB.trans (belowK_b (w := w) (Nat.le_refl _) W D _ _ (by simp at hD; omega) hK rfl rfl)⟩
  case stop =>
    rintro D c pre W _ _ h _
    exact h.elim
set_option maxRecDepth 100000 in
theorem collect88 (b : Nat) (zs : List Int) (a : Option Addr) (cap : Nat) (hl : zs.length ≤ 1048576) (w : World) (hbw : b < w.heap.size) (hB : w.cell? ⟨b, 0, none⟩ = some (.slice a zs.length cap)) (hs : SlI w a zs) :
    Calls Try.prog 54 #[.func (.func 56) #[] #[.pointer (some ⟨b, 0, none⟩)]] w fun e w' => ∃ v, e = .returned v ∧ w'.ownsRow w.heap.size 2 1 v zs.length (icells zs) ∧ Below w.heap.size w w' := by
  have H := hidd (append94 b zs a cap hl w hbw hB hs)
  clear hB hs
  go_enter Try.func54, Try.ntmps54
  go_wp2_with fail
  refine H.out.mono ?_
  rintro e w1 ⟨v, rfl, hown, hb1⟩
  go_wp2
  go_ret
  exact ⟨v, rfl, hown, hb1⟩
end Go.Proofs.Ytljlbonoohhhdaa
/- slices.Sort at []int64: the library's contract, at this program. -/
namespace Go.Proofs.Ytljlbonoohhhdaa
set_option linter.unusedVariables false
set_option linter.unusedSimpArgs false
open Go Go.RowKit Go.Shelf Go.Proofs
end Go.Proofs.Ytljlbonoohhhdaa
/- slices.Sorted(slices.Values(list)): a list of the call's own that holds the numbers in order. -/
namespace Go.Proofs.Ytljlbonoohhhdaa
set_option linter.unusedVariables false
set_option linter.unusedSimpArgs false
open Go Go.RowKit Go.Shelf Go.Proofs Go.Sort
def srt (zs : List Int) : List Int := zs.mergeSort fun x y => decide (x ≤ y)
theorem srt_len (zs : List Int) : (srt zs).length = zs.length := List.length_mergeSort zs
end Go.Proofs.Ytljlbonoohhhdaa
/- Orders: the program's test. -/
namespace Go.Proofs.Ytljlbonoohhhdaa
set_option linter.unusedVariables false
set_option linter.unusedSimpArgs false
open Go Go.RowKit Go.Shelf
/-- All numbers below n, each once. -/
def ordB (zs : List Int) (n : Int) : Bool := decide ((zs.length : Int) = n) && (allB zs n && decide zs.Nodup)
theorem srt_perm (zs : List Int) : (srt zs).Perm zs := List.mergeSort_perm zs _
theorem srt_pair (zs : List Int) : (srt zs).Pairwise (· ≤ ·) := by
  have h := List.pairwise_mergeSort (le := fun (x y : Int) => decide (x ≤ y)) (fun a b c h1 h2 => by simp at *; omega) (fun a b => by simp; omega) zs
  exact h.imp fun h => by simpa using h
theorem allB_mem {zs : List Int} {n : Int} : allB zs n = true ↔ ∀ z ∈ zs, belowB z n = true := by
  unfold allB; exact List.all_eq_true
theorem pair_asc {zs : List Int} (h : zs.Pairwise (· < ·)) : ascB zs = true := by
  refine ascB_yes (m := zs.length) (fun i _ hi => ?_) (by omega)
  have := List.pairwise_iff_getElem.1 h i (i + 1) (by omega) hi (by omega)
  simpa [List.getD, List.getElem?_eq_getElem (show i < zs.length by omega), List.getElem?_eq_getElem hi] using this
theorem srt_set (zs : List Int) (n : Int) : setB (srt zs) n = (allB zs n && decide zs.Nodup) := by
  have hall : allB (srt zs) n = allB zs n := by
    rw [Bool.eq_iff_iff, allB_mem, allB_mem]
    exact ⟨fun h z hz => h z ((srt_perm zs).mem_iff.2 hz), fun h z hz => h z ((srt_perm zs).mem_iff.1 hz)⟩
  cases ha : allB zs n with
  | false => unfold setB; rw [hall, ha, Bool.and_false]; rfl
  | true =>
    rw [Bool.true_and, Bool.eq_iff_iff, decide_eq_true_iff]
    constructor
    · intro h
      have hp := set_pair h
      have : (srt zs).Nodup := hp.imp fun h e => by omega
      exact (srt_perm zs).nodup_iff.1 this
    · intro h
      have hn : (srt zs).Nodup := (srt_perm zs).nodup_iff.2 h
      have hp : (srt zs).Pairwise (· < ·) := by
        have := List.Pairwise.and (srt_pair zs) hn
        exact this.imp fun h => by have h1 := h.1; have h2 := h.2; omega
      unfold setB
      rw [pair_asc hp, hall, ha]; rfl
end Go.Proofs.Ytljlbonoohhhdaa
/- Orders: the model's test. -/
namespace Go.Proofs.Ytljlbonoohhhdaa
set_option linter.unusedVariables false
set_option linter.unusedSimpArgs false
open Go Go.RowKit Go.Shelf
theorem info4 : (Try.prog.info? 4).map (fun i => (i.zero, i.size, i.bytes)) = some (some (.bool false), 1, 1) := by kernel_rfl
def metC (N : Nat) (zs : List Int) (j : Nat) : Array Value := ((List.range N).map fun q => Value.bool (memB (zs.take j) q)).toArray
theorem metC_get {N : Nat} {zs : List Int} {j q : Nat} (h : q < N) : (metC N zs j)[q]? = some (.bool (memB (zs.take j) q)) := by simp [metC, h]
theorem metC_0 (N : Nat) (zs : List Int) : madeCells #[.bool false] N = metC N zs 0 := by
  apply Array.ext'
  rw [toList_madeCells_one]
  show List.replicate N (Value.bool false) = (List.range N).map fun q => Value.bool (memB (zs.take 0) q)
  apply List.ext_getElem
  · simp
  · intro i h1 h2
    simp [memB]
theorem metC_step {N : Nat} {zs : List Int} {j q : Nat} (hj : j < zs.length) (hq : zs.getD j 0 = (q : Int)) : (metC N zs j).setIfInBounds q (.bool true) = metC N zs (j + 1) := by
  have hg : zs.getD j 0 = zs[j] := by simp [List.getD, List.getElem?_eq_getElem hj]
  apply Array.ext_getElem?
  intro i
  rw [Array.getElem?_setIfInBounds]
  by_cases hi : i < N
  · rw [metC_get hi]
    by_cases e : q = i
    · subst e
      rw [if_pos rfl, if_pos (by simpa [metC] using hi)]
      have : memB (zs.take (j + 1)) q = true := by
        rw [List.take_succ_eq_append_getElem hj]
        exact decide_eq_true (List.mem_append.2 (.inr (List.mem_singleton.2 (by rw [← hg, hq]))))
      rw [metC_get hi, this]
    · simp only [if_neg e, metC_get hi]
      have : memB (zs.take (j + 1)) i = memB (zs.take j) i := by
        rw [List.take_succ_eq_append_getElem hj]
        unfold memB
        congr 1
        simp only [List.mem_append, List.mem_singleton, ← hg, hq, eq_iff_iff]
        constructor
        · rintro (h | h)
          · exact h
          · omega
        · exact fun h => .inl h
      rw [this]
  · have h1 : (metC N zs j)[i]? = none := by rw [Array.getElem?_eq_none_iff]; simp [metC]; omega
    have h2 : (metC N zs (j + 1))[i]? = none := by rw [Array.getElem?_eq_none_iff]; simp [metC]; omega
    rw [h1, h2]
    split
    · rw [if_neg (by simp [metC]; omega)]
    · rfl
def Ord (zs : List Int) (n : Int) (j : Nat) : Prop := (∀ z ∈ zs.take j, belowB z n = true) ∧ (zs.take j).Nodup
theorem Ord.step {zs : List Int} {n : Int} {j : Nat} (h : Ord zs n j) (hj : j < zs.length) (h1 : belowB (zs.getD j 0) n = true) (h2 : ¬ zs.getD j 0 ∈ zs.take j) : Ord zs n (j + 1) := by
  have hg : zs.getD j 0 = zs[j] := by simp [List.getD, List.getElem?_eq_getElem hj]
  unfold Ord
  rw [List.take_succ_eq_append_getElem hj, ← hg]
  refine ⟨fun z hz => ?_, ?_⟩
  · rcases List.mem_append.1 hz with hz | hz
    · exact h.1 z hz
    · rw [List.mem_singleton.1 hz]; exact h1
  · rw [List.nodup_append]
    refine ⟨h.2, by simp, fun a ha b hb e => ?_⟩
    rw [List.mem_singleton.1 hb] at e
    subst e; exact h2 ha
theorem Ord.done {zs : List Int} {n : Int} (h : Ord zs n zs.length) : ordB zs n = decide ((zs.length : Int) = n) := by
  unfold Ord at h
  rw [List.take_length] at h
  unfold ordB
  rw [allB_mem.2 h.1, decide_eq_true h.2]; simp
theorem ord_out {zs : List Int} {n : Int} {j : Nat} (hj : j < zs.length) (h : belowB (zs.getD j 0) n = false) : ordB zs n = false := by
  unfold ordB; rw [allB_no hj h]; simp
theorem ord_twice {zs : List Int} {n : Int} {j : Nat} (hj : j < zs.length) (h : zs.getD j 0 ∈ zs.take j) : ordB zs n = false := by
  have hg : zs.getD j 0 = zs[j] := by simp [List.getD, List.getElem?_eq_getElem hj]
  have hn : ¬ zs.Nodup := fun hn => by
    rw [← List.take_append_drop j zs, List.nodup_append] at hn
    refine hn.2.2 _ h _ ?_ rfl
    rw [hg, List.mem_drop_iff_getElem]
    exact ⟨0, by omega, by simp⟩
  unfold ordB; rw [decide_eq_false hn]; simp
def RelOr (N : Nat) (zs : List Int) (a : Option Addr) (w : World) (j : Nat) (wr : World) : Prop := Blk wr w.heap.size (metC N zs j) 4 ∧ SlI wr a zs ∧ Below w.heap.size w wr
end Go.Proofs.Ytljlbonoohhhdaa
/- ExchangeColours: what both answer, the rule, the model. -/
namespace Go.Proofs.Ytljlbonoohhhdaa
set_option linter.unusedVariables false
set_option linter.unusedSimpArgs false
open Go Go.RowKit Go.Shelf
theorem ord_len {zs : List Int} {n : Int} (h : ordB zs n = true) : (zs.length : Int) = n ∧ allB zs n = true ∧ zs.Nodup := by
  unfold ordB at h
  rw [Bool.and_eq_true, Bool.and_eq_true] at h
  exact ⟨of_decide_eq_true h.1, h.2.1, of_decide_eq_true h.2.2⟩
def exCode (n k : Int) (bs : List Nat) (zs : List Int) : Int := if isCol n k bs = true then (if ordB zs k = true then 0 else 2) else 1
def exN (n k : Int) (bs : List Nat) (zs : List Int) : Int := if exCode n k bs zs = 0 then n else 0
def exK (n k : Int) (bs : List Nat) (zs : List Int) : Int := if exCode n k bs zs = 0 then k else 0
def exB (n k : Int) (bs : List Nat) (zs : List Int) : List Nat := if exCode n k bs zs = 0 then paintB n.toNat (fun lo hi => zs.getD (colAt bs lo hi).toNat 0) else zbl
def exOut (n k : Int) (bs : List Nat) (zs : List Int) : Value := .tuple #[.agg (ccells (exN n k bs zs) (exK n k bs zs) (exB n k bs zs)).toArray, .int .i64 (exCode n k bs zs)]
theorem exOut_bad {n k : Int} {bs : List Nat} {zs : List Int} {m : Int} (h : exCode n k bs zs = m) (hm : m ≠ 0) : exOut n k bs zs = .tuple #[.agg (ccells 0 0 zbl).toArray, .int .i64 m] := by
  unfold exOut exN exK exB
  rw [h, if_neg hm, if_neg hm, if_neg hm]
theorem exOut_good {n k : Int} {bs : List Nat} {zs : List Int} (h : exCode n k bs zs = 0) : exOut n k bs zs = .tuple #[.agg (ccells n k (paintB n.toNat (fun lo hi => zs.getD (colAt bs lo hi).toNat 0))).toArray, .int .i64 0] := by
  unfold exOut exN exK exB
  rw [h, if_pos rfl, if_pos rfl, if_pos rfl]
theorem exCode_1 {n k : Int} {bs : List Nat} {zs : List Int} (h : isCol n k bs = false) : exCode n k bs zs = 1 := by simp [exCode, h]
theorem exCode_2 {n k : Int} {bs : List Nat} {zs : List Int} (h : isCol n k bs = true) (h2 : ordB zs k = false) : exCode n k bs zs = 2 := by simp [exCode, h, h2]
theorem exCode_0 {n k : Int} {bs : List Nat} {zs : List Int} (h : isCol n k bs = true) (h2 : ordB zs k = true) : exCode n k bs zs = 0 := by simp [exCode, h, h2]
theorem ex_rng {zs : List Int} {k : Int} (h : allB zs k = true) (hk : k ≤ 17) (x : Nat) : 0 ≤ zs.getD x 0 ∧ zs.getD x 0 < 256 := by
  by_cases hx : x < zs.length
  · have := allB_get h hx; omega
  · rw [List.getD, List.getElem?_eq_none (by omega)]; simp
theorem exB_bys (n k : Int) {bs : List Nat} (zs : List Int) : Bys (exB n k bs zs) := by
  unfold exB
  split
  · rename_i h
    unfold exCode at h
    split at h
    · rename_i hi
      split at h
      · rename_i ho
        have := isCol_bd hi
        exact paintB_bys fun lo hi => ex_rng (ord_len ho).2.1 (by omega) _
      · cases h
    · cases h
  · exact zbl_bys
end Go.Proofs.Ytljlbonoohhhdaa
/- RenumberPoints: what both answer, and the model. -/
namespace Go.Proofs.Ytljlbonoohhhdaa
set_option linter.unusedVariables false
set_option linter.unusedSimpArgs false
open Go Go.RowKit Go.Shelf
def rnF (zs : List Int) (bs : List Nat) (b : List Nat) (t : Nat × Nat × Nat) : List Nat := b.set (eix (zs.getD t.2.1 0) (zs.getD t.2.2 0)).toNat (bs.getD t.1 0)
theorem rnF_bys {zs : List Int} {bs : List Nat} (hb : Bys bs) : ∀ (l : List (Nat × Nat × Nat)) (b : List Nat), Bys b → Bys (l.foldl (rnF zs bs) b)
  | [], b, h => h
  | t :: l, b, h => rnF_bys hb l _ (h.set _ _ (hb.lt _))
def rnB (N : Nat) (zs : List Int) (bs : List Nat) : List Nat := (eseq N).foldl (rnF zs bs) zbl
def rnP (zs : List Int) (bs : List Nat) (j i : Nat) : List Nat := (eseq j ++ rowE j i).foldl (rnF zs bs) zbl
theorem rnP_step (zs : List Int) (bs : List Nat) (j i : Nat) : rnP zs bs j (i + 1) = (rnP zs bs j i).set (eix (zs.getD i 0) (zs.getD j 0)).toNat (bs.getD (eN j + i) 0) := by
  unfold rnP
  rw [rowE_succ, ← List.append_assoc, List.foldl_append]
  rfl
theorem rnP_row (zs : List Int) (bs : List Nat) (j : Nat) : rnP zs bs j j = rnP zs bs (j + 1) 0 := by
  unfold rnP
  rw [show eseq (j + 1) = eseq j ++ rowE j j from rfl]
  simp [rowE]
theorem rnP_done (zs : List Int) (bs : List Nat) (j : Nat) : rnP zs bs j 0 = rnB j zs bs := by
  unfold rnP rnB
  simp [rowE]
theorem rnP_bys {zs : List Int} {bs : List Nat} (hb : Bys bs) (j i : Nat) : Bys (rnP zs bs j i) := rnF_bys hb _ _ zbl_bys
def rnCode (n k : Int) (bs : List Nat) (zs : List Int) : Int := if isCol n k bs = true then (if ordB zs n = true then 0 else 2) else 1
def rnN (n k : Int) (bs : List Nat) (zs : List Int) : Int := if rnCode n k bs zs = 0 then n else 0
def rnK (n k : Int) (bs : List Nat) (zs : List Int) : Int := if rnCode n k bs zs = 0 then k else 0
def rnBB (n k : Int) (bs : List Nat) (zs : List Int) : List Nat := if rnCode n k bs zs = 0 then rnB n.toNat zs bs else zbl
def rnOut (n k : Int) (bs : List Nat) (zs : List Int) : Value := .tuple #[.agg (ccells (rnN n k bs zs) (rnK n k bs zs) (rnBB n k bs zs)).toArray, .int .i64 (rnCode n k bs zs)]
theorem rnOut_bad {n k : Int} {bs : List Nat} {zs : List Int} {m : Int} (h : rnCode n k bs zs = m) (hm : m ≠ 0) : rnOut n k bs zs = .tuple #[.agg (ccells 0 0 zbl).toArray, .int .i64 m] := by
  unfold rnOut rnN rnK rnBB
  rw [h, if_neg hm, if_neg hm, if_neg hm]
theorem rnOut_good {n k : Int} {bs : List Nat} {zs : List Int} (h : rnCode n k bs zs = 0) : rnOut n k bs zs = .tuple #[.agg (ccells n k (rnB n.toNat zs bs)).toArray, .int .i64 0] := by
  unfold rnOut rnN rnK rnBB
  rw [h, if_pos rfl, if_pos rfl, if_pos rfl]
theorem rnCode_1 {n k : Int} {bs : List Nat} {zs : List Int} (h : isCol n k bs = false) : rnCode n k bs zs = 1 := by simp [rnCode, h]
theorem rnCode_2 {n k : Int} {bs : List Nat} {zs : List Int} (h : isCol n k bs = true) (h2 : ordB zs n = false) : rnCode n k bs zs = 2 := by simp [rnCode, h, h2]
theorem rnCode_0 {n k : Int} {bs : List Nat} {zs : List Int} (h : isCol n k bs = true) (h2 : ordB zs n = true) : rnCode n k bs zs = 0 := by simp [rnCode, h, h2]
theorem rnBB_bys (n k : Int) {bs : List Nat} (hb : Bys bs) (zs : List Int) : Bys (rnBB n k bs zs) := by
  unfold rnBB
  split
  · exact rnF_bys hb _ _ zbl_bys
  · exact zbl_bys
theorem ord_two {zs : List Int} {n : Int} (h : ordB zs n = true) {i j : Nat} (hij : i < j) (hj : j < zs.length) : (0 ≤ zs.getD i 0 ∧ zs.getD i 0 < n) ∧ (0 ≤ zs.getD j 0 ∧ zs.getD j 0 < n) ∧ zs.getD i 0 ≠ zs.getD j 0 := by
  obtain ⟨h1, h2, h3⟩ := ord_len h
  refine ⟨allB_get h2 (by omega), allB_get h2 hj, fun e => ?_⟩
  have := List.pairwise_iff_getElem.1 h3 i j (by omega) hj hij
  simp only [List.getD, List.getElem?_eq_getElem (show i < zs.length by omega), List.getElem?_eq_getElem hj, Option.getD_some] at e
  exact this e
end Go.Proofs.Ytljlbonoohhhdaa
/- RenumberPoints: its model. -/
namespace Go.Proofs.Ytljlbonoohhhdaa
set_option linter.unusedVariables false
set_option linter.unusedSimpArgs false
open Go Go.RowKit Go.Shelf
end Go.Proofs.Ytljlbonoohhhdaa
/- RenumberPoints: the program. -/
namespace Go.Proofs.Ytljlbonoohhhdaa
set_option linter.unusedVariables false
set_option linter.unusedSimpArgs false
open Go Go.RowKit Go.Shelf
attribute [local go_sem] Oper.semAt_some
end Go.Proofs.Ytljlbonoohhhdaa
