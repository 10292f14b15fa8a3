/- My texts Seq, Collect, Lay, Sort, Order, OrderMo, Exch, Ren, RenSp, RenIm, in one. -/
import Derived.Test.YthcfcgknkheleaaGb
import Derived.Test.YthcfcgknkheleaaGa
import Derived.RangeFuncBox
import Derived.RangeFuncLeaves
import Derived.OwnWalkIn
import Derived.TacticsInMore
import Derived.Shelf.SortM.Plain
import Derived.Sort.OwnSortedInts
import Derived.Test.YthcfcgknkheleaaGc
/- slices.Values, slices.Collect: a list handed on as a function, and gathered again. -/
namespace Go.Proofs.Ythcfcgknkheleaa
set_option linter.unusedVariables false
set_option linter.unusedSimpArgs false
open Go Go.RowKit Go.Shelf
/-- A list that lies below a bound. -/
def SlB (B : Nat) (w : World) (a : Option Addr) (zs : List Int) : Prop := zs = [] ∨ ∃ b off, a = some ⟨b, off, none⟩ ∧ b < B ∧ ∀ j, j < zs.length → w.cell? ⟨b, off + j, none⟩ = some (.int .i64 (zs.getD j 0))
theorem SlB.below {B : Nat} {w w' : World} {a : Option Addr} {zs : List Int} (h : SlB B w a zs) (hb : Below B w w') : SlB B w' a zs := by
  rcases h with h | ⟨b, off, ha, hlt, hc⟩
  · exact .inl h
  · exact .inr ⟨b, off, ha, hlt, fun j hj => (hb.cell (p := ⟨b, off + j, none⟩) hlt).trans (hc j hj)⟩
theorem SlI.toB {w : World} {a : Option Addr} {zs : List Int} (h : SlI w a zs) : SlB w.heap.size w a zs := by
  rcases h with h | ⟨b, off, ha, hc⟩
  · exact .inl h
  · by_cases h0 : zs.length = 0
    · exact .inl (List.length_eq_zero_iff.1 h0)
    · exact .inr ⟨b, off, ha, block_lt_of_cell (hc 0 (by omega)), hc⟩
set_option maxRecDepth 100000 in
set_option maxHeartbeats 1000000 in
theorem iterV (m l B b : Nat) (zs : List Int) (a : Option Addr) (cap : Nat) (hl : zs.length ≤ 9223372036854775807) (J Jx : List Int → World → Prop)
    (hY : ∀ pre x W, J pre W → pre.length < zs.length → YieldAt Fence.wide m Try.prog l #[.int .i64 x] W fun e W' =>
      (e = .returned (.bool true) ∧ J (pre ++ [x]) W' ∧ Below B W W') ∨ (e = .returned (.bool false) ∧ Jx (pre ++ [x]) W'))
    (W : World) (hB : W.cell? ⟨b, 0, none⟩ = some (.slice a zs.length cap)) (hs : SlB B W a zs) (h0 : J [] W) :
    CallsIn Fence.wide (m + 1) Try.prog 31 #[.func (.yield l) #[] #[], .pointer (some ⟨b, 0, none⟩)] W fun e W' => (∃ v, e = .returned v) ∧
      ((∃ ys : List Int, ys = zs ∧ J ys W') ∨ (∃ pre, True ∧ Jx pre W')) := by
  refine callsIn_of_wp Try.func31 rfl trivial ?_ rfl
  simp only [Try.ntmps31, List.size_toArray, List.length_cons, List.length_nil, Nat.reduceAdd, Nat.reduceSub, Array.replicate_succ, Array.replicate_zero, List.push_toArray, List.append_toArray, List.nil_append, List.cons_append]
  have HY := hidd hY
  have HS := hidd hs
  clear hY hs
  gi_wp2
  clear hB
  gi_loopw [7] (fun e wr => ∃ j : Nat, j ≤ zs.length ∧ e = .int .i64 j ∧ Hid (J (zs.take j) wr ∧ SlB B wr a zs)) (fun e _ => zs.length - (intOf e).toNat)
  case atStart => exact ⟨0, by omega, rfl, by rw [List.take_zero]; exact ⟨h0, HS.out⟩⟩
  case round =>
    obtain ⟨j, hj, rfl, HR⟩ := hrel
    by_cases hlt : j < zs.length
    · rcases HR.out.2 with hz | ⟨bl, off, ha, hlb, hc⟩
      · subst hz; simp at hlt
      · subst ha
        have hcj := hc j hlt
        obtain ⟨z, hz⟩ : ∃ z, z = zs.getD j 0 := ⟨_, rfl⟩
        rw [← hz] at hcj
        have HT := hidd (show zs.take (j + 1) = zs.take j ++ [z] by
          rw [List.take_succ_eq_append_getElem hlt, hz]; simp [List.getD, List.getElem?_eq_getElem hlt])
        obtain ⟨fn, tmps, assign, body, hy, hR⟩ := HY.out (zs.take j) z wr HR.out.1 (by simp; omega)
        have HRR := hidd hR
        clear hR hc hz
        gi_wp2
        refine HRR.out.mono ?_
        rintro e W3 (⟨rfl, hJ3, hk3⟩ | ⟨rfl, hx3⟩)
        · have K3 := hidd (And.intro (show J (zs.take (j + 1)) W3 by rw [HT.out]; exact hJ3) (HR.out.2.below hk3))
          clear hJ3 hk3
          gi_wp2
          go_roundw
          case rel => exact ⟨j + 1, by omega, by go_num, K3⟩
          case measure => simp [intOf]; omega
        · have X3 := hidd hx3
          clear hx3
          gi_wp2
          refine bodyPost_ret (results_none rfl _ _ _) rfl ?_
          exact ⟨⟨_, rfl⟩, .inr ⟨_, trivial, X3.out⟩⟩
    · have hje : j = zs.length := by omega
      subst hje
      have K := hidd HR.out.1
      gi_wp2
      go_end0
      exact ⟨⟨_, rfl⟩, .inl ⟨_, List.take_length, K.out⟩⟩
theorem seqV (m b B : Nat) (zs : List Int) (a : Option Addr) (cap : Nat) (hl : zs.length ≤ 9223372036854775807) (w : World) (hbw : b < w.heap.size) (hBw : B ≤ w.heap.size) (hB : w.cell? ⟨b, 0, none⟩ = some (.slice a zs.length cap)) (hs : SlB B w a zs) :
    SeqStopsK Fence.wide (m + 1) Try.prog 31 #[.pointer (some ⟨b, 0, none⟩)] (fun x : Int => #[.int .i64 x]) (Below B) (fun ys => ys = zs) (fun _ => True) zs.length w := fun l J Jx W hW _ _ hY h0 =>
  iterV m l B b zs a cap hl J Jx hY W ((hW.cell (p := ⟨b, 0, none⟩) hbw).trans hB) (hs.below (hW.mono hBw)) h0
set_option maxRecDepth 100000 in
theorem values84 (a : Option Addr) (len cap : Nat) (w : World) : Calls Try.prog 26 #[.slice a len cap] w fun e w' => e = .returned (.func (.func 31) #[] #[.pointer (some ⟨w.heap.size, 0, none⟩)]) ∧ w.alloc (.cells #[.slice a len cap] 25) = w' := by
  have hmf : ∀ (fn : Fn) (first cap : Array Value) (w : World), (Instr.makeFunc fn first cap).run Try.prog w = .ok (.func fn first cap) w := fun _ _ _ _ => rfl
  go_enter Try.func26, Try.ntmps26
  go_wp2
  go_ret
  exact ⟨rfl, rfl⟩
end Go.Proofs.Ythcfcgknkheleaa
/- slices.AppendSeq and slices.Collect of a list's values: a list of the call's own that holds the same numbers. -/
namespace Go.Proofs.Ythcfcgknkheleaa
set_option linter.unusedVariables false
set_option linter.unusedSimpArgs false
open Go Go.RowKit Go.Shelf
attribute [local go_sem] Oper.semAt_some
set_option maxRecDepth 100000 in
set_option maxHeartbeats 2000000 in
theorem append94 (b : Nat) (zs : List Int) (a : Option Addr) (cap : Nat) (hl : zs.length ≤ 1048576) (w : World) (hbw : b < w.heap.size) (hB : w.cell? ⟨b, 0, none⟩ = some (.slice a zs.length cap)) (hs : SlI w a zs) :
    Calls Try.prog 33 #[.slice none 0 0, .func (.func 31) #[] #[.pointer (some ⟨b, 0, none⟩)]] w fun e w' => ∃ v, e = .returned v ∧ w'.ownsRow w.heap.size 2 1 v zs.length (icells zs) ∧ Below w.heap.size w w' := by
  obtain ⟨i0, hi, hz0, hz1, hz2⟩ := info_parts info2
  refine (callsIn_wide (n := 8)).1 (callsIn_of_wp_marks Try.func33 rfl trivial ?_ rfl)
  simp only [Try.ntmps33, List.size_toArray, List.length_cons, List.length_nil, Nat.reduceAdd, Nat.reduceSub, Array.replicate_succ, Array.replicate_zero, List.push_toArray, List.append_toArray, List.nil_append, List.cons_append]
  gi_wp2
  have bO := Boxed.new w 25 (.slice none 0 0)
  have hB0 : Below w.heap.size w (w.alloc (.cells #[.slice none 0 0] 25)) := (Below.refl _ w).alloc (Nat.le_refl _) _
  refine wpIn_rangeFunc_ownG rfl (by omega) (gf := 31) (lb := #[.pointer (some ⟨b, 0, none⟩)]) rfl trivial (enters_of Try.func31 (by kernel_rfl) rfl)
    (seqV 6 b w.heap.size zs a cap (by omega) _ (by simp; omega) (by simp) ((hB0.cell (p := ⟨b, 0, none⟩) hbw).trans hB) (hs.toB.below hB0)) belowK_t (belowK_b (by simp)) (Below.refl _ _) (fun _ => rfl)
    (fun pre W => (∃ v, Boxed W w.heap.size 25 v ∧ W.ownsRow w.heap.size 2 1 v pre.length (icells pre) ∧ (v = .slice none 0 0 ↔ pre = [])) ∧ Below w.heap.size w W)
    (fun _ _ _ => False)
    (OwnFrom.and (Own.from (holdsRow_own w.heap.size w.heap.size 25 2 1 (fun pre => pre.length) (fun pre => icells pre) (fun pre v => v = .slice none 0 0 ↔ pre = [])) _) (ownFrom_below (Nat.le_refl _) (by simp)))
    (fun _ _ _ _ _ hs _ _ => hs)
    ⟨⟨_, bO, World.ownsRow_nil _ _ _ _, by simp⟩, hB0⟩
    (fun x => { tmps := #[.slice none 0 0, .func (.func 31) #[] #[.pointer (some ⟨b, 0, none⟩)], .pointer (some ⟨w.heap.size, 0, none⟩), undef, .slice none 0 0, .int .i64 x, .func (.func 31) #[] #[.pointer (some ⟨b, 0, none⟩)], .int .i64 x, undef, undef, undef, undef, undef], defers := [] }) ?assign ?body ?done ?stop
  case assign =>
    intro l x W K hK
    gi_wp2
    exact hK
  case body =>
    rintro l pre x W ⟨⟨v, hv, hrow, hnil⟩, hB⟩ hlt
    have hc := hv.cell
    gi_wp2_with (gi_at_builtin; refine wpListIn_append_own _ rfl _ _ 25 rfl w.heap.size 2 i0 (.int .i64 0) 1 8 Try.underlying25 hi hz0 hz1 hz2 rfl (by decide) _ _ _ rfl (hrow.alloc _) ⟨W.heap.size, 0, none⟩ 1 1 [.int .i64 x] rfl rfl (one_new _ _ _) (by simp [Value.oneCell']) (by unfold maxLen; omega) (by omega) (by have := hB.size; simp; omega) ?_; intro v' w1 hown' hgrow _; obtain ⟨g', cap', rfl⟩ := ownsRow_succ hown'; obtain ⟨hv1, hv2, hr2, hk2, hb2⟩ := hv.appended (by decide) hrow hB.size (Nat.le_refl _) hown' hgrow; have hc1 := hv1.cell; have hf1 := hv1.frozen)
    exact ⟨hk2.from _, hb2, ⟨_, hv2, by simpa [icells] using hr2, by simp⟩, hB.trans hb2⟩
  case done =>
    rintro D ys W hD rfl ⟨⟨v, hv, hrow, hnil⟩, hB⟩ hK
    have hc := hv.cell
    gi_wp2
    refine ⟨by simp, .inl ⟨_, _, rfl, run_takeDeferred hK, ?_⟩⟩
    exact ⟨_, results_tmp rfl _ _ _, v, rfl, ownsRow_putObj hrow _ hK rfl, hB.trans (belowK_b (w := w) (Nat.le_refl _) W D _ _ (by simp at hD; omega) hK rfl rfl)⟩
  case stop =>
    rintro D c pre W _ _ h _
    exact h.elim
set_option maxRecDepth 100000 in
theorem collect88 (b : Nat) (zs : List Int) (a : Option Addr) (cap : Nat) (hl : zs.length ≤ 1048576) (w : World) (hbw : b < w.heap.size) (hB : w.cell? ⟨b, 0, none⟩ = some (.slice a zs.length cap)) (hs : SlI w a zs) :
    Calls Try.prog 29 #[.func (.func 31) #[] #[.pointer (some ⟨b, 0, none⟩)]] w fun e w' => ∃ v, e = .returned v ∧ w'.ownsRow w.heap.size 2 1 v zs.length (icells zs) ∧ Below w.heap.size w w' := by
  have H := hidd (append94 b zs a cap hl w hbw hB hs)
  clear hB hs
  go_enter Try.func29, Try.ntmps29
  go_wp2_with fail
  refine H.out.mono ?_
  rintro e w1 ⟨v, rfl, hown, hb1⟩
  go_wp2
  go_ret
  exact ⟨v, rfl, hown, hb1⟩
end Go.Proofs.Ythcfcgknkheleaa
/- slices.Sort at []int64: the library's contract, at this program. -/
namespace Go.Proofs.Ythcfcgknkheleaa
set_option linter.unusedVariables false
set_option linter.unusedSimpArgs false
open Go Go.RowKit Go.Shelf Go.Proofs
def rhoS : Ren := ⟨fun x => match x with | 5 => 30 | 7 => 34 | 8 => 35 | 10 => 36 | 11 => 37 | 12 => 38 | 13 => 39 | 14 => 40 | 15 => 41 | 16 => 42 | 17 => 43 | 18 => 44 | 19 => 45 | 20 => 46 | 30 => 47 | 31 => 48 | 32 => 49 | 33 => 50 | 34 => 51 | 35 => 52 | 40 => 53 | _ => x, fun x => match x with | 0 => 0 | 3 => 3 | 4 => 4 | 5 => 5 | 9 => 9 | 22 => 25 | 23 => 25 | 25 => 2 | 32 => 61 | 35 => 63 | 36 => 64 | 41 => 68 | 44 => 71 | 46 => 73 | 53 => 74 | 57 => 78 | 63 => 80 | 64 => 81 | _ => x, fun x => x⟩
set_option maxRecDepth 100000 in
theorem layS : SlLaysM.n5 Try.prog rhoS where
  mixed := rfl
  f5 := ⟨Try.f30.name, by kernel_rfl, Try.func30.trans (by kernel_rfl)⟩
  f7 := ⟨Try.f34.name, by kernel_rfl, Try.func34.trans (by kernel_rfl)⟩
  f8 := Try.func35.trans (by kernel_rfl)
  f10 := ⟨Try.f36.name, by kernel_rfl, Try.func36.trans (by kernel_rfl)⟩
  f11 := ⟨Try.f37.name, by kernel_rfl, Try.func37.trans (by kernel_rfl)⟩
  f12 := ⟨Try.f38.name, by kernel_rfl, Try.func38.trans (by kernel_rfl)⟩
  f13 := ⟨Try.f39.name, by kernel_rfl, Try.func39.trans (by kernel_rfl)⟩
  f14 := ⟨Try.f40.name, by kernel_rfl, Try.func40.trans (by kernel_rfl)⟩
  f15 := ⟨Try.f41.name, by kernel_rfl, Try.func41.trans (by kernel_rfl)⟩
  f16 := ⟨Try.f42.name, by kernel_rfl, Try.func42.trans (by kernel_rfl)⟩
  f17 := ⟨Try.f43.name, by kernel_rfl, Try.func43.trans (by kernel_rfl)⟩
  f18 := ⟨Try.f44.name, by kernel_rfl, Try.func44.trans (by kernel_rfl)⟩
  f19 := Try.func45.trans (by kernel_rfl)
  f20 := Try.func46.trans (by kernel_rfl)
  f30 := ⟨Try.f47.name, by kernel_rfl, Try.func47.trans (by kernel_rfl)⟩
  f31 := Try.func48.trans (by kernel_rfl)
  f32 := Try.func49.trans (by kernel_rfl)
  f33 := ⟨Try.f50.name, by kernel_rfl, Try.func50.trans (by kernel_rfl)⟩
  f34 := ⟨Try.f51.name, by kernel_rfl, Try.func51.trans (by kernel_rfl)⟩
  f35 := ⟨Try.f52.name, by kernel_rfl, Try.func52.trans (by kernel_rfl)⟩
  f40 := ⟨Try.f53.name, by kernel_rfl, Try.func53.trans (by kernel_rfl)⟩
  t0 := by kernel_rfl
  a0 := fun w => by kernel_rfl
  z0 := fun w => by kernel_rfl
  v0 := fun w => by kernel_rfl
  t3 := by kernel_rfl
  a3 := fun w => by kernel_rfl
  z3 := fun w => by kernel_rfl
  v3 := fun w => by kernel_rfl
  t4 := by kernel_rfl
  a4 := fun w => by kernel_rfl
  z4 := fun w => by kernel_rfl
  v4 := fun w => by kernel_rfl
  t5 := by kernel_rfl
  a5 := fun w => by kernel_rfl
  z5 := fun w => by kernel_rfl
  v5 := fun w => by kernel_rfl
  t9 := by kernel_rfl
  a9 := fun w => by kernel_rfl
  z9 := fun w => by kernel_rfl
  v9 := fun w => by kernel_rfl
  t22 := by kernel_rfl
  a22 := fun w => by kernel_rfl
  z22 := fun w => by kernel_rfl
  v22 := fun w => by kernel_rfl
  t23 := by kernel_rfl
  a23 := fun w => by kernel_rfl
  z23 := fun w => by kernel_rfl
  v23 := fun w => by kernel_rfl
  t25 := by kernel_rfl
  a25 := fun w => by kernel_rfl
  z25 := fun w => by kernel_rfl
  v25 := fun w => by kernel_rfl
  t32 := by kernel_rfl
  a32 := fun w => by kernel_rfl
  z32 := fun w => by kernel_rfl
  v32 := fun w => by kernel_rfl
  t35 := by kernel_rfl
  a35 := fun w => by kernel_rfl
  z35 := fun w => by kernel_rfl
  v35 := fun w => by kernel_rfl
  t36 := by kernel_rfl
  a36 := fun w => by kernel_rfl
  z36 := fun w => by kernel_rfl
  v36 := fun w => by kernel_rfl
  t41 := by kernel_rfl
  a41 := fun w => by kernel_rfl
  z41 := fun w => by kernel_rfl
  v41 := fun w => by kernel_rfl
  t44 := by kernel_rfl
  a44 := fun w => by kernel_rfl
  z44 := fun w => by kernel_rfl
  v44 := fun w => by kernel_rfl
  t46 := by kernel_rfl
  a46 := fun w => by kernel_rfl
  z46 := fun w => by kernel_rfl
  v46 := fun w => by kernel_rfl
  t53 := by kernel_rfl
  a53 := fun w => by kernel_rfl
  z53 := fun w => by kernel_rfl
  v53 := fun w => by kernel_rfl
  t57 := by kernel_rfl
  a57 := fun w => by kernel_rfl
  z57 := fun w => by kernel_rfl
  v57 := fun w => by kernel_rfl
  t63 := by kernel_rfl
  a63 := fun w => by kernel_rfl
  z63 := fun w => by kernel_rfl
  v63 := fun w => by kernel_rfl
  t64 := by kernel_rfl
  a64 := fun w => by kernel_rfl
  z64 := fun w => by kernel_rfl
  v64 := fun w => by kernel_rfl
end Go.Proofs.Ythcfcgknkheleaa
/- slices.Sorted(slices.Values(list)): a list of the call's own that holds the numbers in order. -/
namespace Go.Proofs.Ythcfcgknkheleaa
set_option linter.unusedVariables false
set_option linter.unusedSimpArgs false
open Go Go.RowKit Go.Shelf Go.Proofs Go.Sort
def srt (zs : List Int) : List Int := zs.mergeSort fun x y => decide (x ≤ y)
theorem sort89 (blk off cap : Nat) (zs : List Int) (w : World) (hH : Holds (Value.int .i64) w blk off zs.toArray) (hblk : blk < w.heap.size) (hsz : zs.length < 4611686018427387904) :
    Calls Try.prog 30 #[.slice (some ⟨blk, off, none⟩) zs.length cap] w fun e w' =>
      e = .returned (.tuple #[]) ∧ ∃ n os, w' = grow (putRow (Value.int .i64) (Sort.ahead w n) blk off (zs.mergeSort fun x y => decide (x ≤ y)).toArray) os :=
  AnyM.slices_Sort_int layS blk off cap zs w hH hblk hsz
theorem srt_len (zs : List Int) : (srt zs).length = zs.length := List.length_mergeSort zs
set_option maxRecDepth 100000 in
set_option maxHeartbeats 1000000 in
theorem sorted83 (b : Nat) (zs : List Int) (a : Option Addr) (cap : Nat) (h0 : 1 ≤ zs.length) (hl : zs.length ≤ 1048576) (w : World) (hbw : b < w.heap.size) (hB : w.cell? ⟨b, 0, none⟩ = some (.slice a zs.length cap)) (hs : SlI w a zs) :
    Calls Try.prog 25 #[.func (.func 31) #[] #[.pointer (some ⟨b, 0, none⟩)]] w fun e w' => ∃ v, e = .returned v ∧ w'.ownsRow w.heap.size 2 1 v (srt zs).length (icells (srt zs)) ∧ Below w.heap.size w w' := by
  have H := hidd (collect88 b zs a cap hl w hbw hB hs)
  clear hB hs
  go_enter Try.func25, Try.ntmps25
  go_wp2_with fail
  refine H.out.mono ?_
  rintro e w1 ⟨v, rfl, hrow, hb⟩
  rcases hrow.2 with ⟨rfl, hz⟩ | ⟨gb, cap, cur, rfl, hbase, hgb, r1, r2, r3, r4⟩
  · omega
  · have hH : Holds (Value.int .i64) w1 gb 0 zs.toArray := holds_of_blockI hgb (by simpa [icells] using r4)
    have hgl : gb < w1.heap.size := (Array.getElem?_eq_some_iff.1 hgb).1
    have cS := sort89 gb 0 cap zs w1 hH hgl (by omega)
    go_wp2_with (go_at_call 30; refine cS.mono ?_; rintro e w' ⟨rfl, nn, os, rfl⟩)
    go_ret
    have hr := ownsRow_sortedI (n := nn) (os := os) (ss := zs) (ts := srt zs) (srt_len zs) hbase hgb r1 r2 r3
    exact ⟨_, rfl, by rw [srt_len]; exact hr, hb.grown (grownBy_sortedI _) hb.size (fun j hj => by cases hj; exact hbase)⟩
end Go.Proofs.Ythcfcgknkheleaa
/- Orders: the program's test. -/
namespace Go.Proofs.Ythcfcgknkheleaa
set_option linter.unusedVariables false
set_option linter.unusedSimpArgs false
open Go Go.RowKit Go.Shelf
/-- All numbers below n, each once. -/
def ordB (zs : List Int) (n : Int) : Bool := decide ((zs.length : Int) = n) && (allB zs n && decide zs.Nodup)
theorem srt_perm (zs : List Int) : (srt zs).Perm zs := List.mergeSort_perm zs _
theorem srt_pair (zs : List Int) : (srt zs).Pairwise (· ≤ ·) := by
  have h := List.pairwise_mergeSort (le := fun (x y : Int) => decide (x ≤ y)) (fun a b c h1 h2 => by simp at *; omega) (fun a b => by simp; omega) zs
  exact h.imp fun h => by simpa using h
theorem allB_mem {zs : List Int} {n : Int} : allB zs n = true ↔ ∀ z ∈ zs, belowB z n = true := by
  unfold allB; exact List.all_eq_true
theorem pair_asc {zs : List Int} (h : zs.Pairwise (· < ·)) : ascB zs = true := by
  refine ascB_yes (m := zs.length) (fun i _ hi => ?_) (by omega)
  have := List.pairwise_iff_getElem.1 h i (i + 1) (by omega) hi (by omega)
  simpa [List.getD, List.getElem?_eq_getElem (show i < zs.length by omega), List.getElem?_eq_getElem hi] using this
theorem srt_set (zs : List Int) (n : Int) : setB (srt zs) n = (allB zs n && decide zs.Nodup) := by
  have hall : allB (srt zs) n = allB zs n := by
    rw [Bool.eq_iff_iff, allB_mem, allB_mem]
    exact ⟨fun h z hz => h z ((srt_perm zs).mem_iff.2 hz), fun h z hz => h z ((srt_perm zs).mem_iff.1 hz)⟩
  cases ha : allB zs n with
  | false => unfold setB; rw [hall, ha, Bool.and_false]; rfl
  | true =>
    rw [Bool.true_and, Bool.eq_iff_iff, decide_eq_true_iff]
    constructor
    · intro h
      have hp := set_pair h
      have : (srt zs).Nodup := hp.imp fun h e => by omega
      exact (srt_perm zs).nodup_iff.1 this
    · intro h
      have hn : (srt zs).Nodup := (srt_perm zs).nodup_iff.2 h
      have hp : (srt zs).Pairwise (· < ·) := by
        have := List.Pairwise.and (srt_pair zs) hn
        exact this.imp fun h => by have h1 := h.1; have h2 := h.2; omega
      unfold setB
      rw [pair_asc hp, hall, ha]; rfl
set_option maxRecDepth 100000 in
set_option maxHeartbeats 1000000 in
theorem order65 (zs : List Int) (a : Option Addr) (cap : Nat) (n : Int) (w : World) (hs : SlI w a zs) (hl : zs.length ≤ 9223372036854775807) (n1 : 1 ≤ n) (n2 : n ≤ 17) :
    Calls Try.prog 20 #[.slice a zs.length cap, .int .i64 n] w fun e w' => e = .returned (.bool (ordB zs n)) ∧ Below w.heap.size w w' := by
  by_cases hn : (zs.length : Int) = n
  · have HO := hidd (show ordB zs n = setB (srt zs) n by unfold ordB; rw [decide_eq_true hn, Bool.true_and, srt_set])
    have hq : ((zs.length : Int) == n) = true := by simpa using hn
    have HSL := hidd (hs.below ((Below.refl w.heap.size w).alloc (Nat.le_refl _) (.cells #[.slice a zs.length cap] 25)) (Nat.le_refl _))
    have hz1 : 1 ≤ zs.length := by omega
    have hz2 : zs.length ≤ 17 := by omega
    clear hs hn
    go_enter Try.func20, Try.ntmps20
    go_wp2_with (go_at_call 26; refine (values84 a zs.length cap w).mono ?_; rintro e w' ⟨rfl, rfl⟩)
    refine (sorted83 w.heap.size zs a cap hz1 (by omega) _ (by simp) ((Blk.new w #[.slice a zs.length cap] 25 _ rfl).cell rfl) HSL.out).mono ?_
    rintro e w1 ⟨v, rfl, hown, hb1⟩
    obtain ⟨a1, cap1, rfl, ho⟩ := own_list hown
    have G := hidd (And.intro ho.sl (((Below.refl w.heap.size w).alloc (Nat.le_refl _) (.cells #[.slice a zs.length cap] 25)).trans (hb1.mono (by simp))))
    have hl1 := hidd (srt_len zs)
    clear hown ho hb1
    go_wp2_with fail
    refine (set69 (srt zs) a1 cap1 n _ G.out.1 (by have := hl1.out; omega)).mono ?_
    rintro e w2 ⟨rfl, hb2⟩
    have R := hidd (G.out.2.trans (hb2.mono G.out.2.size))
    clear hb2
    go_wp2
    go_ret
    exact ⟨by rw [HO.out]; rfl, R.out⟩
  · have HO := hidd (show ordB zs n = false by unfold ordB; rw [decide_eq_false hn]; rfl)
    have hq : ((zs.length : Int) == n) = false := by rw [beq_eq_false_iff_ne]; exact hn
    clear hs hn
    go_enter Try.func20, Try.ntmps20
    go_wp2
    go_ret
    exact ⟨by rw [HO.out]; rfl, Below.refl _ _⟩
end Go.Proofs.Ythcfcgknkheleaa
/- Orders: the model's test. -/
namespace Go.Proofs.Ythcfcgknkheleaa
set_option linter.unusedVariables false
set_option linter.unusedSimpArgs false
open Go Go.RowKit Go.Shelf
theorem info4 : (Try.prog.info? 4).map (fun i => (i.zero, i.size, i.bytes)) = some (some (.bool false), 1, 1) := by kernel_rfl
def metC (N : Nat) (zs : List Int) (j : Nat) : Array Value := ((List.range N).map fun q => Value.bool (memB (zs.take j) q)).toArray
theorem metC_get {N : Nat} {zs : List Int} {j q : Nat} (h : q < N) : (metC N zs j)[q]? = some (.bool (memB (zs.take j) q)) := by simp [metC, h]
theorem metC_0 (N : Nat) (zs : List Int) : madeCells #[.bool false] N = metC N zs 0 := by
  apply Array.ext'
  rw [toList_madeCells_one]
  show List.replicate N (Value.bool false) = (List.range N).map fun q => Value.bool (memB (zs.take 0) q)
  apply List.ext_getElem
  · simp
  · intro i h1 h2
    simp [memB]
theorem metC_step {N : Nat} {zs : List Int} {j q : Nat} (hj : j < zs.length) (hq : zs.getD j 0 = (q : Int)) : (metC N zs j).setIfInBounds q (.bool true) = metC N zs (j + 1) := by
  have hg : zs.getD j 0 = zs[j] := by simp [List.getD, List.getElem?_eq_getElem hj]
  apply Array.ext_getElem?
  intro i
  rw [Array.getElem?_setIfInBounds]
  by_cases hi : i < N
  · rw [metC_get hi]
    by_cases e : q = i
    · subst e
      rw [if_pos rfl, if_pos (by simpa [metC] using hi)]
      have : memB (zs.take (j + 1)) q = true := by
        rw [List.take_succ_eq_append_getElem hj]
        exact decide_eq_true (List.mem_append.2 (.inr (List.mem_singleton.2 (by rw [← hg, hq]))))
      rw [metC_get hi, this]
    · simp only [if_neg e, metC_get hi]
      have : memB (zs.take (j + 1)) i = memB (zs.take j) i := by
        rw [List.take_succ_eq_append_getElem hj]
        unfold memB
        congr 1
        simp only [List.mem_append, List.mem_singleton, ← hg, hq, eq_iff_iff]
        constructor
        · rintro (h | h)
          · exact h
          · omega
        · exact fun h => .inl h
      rw [this]
  · have h1 : (metC N zs j)[i]? = none := by rw [Array.getElem?_eq_none_iff]; simp [metC]; omega
    have h2 : (metC N zs (j + 1))[i]? = none := by rw [Array.getElem?_eq_none_iff]; simp [metC]; omega
    rw [h1, h2]
    split
    · rw [if_neg (by simp [metC]; omega)]
    · rfl
def Ord (zs : List Int) (n : Int) (j : Nat) : Prop := (∀ z ∈ zs.take j, belowB z n = true) ∧ (zs.take j).Nodup
theorem Ord.step {zs : List Int} {n : Int} {j : Nat} (h : Ord zs n j) (hj : j < zs.length) (h1 : belowB (zs.getD j 0) n = true) (h2 : ¬ zs.getD j 0 ∈ zs.take j) : Ord zs n (j + 1) := by
  have hg : zs.getD j 0 = zs[j] := by simp [List.getD, List.getElem?_eq_getElem hj]
  unfold Ord
  rw [List.take_succ_eq_append_getElem hj, ← hg]
  refine ⟨fun z hz => ?_, ?_⟩
  · rcases List.mem_append.1 hz with hz | hz
    · exact h.1 z hz
    · rw [List.mem_singleton.1 hz]; exact h1
  · rw [List.nodup_append]
    refine ⟨h.2, by simp, fun a ha b hb e => ?_⟩
    rw [List.mem_singleton.1 hb] at e
    subst e; exact h2 ha
theorem Ord.done {zs : List Int} {n : Int} (h : Ord zs n zs.length) : ordB zs n = decide ((zs.length : Int) = n) := by
  unfold Ord at h
  rw [List.take_length] at h
  unfold ordB
  rw [allB_mem.2 h.1, decide_eq_true h.2]; simp
theorem ord_out {zs : List Int} {n : Int} {j : Nat} (hj : j < zs.length) (h : belowB (zs.getD j 0) n = false) : ordB zs n = false := by
  unfold ordB; rw [allB_no hj h]; simp
theorem ord_twice {zs : List Int} {n : Int} {j : Nat} (hj : j < zs.length) (h : zs.getD j 0 ∈ zs.take j) : ordB zs n = false := by
  have hg : zs.getD j 0 = zs[j] := by simp [List.getD, List.getElem?_eq_getElem hj]
  have hn : ¬ zs.Nodup := fun hn => by
    rw [← List.take_append_drop j zs, List.nodup_append] at hn
    refine hn.2.2 _ h _ ?_ rfl
    rw [hg, List.mem_drop_iff_getElem]
    exact ⟨0, by omega, by simp⟩
  unfold ordB; rw [decide_eq_false hn]; simp
def RelOr (N : Nat) (zs : List Int) (a : Option Addr) (w : World) (j : Nat) (wr : World) : Prop := Blk wr w.heap.size (metC N zs j) 4 ∧ SlI wr a zs ∧ Below w.heap.size w wr
end Go.Proofs.Ythcfcgknkheleaa
/- ExchangeColours: what both answer, the rule, the model. -/
namespace Go.Proofs.Ythcfcgknkheleaa
set_option linter.unusedVariables false
set_option linter.unusedSimpArgs false
open Go Go.RowKit Go.Shelf
theorem ord_len {zs : List Int} {n : Int} (h : ordB zs n = true) : (zs.length : Int) = n ∧ allB zs n = true ∧ zs.Nodup := by
  unfold ordB at h
  rw [Bool.and_eq_true, Bool.and_eq_true] at h
  exact ⟨of_decide_eq_true h.1, h.2.1, of_decide_eq_true h.2.2⟩
def exCode (n k : Int) (bs : List Nat) (zs : List Int) : Int := if isCol n k bs = true then (if ordB zs k = true then 0 else 2) else 1
def exN (n k : Int) (bs : List Nat) (zs : List Int) : Int := if exCode n k bs zs = 0 then n else 0
def exK (n k : Int) (bs : List Nat) (zs : List Int) : Int := if exCode n k bs zs = 0 then k else 0
def exB (n k : Int) (bs : List Nat) (zs : List Int) : List Nat := if exCode n k bs zs = 0 then paintB n.toNat (fun lo hi => zs.getD (colAt bs lo hi).toNat 0) else zbl
def exOut (n k : Int) (bs : List Nat) (zs : List Int) : Value := .tuple #[.agg (ccells (exN n k bs zs) (exK n k bs zs) (exB n k bs zs)).toArray, .int .i64 (exCode n k bs zs)]
theorem exOut_bad {n k : Int} {bs : List Nat} {zs : List Int} {m : Int} (h : exCode n k bs zs = m) (hm : m ≠ 0) : exOut n k bs zs = .tuple #[.agg (ccells 0 0 zbl).toArray, .int .i64 m] := by
  unfold exOut exN exK exB
  rw [h, if_neg hm, if_neg hm, if_neg hm]
theorem exOut_good {n k : Int} {bs : List Nat} {zs : List Int} (h : exCode n k bs zs = 0) : exOut n k bs zs = .tuple #[.agg (ccells n k (paintB n.toNat (fun lo hi => zs.getD (colAt bs lo hi).toNat 0))).toArray, .int .i64 0] := by
  unfold exOut exN exK exB
  rw [h, if_pos rfl, if_pos rfl, if_pos rfl]
theorem exCode_1 {n k : Int} {bs : List Nat} {zs : List Int} (h : isCol n k bs = false) : exCode n k bs zs = 1 := by simp [exCode, h]
theorem exCode_2 {n k : Int} {bs : List Nat} {zs : List Int} (h : isCol n k bs = true) (h2 : ordB zs k = false) : exCode n k bs zs = 2 := by simp [exCode, h, h2]
theorem exCode_0 {n k : Int} {bs : List Nat} {zs : List Int} (h : isCol n k bs = true) (h2 : ordB zs k = true) : exCode n k bs zs = 0 := by simp [exCode, h, h2]
theorem ex_rng {zs : List Int} {k : Int} (h : allB zs k = true) (hk : k ≤ 17) (x : Nat) : 0 ≤ zs.getD x 0 ∧ zs.getD x 0 < 256 := by
  by_cases hx : x < zs.length
  · have := allB_get h hx; omega
  · rw [List.getD, List.getElem?_eq_none (by omega)]; simp
theorem exB_bys (n k : Int) {bs : List Nat} (zs : List Int) : Bys (exB n k bs zs) := by
  unfold exB
  split
  · rename_i h
    unfold exCode at h
    split at h
    · rename_i hi
      split at h
      · rename_i ho
        have := isCol_bd hi
        exact paintB_bys fun lo hi => ex_rng (ord_len ho).2.1 (by omega) _
      · cases h
    · cases h
  · exact zbl_bys
end Go.Proofs.Ythcfcgknkheleaa
/- RenumberPoints: what both answer, and the model. -/
namespace Go.Proofs.Ythcfcgknkheleaa
set_option linter.unusedVariables false
set_option linter.unusedSimpArgs false
open Go Go.RowKit Go.Shelf
def rnF (zs : List Int) (bs : List Nat) (b : List Nat) (t : Nat × Nat × Nat) : List Nat := b.set (eix (zs.getD t.2.1 0) (zs.getD t.2.2 0)).toNat (bs.getD t.1 0)
theorem rnF_bys {zs : List Int} {bs : List Nat} (hb : Bys bs) : ∀ (l : List (Nat × Nat × Nat)) (b : List Nat), Bys b → Bys (l.foldl (rnF zs bs) b)
  | [], b, h => h
  | t :: l, b, h => rnF_bys hb l _ (h.set _ _ (hb.lt _))
def rnB (N : Nat) (zs : List Int) (bs : List Nat) : List Nat := (eseq N).foldl (rnF zs bs) zbl
def rnP (zs : List Int) (bs : List Nat) (j i : Nat) : List Nat := (eseq j ++ rowE j i).foldl (rnF zs bs) zbl
theorem rnP_step (zs : List Int) (bs : List Nat) (j i : Nat) : rnP zs bs j (i + 1) = (rnP zs bs j i).set (eix (zs.getD i 0) (zs.getD j 0)).toNat (bs.getD (eN j + i) 0) := by
  unfold rnP
  rw [rowE_succ, ← List.append_assoc, List.foldl_append]
  rfl
theorem rnP_row (zs : List Int) (bs : List Nat) (j : Nat) : rnP zs bs j j = rnP zs bs (j + 1) 0 := by
  unfold rnP
  rw [show eseq (j + 1) = eseq j ++ rowE j j from rfl]
  simp [rowE]
theorem rnP_done (zs : List Int) (bs : List Nat) (j : Nat) : rnP zs bs j 0 = rnB j zs bs := by
  unfold rnP rnB
  simp [rowE]
theorem rnP_bys {zs : List Int} {bs : List Nat} (hb : Bys bs) (j i : Nat) : Bys (rnP zs bs j i) := rnF_bys hb _ _ zbl_bys
def rnCode (n k : Int) (bs : List Nat) (zs : List Int) : Int := if isCol n k bs = true then (if ordB zs n = true then 0 else 2) else 1
def rnN (n k : Int) (bs : List Nat) (zs : List Int) : Int := if rnCode n k bs zs = 0 then n else 0
def rnK (n k : Int) (bs : List Nat) (zs : List Int) : Int := if rnCode n k bs zs = 0 then k else 0
def rnBB (n k : Int) (bs : List Nat) (zs : List Int) : List Nat := if rnCode n k bs zs = 0 then rnB n.toNat zs bs else zbl
def rnOut (n k : Int) (bs : List Nat) (zs : List Int) : Value := .tuple #[.agg (ccells (rnN n k bs zs) (rnK n k bs zs) (rnBB n k bs zs)).toArray, .int .i64 (rnCode n k bs zs)]
theorem rnOut_bad {n k : Int} {bs : List Nat} {zs : List Int} {m : Int} (h : rnCode n k bs zs = m) (hm : m ≠ 0) : rnOut n k bs zs = .tuple #[.agg (ccells 0 0 zbl).toArray, .int .i64 m] := by
  unfold rnOut rnN rnK rnBB
  rw [h, if_neg hm, if_neg hm, if_neg hm]
theorem rnOut_good {n k : Int} {bs : List Nat} {zs : List Int} (h : rnCode n k bs zs = 0) : rnOut n k bs zs = .tuple #[.agg (ccells n k (rnB n.toNat zs bs)).toArray, .int .i64 0] := by
  unfold rnOut rnN rnK rnBB
  rw [h, if_pos rfl, if_pos rfl, if_pos rfl]
theorem rnCode_1 {n k : Int} {bs : List Nat} {zs : List Int} (h : isCol n k bs = false) : rnCode n k bs zs = 1 := by simp [rnCode, h]
theorem rnCode_2 {n k : Int} {bs : List Nat} {zs : List Int} (h : isCol n k bs = true) (h2 : ordB zs n = false) : rnCode n k bs zs = 2 := by simp [rnCode, h, h2]
theorem rnCode_0 {n k : Int} {bs : List Nat} {zs : List Int} (h : isCol n k bs = true) (h2 : ordB zs n = true) : rnCode n k bs zs = 0 := by simp [rnCode, h, h2]
theorem rnBB_bys (n k : Int) {bs : List Nat} (hb : Bys bs) (zs : List Int) : Bys (rnBB n k bs zs) := by
  unfold rnBB
  split
  · exact rnF_bys hb _ _ zbl_bys
  · exact zbl_bys
theorem ord_two {zs : List Int} {n : Int} (h : ordB zs n = true) {i j : Nat} (hij : i < j) (hj : j < zs.length) : (0 ≤ zs.getD i 0 ∧ zs.getD i 0 < n) ∧ (0 ≤ zs.getD j 0 ∧ zs.getD j 0 < n) ∧ zs.getD i 0 ≠ zs.getD j 0 := by
  obtain ⟨h1, h2, h3⟩ := ord_len h
  refine ⟨allB_get h2 (by omega), allB_get h2 hj, fun e => ?_⟩
  have := List.pairwise_iff_getElem.1 h3 i j (by omega) hj hij
  simp only [List.getD, List.getElem?_eq_getElem (show i < zs.length by omega), List.getElem?_eq_getElem hj, Option.getD_some] at e
  exact this e
def RelRn (n k : Int) (bs : List Nat) (zs : List Int) (a : Option Addr) (w : World) (j i : Nat) (wr : World) : Prop :=
  Blk wr w.heap.size (ccells n k bs).toArray 28 ∧ Blk wr (w.heap.size + 1) (ccells 0 0 zbl).toArray 28 ∧ Blk wr (w.heap.size + 1 + 1) (ccells n k (rnP zs bs j i)).toArray 28 ∧ SlI wr a zs ∧ Below w.heap.size w wr
set_option maxRecDepth 100000 in
set_option maxHeartbeats 4000000 in
theorem renamed64 (N : Nat) (k : Int) (bs : List Nat) (hb : Bys bs) (zs : List Int) (a : Option Addr) (cap : Nat) (w : World) (hs : SlI w a zs) (n1 : 1 ≤ N) (n2 : N ≤ 17) (ho : ordB zs (N : Int) = true) :
    Calls Try.prog 11 #[.agg (ccells (N : Int) k bs).toArray, .slice a zs.length cap] w fun e w' => e = .returned (.agg (ccells (N : Int) k (rnB N zs bs)).toArray) ∧ Below w.heap.size w w' := by
  have HS := hidd (size_c26 (N : Int) k hb)
  have Hz := zero26
  have HC0 := hidd (show (ccells (N : Int) k bs).toArray[0]? = some (.int .i64 (N : Int)) from rfl)
  have HC1 := hidd (show (ccells (N : Int) k bs).toArray[1]? = some (.int .i64 k) from rfl)
  have HLN := hidd (show zs.length = N by have := (ord_len ho).1; omega)
  have HO := hidd ho
  have HSL := hidd hs
  have hset26 : ((ccells 0 0 zbl).set 0 (Value.int .i64 (N : Int))).set 1 (Value.int .i64 k) = ccells (N : Int) k zbl := rfl
  have HNS := hidd (size_c26 (N : Int) k zbl_bys)
  have HNO := hidd (size_cc 0 0 (N : Int) k zbl_bys zbl_bys)
  have HNA := hidd (ccells_one (N : Int) k zbl)
  have hRB : Bys (rnB N zs bs) := rnF_bys hb _ _ zbl_bys
  have HPS := hidd (size_c26 (N : Int) k hRB)
  have HPO := hidd (size_cc 0 0 (N : Int) k zbl_bys hRB)
  have HPA := hidd (ccells_one (N : Int) k (rnB N zs bs))
  have hc0 := HC0.out
  have hc1 := HC1.out
  clear ho hs hRB
  go_enter Try.func11, Try.ntmps11
  go_wp2_with (first
    | (refine wpList_store_row rfl 28 (.tmp 5) (.tmp 12) rfl (w.heap.size + 1 + 1) _ rfl rfl 28 _ (Blk.new _ _ _ _ (by simp)) HNS.out HNO.out HNA.out ?_))
  clear hc1 hc0
  go_loopw [6] (fun e wr => ∃ j : Nat, 1 ≤ j ∧ j ≤ N ∧ e = .int .i64 j ∧ RelRn (N : Int) k bs zs a w j 0 wr) (fun e _ => N - (intOf e).toNat)
  case atStart =>
    have hb0 := (((Below.refl w.heap.size w).alloc (Nat.le_refl _) (.cells (ccells (N : Int) k bs).toArray 28)).alloc (by simp) (.cells (ccells 0 0 zbl).toArray 28)).alloc (by simp; omega) (.cells (ccells 0 0 zbl).toArray 28)
    have hbe := below_setRow hb0 (g := w.heap.size + 1 + 1) (by omega) (ccells (N : Int) k zbl).toArray
    exact ⟨1, by omega, n1, rfl, (((Blk.new _ _ _ _ rfl).alloc _).alloc _).rowOther _ _ (by omega), ((Blk.new _ _ _ _ (by simp)).alloc _).rowOther _ _ (by omega), (Blk.new _ _ _ _ (by simp)).rowSame _, HSL.out.below hbe (Nat.le_refl _), hbe⟩
  case round =>
    obtain ⟨j, hj1, hj, rfl, HR1⟩ := hrel
    have w0 := HR1.1.cell HC0.out
    have HK := hidd HR1
    clear HR1
    by_cases hlt : j < N
    · go_wp2_with fail
      clear w0
      go_loopw [7] (fun e wr => ∃ i : Nat, i ≤ j ∧ e = .int .i64 i ∧ RelRn (N : Int) k bs zs a w j i wr) (fun e _ => j - (intOf e).toNat)
      case atStart => exact ⟨0, by omega, rfl, HK.out⟩
      case round =>
        obtain ⟨i, hi, rfl, HR2⟩ := hrel
        have HK2 := hidd HR2
        clear HR2
        by_cases hil : i < j
        · rcases HK2.out.2.2.2.1 with hz | ⟨b, off, ha, hc⟩
          · have := HLN.out; subst hz; simp at this; omega
          · subst ha
            have hjl : j < zs.length := by rw [HLN.out]; exact hlt
            have hil2 : i < zs.length := by omega
            have hci := hc i hil2
            have hcj := hc j hjl
            obtain ⟨⟨y0, y1⟩, ⟨z0, z1⟩, hyz⟩ := ord_two HO.out hil hjl
            obtain ⟨y, hy⟩ : ∃ y, y = zs.getD i 0 := ⟨_, rfl⟩
            obtain ⟨z, hz⟩ : ∃ z, z = zs.getD j 0 := ⟨_, rfl⟩
            rw [← hy] at hci y0 y1 hyz
            rw [← hz] at hcj z0 z1 hyz
            have HA := hidd (fun (w' : World) (hw' : Below wr.heap.size wr w') => And.intro ((hw'.cell (block_lt_of_cell hci)).trans hci) ((hw'.cell (block_lt_of_cell hcj)).trans hcj))
            obtain ⟨hx0, hx1, hx2⟩ := eix_bd (n := (N : Int)) (by omega) y0 y1 z0 z1 hyz
            obtain ⟨E, hE⟩ := Int.eq_ofNat_of_zero_le hx0
            have HEX := hidd hE
            have hE136 : E < 136 := by omega
            have hEI : (E : Int) < 136 := by omega
            have HNE := hidd (show (i : Int) ≠ (j : Int) by omega)
            obtain ⟨x, hx⟩ : ∃ x, x = bs.getD (eN j + i) 0 := ⟨_, rfl⟩
            have hx256 : x < 256 := by rw [hx]; exact hb.lt _
            have HCX := hidd (show colAt bs (i : Int) (j : Int) = (x : Int) by rw [colAt_eN bs hil, hx])
            have hwr : IntKind.u8.wrap (x : Int) = (x : Int) := u8_in (by omega) (by omega)
            have HBB := hidd (rnP_bys (zs := zs) hb j i)
            have HST := hidd (show ∀ w', Below wr.heap.size wr w' → (∃ old, w'.cell? ⟨w.heap.size + 1 + 1, 2 + E, none⟩ = some old) ∧ w'.frozen? ⟨w.heap.size + 1 + 1, 2 + E, none⟩ = false ∧ RelRn (N : Int) k bs zs (some ⟨b, off, none⟩) w j (i + 1) (w'.setCell ⟨w.heap.size + 1 + 1, 2 + E, none⟩ (.int .u8 (x : Int))) from by
              intro w' hw'
              obtain ⟨q1, q2, q3, q4, q5⟩ := HK2.out
              have q3' := q3.below hw' q3.lt
              have hbe := (q5.trans (hw'.mono q5.size)).setCell (p := ⟨w.heap.size + 1 + 1, 2 + E, none⟩) (by show w.heap.size ≤ w.heap.size + 1 + 1; omega) (.int .u8 (x : Int))
              refine ⟨⟨_, q3'.cell (HBB.out.cget (N : Int) k hE136)⟩, q3'.fro _, (q1.below hw' q1.lt).other _ _ (by show w.heap.size ≠ w.heap.size + 1 + 1; omega), (q2.below hw' q2.lt).other _ _ (by show w.heap.size + 1 ≠ w.heap.size + 1 + 1; omega), ?_, HSL.out.below hbe (Nat.le_refl _), hbe⟩
              have s := q3'.same (2 + E) (.int .u8 (x : Int))
              rw [ccells_set] at s
              rw [rnP_step, ← hy, ← hz, hE, ← hx, Int.toNat_natCast]
              exact s)
            clear hc hci hcj hy hz hyz hE hx hx0 hx1 hx2
            go_wp2_with fail
            refine wp_region_last_lit 16 (fun w' => Below wr.heap.size wr w') rfl rfl (by kernel_rfl) ((Below.refl _ _).drew) (by kernel_rfl) (by kernel_rfl) (by kernel_rfl) ?_
            simp only [List.take_succ_cons, List.take_zero, List.cons_append, List.nil_append, idle]
            refine qs rfl (fun KQ hKQ => ?_)
            apply Exists.intro
            refine ⟨fun w' hw' => ?_, ?_⟩
            · (go_simp; exact rfl)
            go_simp
            refine hKQ _ ?_
            clear hKQ KQ
            refine qs rfl (fun KQ hKQ => ?_)
            apply Exists.intro
            refine ⟨fun w' hw' => ?_, ?_⟩
            · (go_simp; exact rfl)
            go_simp
            refine hKQ _ ?_
            clear hKQ KQ
            refine qs rfl (fun KQ hKQ => ?_)
            apply Exists.intro
            refine ⟨fun w' hw' => ?_, ?_⟩
            · (go_simp; exact rfl)
            go_simp
            refine hKQ _ ?_
            clear hKQ KQ
            refine qs rfl (fun KQ hKQ => ?_)
            apply Exists.intro
            refine ⟨fun w' hw' => ?_, ?_⟩
            · (have e1 := (HA.out w' hw').1; go_simp; exact rfl)
            go_simp
            refine hKQ _ ?_
            clear hKQ KQ
            refine qs rfl (fun KQ hKQ => ?_)
            apply Exists.intro
            refine ⟨fun w' hw' => ?_, ?_⟩
            · (go_simp; exact rfl)
            go_simp
            refine hKQ _ ?_
            clear hKQ KQ
            refine qs rfl (fun KQ hKQ => ?_)
            apply Exists.intro
            refine ⟨fun w' hw' => ?_, ?_⟩
            · (go_simp; exact rfl)
            go_simp
            refine hKQ _ ?_
            clear hKQ KQ
            refine qs rfl (fun KQ hKQ => ?_)
            apply Exists.intro
            refine ⟨fun w' hw' => ?_, ?_⟩
            · (go_simp; exact rfl)
            go_simp
            refine hKQ _ ?_
            clear hKQ KQ
            refine qs rfl (fun KQ hKQ => ?_)
            apply Exists.intro
            refine ⟨fun w' hw' => ?_, ?_⟩
            · (have e1 := (HA.out w' hw').2; go_simp; exact rfl)
            go_simp
            refine hKQ _ ?_
            clear hKQ KQ
            refine qs rfl (fun KQ hKQ => ?_)
            apply Exists.intro
            refine ⟨fun w' hw' => ?_, ?_⟩
            · (go_simp; exact (edge79 _ _ _ (by omega) (by omega) (by omega) (by omega)).mono fun _ _ h => ⟨by rw [h.1, HEX.out], by rw [← h.2]; exact hw'⟩)
            go_simp
            refine hKQ _ ?_
            clear hKQ KQ
            refine qs rfl (fun KQ hKQ => ?_)
            apply Exists.intro
            refine ⟨fun w' hw' => ?_, ?_⟩
            · (exact quietRow 28 (.tmp 2) rfl w.heap.size rfl 28 _ _ (HK2.out.1.below hw' HK2.out.1.lt) Try.underlying28 rfl HS.out)
            go_simp
            refine hKQ _ ?_
            clear hKQ KQ
            refine qs rfl (fun KQ hKQ => ?_)
            apply Exists.intro
            refine ⟨fun w' hw' => ?_, ?_⟩
            · (go_simp; exact rfl)
            go_simp
            refine hKQ _ ?_
            clear hKQ KQ
            refine qs rfl (fun KQ hKQ => ?_)
            apply Exists.intro
            refine ⟨fun w' hw' => ?_, ?_⟩
            · (go_simp; exact rfl)
            go_simp
            refine hKQ _ ?_
            clear hKQ KQ
            refine qs rfl (fun KQ hKQ => ?_)
            apply Exists.intro
            refine ⟨fun w' hw' => ?_, ?_⟩
            · (go_simp; exact (at57 (N : Int) k bs hb N i j _ (by omega) (by omega) (by omega) (by omega) (by omega) HNE.out).mono fun _ _ h => ⟨by rw [h.1, HCX.out], hw'.trans (h.2.mono hw'.size)⟩)
            go_simp
            refine hKQ _ ?_
            clear hKQ KQ
            refine qs rfl (fun KQ hKQ => ?_)
            apply Exists.intro
            refine ⟨fun w' hw' => ?_, ?_⟩
            · (go_simp; exact rfl)
            go_simp
            refine hKQ _ ?_
            clear hKQ KQ
            refine qs rfl (fun KQ hKQ => ?_)
            apply Exists.intro
            refine ⟨fun w' hw' => ?_, ?_⟩
            · (go_simp; exact rfl)
            go_simp
            refine hKQ _ ?_
            clear hKQ KQ
            refine qs rfl (fun KQ hKQ => ?_)
            apply Exists.intro
            refine ⟨fun w' hw' => ?_, ?_⟩
            · (go_simp; exact rfl)
            go_simp
            refine hKQ _ ?_
            clear hKQ KQ
            refine qs rfl (fun KQ hKQ => ?_)
            apply Exists.intro
            refine ⟨fun w' hw' => ?_, ?_⟩
            · (go_simp; exact rfl)
            go_simp
            refine hKQ _ ?_
            clear hKQ KQ
            refine wpQuiet_nil ?_
            intro w' hw'
            obtain ⟨⟨old, hwE⟩, hfE, hrel'⟩ := HST.out w' hw'
            have K := hidd hrel'
            clear hrel'
            go_wp2
            go_roundw
            case rel => exact ⟨i + 1, by omega, by go_num, K.out⟩
            case measure => simp [intOf]; omega
        · have hie : i = j := by omega
          subst hie
          have HN := hidd (rnP_row zs bs i)
          go_wp2_with fail
          go_roundw
          case rel => exact ⟨i + 1, by omega, by omega, by go_num, by have := HK2.out; unfold RelRn at this ⊢; rw [← HN.out]; exact this⟩
          case measure => simp [intOf]; omega
    · have hje : j = N := by omega
      subst hje
      have h3 := HK.out.2.2.1
      rw [rnP_done] at h3
      have R := hidd (And.intro HK.out.2.1 (And.intro h3 (And.intro (HK.out.2.1.rowSame (ccells (j : Int) k (rnB j zs bs)).toArray) (below_setRow HK.out.2.2.2.2 (g := w.heap.size + 1) (by omega) (ccells (j : Int) k (rnB j zs bs)).toArray))))
      clear h3
      go_wp2_with (first
        | (refine wpList_load_row rfl 28 (.tmp 5) rfl (w.heap.size + 1 + 1) rfl 28 _ (0,0) _ R.out.2.1 Try.underlying28 rfl HPS.out ?_)
        | (refine wpList_store_row rfl 28 (.tmp 4) (.tmp 40) rfl (w.heap.size + 1) _ rfl rfl 28 _ R.out.1 HPS.out HPO.out HPA.out ?_))
      refine bodyPost_ret (results_cell_row rfl _ _ (w.heap.size + 1) 28 _ (0,0) _ rfl R.out.2.2.1 Try.underlying28 rfl HPS.out) rfl ⟨rfl, R.out.2.2.2⟩
end Go.Proofs.Ythcfcgknkheleaa
/- RenumberPoints: its model. -/
namespace Go.Proofs.Ythcfcgknkheleaa
set_option linter.unusedVariables false
set_option linter.unusedSimpArgs false
open Go Go.RowKit Go.Shelf
end Go.Proofs.Ythcfcgknkheleaa
/- RenumberPoints: the program. -/
namespace Go.Proofs.Ythcfcgknkheleaa
set_option linter.unusedVariables false
set_option linter.unusedSimpArgs false
open Go Go.RowKit Go.Shelf
attribute [local go_sem] Oper.semAt_some
def RelRe {N : Nat} (k : Int) (bs : List Nat) (zs : List Int) (a : Option Addr) (cap : Nat) (g : Nat) (w : World) (pre : List (Edg N)) (W : World) : Prop :=
  Blk W w.heap.size (ccells (N : Int) k bs).toArray 28 ∧ Blk W (w.heap.size + 1) #[.slice a zs.length cap] 25 ∧ Blk W (w.heap.size + 1 + 1) (ccells 0 0 zbl).toArray 28 ∧ Blk W g (ccells (N : Int) k ((pre.map Edg.v).foldl (rnF zs bs) zbl)).toArray 28 ∧ Below w.heap.size w W
set_option maxRecDepth 100000 in
set_option maxHeartbeats 4000000 in
theorem impl32r (n k : Int) (bs : List Nat) (hb : Bys bs) (zs : List Int) (a : Option Addr) (cap : Nat) (w : World) (hs : SlI w a zs) (hl : zs.length ≤ 9223372036854775807) :
    Calls Try.prog 14 #[.agg (ccells n k bs).toArray, .slice a zs.length cap] w fun e w' => e = .returned (rnOut n k bs zs) ∧ Below w.heap.size w w' := by
  have HS := hidd (size_c26 n k hb)
  have Hz := zero26
  have HZS := hidd size_z26
  have HZ1 := hidd (ccells_one 0 0 zbl)
  have HC0 := hidd (show (ccells n k bs).toArray[0]? = some (.int .i64 n) from rfl)
  have HC1 := hidd (show (ccells n k bs).toArray[1]? = some (.int .i64 k) from rfl)
  have hmk : ∀ w0, w0 = ((w.alloc (.cells (ccells n k bs).toArray 28)).alloc (.cells #[.slice a zs.length cap] 25)).alloc (.cells (ccells 0 0 zbl).toArray 28) → ∀ w1, Below w0.heap.size w0 w1 →
      Blk w1 w.heap.size (ccells n k bs).toArray 28 ∧ Blk w1 (w.heap.size + 1) #[.slice a zs.length cap] 25 ∧ Blk w1 (w.heap.size + 1 + 1) (ccells 0 0 zbl).toArray 28 ∧ SlI w1 a zs ∧ Below w.heap.size w w1 := by
    rintro w0 rfl w1 hb1
    have hb := (((Below.refl w.heap.size w).alloc (Nat.le_refl _) (.cells (ccells n k bs).toArray 28)).alloc (by simp) (.cells #[.slice a zs.length cap] 25)).alloc (by simp; omega) (.cells (ccells 0 0 zbl).toArray 28)
    have hbl := hb.trans (hb1.mono (by simp; omega))
    exact ⟨(((Blk.new _ _ _ _ rfl).alloc _).alloc _).below hb1 (by simp; omega), ((Blk.new _ _ _ _ (by simp)).alloc _).below hb1 (by simp), (Blk.new _ _ _ _ (by simp)).below hb1 (by simp), hs.below hbl (Nat.le_refl _), hbl⟩
  have HMK := hidd hmk
  have HSL := hidd hs
  clear hmk hs
  cases hi : isCol n k bs with
  | false =>
    have H := hidd (rnOut_bad (rnCode_1 (zs := zs) hi) (by omega))
    have HI := hidd hi
    clear hi
    go_enter Try.func14, Try.ntmps14
    go_wp2_with (refine wpList_load_row rfl 28 (.tmp 2) rfl w.heap.size rfl 28 _ (0,0) _ (((Blk.new _ _ _ _ rfl).alloc _).alloc _) Try.underlying28 rfl HS.out ?_)
    refine (implIs_any n k bs hb _).mono ?_
    rintro e w1 ⟨rfl, hb1⟩
    rw [HI.out]
    have G := hidd (HMK.out _ rfl _ hb1)
    have R := hidd (And.intro G.out.2.2.1 (And.intro (G.out.2.2.1.rowSame (ccells 0 0 zbl).toArray) (below_setRow G.out.2.2.2.2 (g := w.heap.size + 1 + 1) (by omega) (ccells 0 0 zbl).toArray)))
    clear hb1
    go_wp2_with (first
      | (refine wpList_zero26 rfl rfl ?_)
      | (refine wpList_store_row rfl 28 (.tmp 4) (.tmp 12) rfl (w.heap.size + 1 + 1) _ rfl rfl 28 _ R.out.1 HZS.out rfl HZ1.out ?_))
    exact ret_col rfl zbl_bys rfl R.out.2.1 rfl rfl ⟨by rw [H.out]; rfl, R.out.2.2⟩
  | true =>
    have HI := hidd hi
    obtain ⟨n1, n2, k1, k2⟩ := isCol_bd hi
    cases ho : ordB zs n with
    | false =>
      have H := hidd (rnOut_bad (rnCode_2 hi ho) (by omega))
      have HO := hidd ho
      clear hi ho
      go_enter Try.func14, Try.ntmps14
      go_wp2_with (refine wpList_load_row rfl 28 (.tmp 2) rfl w.heap.size rfl 28 _ (0,0) _ (((Blk.new _ _ _ _ rfl).alloc _).alloc _) Try.underlying28 rfl HS.out ?_)
      refine (implIs_any n k bs hb _).mono ?_
      rintro e w1 ⟨rfl, hb1⟩
      rw [HI.out]
      have G := hidd (HMK.out _ rfl _ hb1)
      have c5 := G.out.2.1.cell (j := 0) (show _ = some (Value.slice a zs.length cap) from rfl)
      have c1 := G.out.1.cell HC0.out
      clear hb1
      go_wp2_with fail
      refine (order65 zs a cap n _ G.out.2.2.2.1 hl n1 n2).mono ?_
      rintro e w2 ⟨rfl, hb2⟩
      rw [HO.out]
      have z2 := G.out.2.2.1.below hb2 G.out.2.2.1.lt
      have b2 := G.out.2.2.2.2.trans (hb2.mono G.out.2.2.2.2.size)
      have R := hidd (And.intro z2 (And.intro (z2.rowSame (ccells 0 0 zbl).toArray) (below_setRow b2 (g := w.heap.size + 1 + 1) (by omega) (ccells 0 0 zbl).toArray)))
      clear hb2 z2 b2 c5 c1
      go_wp2_with (first
        | (refine wpList_zero26 rfl rfl ?_)
        | (refine wpList_store_row rfl 28 (.tmp 4) (.tmp 18) rfl (w.heap.size + 1 + 1) _ rfl rfl 28 _ R.out.1 HZS.out rfl HZ1.out ?_))
      exact ret_col rfl zbl_bys rfl R.out.2.1 rfl rfl ⟨by rw [H.out]; rfl, R.out.2.2⟩
    | true =>
      have H := hidd (rnOut_good (rnCode_0 hi ho))
      have HO := hidd ho
      obtain ⟨N, rfl⟩ := Int.eq_ofNat_of_zero_le (show 0 ≤ n by omega)
      rw [Int.toNat_natCast] at H
      have N1 : 1 ≤ N := by omega
      have N2 : N ≤ 17 := by omega
      have HLN := hidd (show zs.length = N by have := (ord_len ho).1; omega)
      have HNS := hidd (size_c26 (N : Int) k zbl_bys)
      have HNO := hidd (size_cc 0 0 (N : Int) k zbl_bys zbl_bys)
      have HNA := hidd (ccells_one (N : Int) k zbl)
      clear hi ho
      have hfn : ∀ f, Fence.wide.fn f := fun _ => trivial
      refine (callsIn_wide (n := 8)).1 (callsIn_of_wp_marks Try.func14 rfl trivial ?_ rfl)
      simp only [Try.ntmps14, List.size_toArray, List.length_cons, List.length_nil, Nat.reduceAdd, Nat.reduceSub, Array.replicate_succ, Array.replicate_zero, List.push_toArray, List.append_toArray, List.nil_append, List.cons_append]
      gi_wp2_with (refine inLoadRow rfl 28 (.tmp 2) rfl w.heap.size rfl 28 _ _ (((Blk.new _ _ _ _ rfl).alloc _).alloc _) Try.underlying28 rfl HS.out ?_)
      refine (callsIn_wide.2 (implIs_any (N : Int) k bs hb _)).mono ?_
      rintro e w1 ⟨rfl, hb1⟩
      rw [HI.out]
      have G := hidd (HMK.out _ rfl _ hb1)
      have c5 := G.out.2.1.cell (j := 0) (show _ = some (Value.slice a zs.length cap) from rfl)
      have c0 := G.out.1.cell HC0.out
      clear hb1
      gi_wp2_with fail
      refine (callsIn_wide.2 (order65 zs a cap (N : Int) _ G.out.2.2.2.1 hl n1 n2)).mono ?_
      rintro e w2 ⟨rfl, hb2⟩
      rw [HO.out]
      have G2 := hidd (And.intro (G.out.1.below hb2 G.out.1.lt) (And.intro (G.out.2.1.below hb2 G.out.2.1.lt) (And.intro (G.out.2.2.1.below hb2 G.out.2.2.1.lt) (And.intro (G.out.2.2.2.1.below hb2 (Nat.le_refl _)) (G.out.2.2.2.2.trans (hb2.mono G.out.2.2.2.2.size))))))
      clear hb2 c5 c0
      have c0 := G2.out.1.cell HC0.out
      have c1 := G2.out.1.cell HC1.out
      have hz2 := G2.out.2.2.1.lt
      have hset : ((ccells 0 0 zbl).set 0 (Value.int .i64 (N : Int))).set 1 (Value.int .i64 k) = ccells (N : Int) k zbl := rfl
      have hcy := ((G2.out.1.alloc (Obj.cells (ccells 0 0 zbl).toArray 28)).rowOther w2.heap.size (ccells (N : Int) k zbl).toArray (by omega)).cell HC0.out
      gi_wp2_with (first
        | (refine inBuild rfl 28 _ rfl _ (built26nk (N : Int) k) ?_)
        | (refine inStoreRow rfl 28 (.tmp 6) (.tmp 23) rfl w2.heap.size _ rfl rfl 28 _ (Blk.new _ _ _ _ rfl) HNS.out HNO.out HNA.out ?_)
        | (gi_at_call 21; refine (callsIn_wide.2 (edges66 _ _)).mono ?_; rintro e w' ⟨rfl, rfl⟩))
      obtain ⟨W0, hW0⟩ : ∃ W0, W0 = ((w2.alloc (Obj.cells (ccells 0 0 zbl).toArray 28)).setRow w2.heap.size (ccells (N : Int) k zbl).toArray).alloc (Obj.cells #[Value.int IntKind.i64 (N : Int)] 2) := ⟨_, rfl⟩
      have hBn : Blk W0 (w2.heap.size + 1) #[.int .i64 (N : Int)] 2 := by rw [hW0]; exact Blk.new _ _ _ _ (by simp)
      have hBc : Blk W0 w.heap.size (ccells (N : Int) k bs).toArray 28 := by rw [hW0]; exact ((G2.out.1.alloc _).rowOther _ _ (by omega)).alloc _
      have hBp : Blk W0 (w.heap.size + 1) #[.slice a zs.length cap] 25 := by rw [hW0]; exact ((G2.out.2.1.alloc _).rowOther _ _ (by omega)).alloc _
      have hBz : Blk W0 (w.heap.size + 1 + 1) (ccells 0 0 zbl).toArray 28 := by rw [hW0]; exact ((G2.out.2.2.1.alloc _).rowOther _ _ (by omega)).alloc _
      have hBy : Blk W0 w2.heap.size (ccells (N : Int) k zbl).toArray 28 := by rw [hW0]; exact ((Blk.new _ _ _ _ rfl).rowSame _).alloc _
      have hbl0 : Below w.heap.size w W0 := by
        rw [hW0]
        have hs2 := G2.out.2.2.2.2.size
        exact (below_setRow (G2.out.2.2.2.2.alloc hs2 _) hs2 _).alloc (by simp; omega) _
      rw [← hW0]
      clear hW0 hcy c0 c1
      refine wpIn_rangeFunc_ownH rfl (by omega) (gf := 27) (lb := #[.pointer (some ⟨w2.heap.size + 1, 0, none⟩)]) rfl trivial (enters_of Try.func27 (by kernel_rfl) rfl)
        (seq80 6 (w2.heap.size + 1) N N1 N2 W0 hBn) kpB_t (kpB_b hBn.lt) (Below.refl _ _) (fun _ => rfl)
        (fun pre W => RelRe k bs zs a cap w2.heap.size w pre W ∧ w2.heap.size + 1 < W.heap.size)
        (fun _ _ _ => False)
        (fun s A B row hs hg hr => ⟨⟨blk_own hs.1.1 hg hr, blk_own hs.1.2.1 hg hr, blk_own hs.1.2.2.1 hg hr, blk_own hs.1.2.2.2.1 hg hr, ownFrom_below (β := Unit) (Nat.le_refl _) hbl0.size () A B row hs.1.2.2.2.2 hg hr⟩, Nat.lt_of_lt_of_le hs.2 hg.size⟩)
        (fun _ _ _ _ _ hs _ _ => hs)
        ⟨⟨hBc, hBp, hBz, hBy, hbl0⟩, hBn.lt⟩
        (fun x a' W => ∃ b, a' = { tmps := #[.agg (ccells (N : Int) k bs).toArray, .slice a zs.length cap, .pointer (some ⟨w.heap.size, 0, none⟩), .pointer (some ⟨w.heap.size + 1, 0, none⟩), .pointer (some ⟨w.heap.size + 1 + 1, 0, none⟩), .int .i64 0, .pointer (some ⟨w2.heap.size, 0, none⟩), .int .i64 (x.1.1 : Int), .pointer (some ⟨b, 0, none⟩), .agg (ccells (N : Int) k bs).toArray, .bool true, .bool false, undef, .slice a zs.length cap, .pointer (some ⟨w.heap.size, 0, none⟩), .int .i64 (N : Int), .bool true, .bool false, undef, .pointer (some ⟨w.heap.size, 0, none⟩), .int .i64 (N : Int), .pointer (some ⟨w.heap.size, 1, none⟩), .int .i64 k, .agg (ccells (N : Int) k zbl).toArray, .pointer (some ⟨w.heap.size, 0, none⟩), .int .i64 (N : Int), .func (.func 27) #[] #[.pointer (some ⟨w2.heap.size + 1, 0, none⟩)], .int .i64 (x.1.1 : Int), .agg #[.int .i64 (x.1.2.1 : Int), .int .i64 (x.1.2.2 : Int)], undef, undef, undef, undef, undef, undef, undef, undef, undef, undef, undef, undef, undef, undef, undef, undef, undef, undef], defers := [] } ∧ w2.heap.size + 1 < b ∧ Blk W b #[.int .i64 (x.1.2.1 : Int), .int .i64 (x.1.2.2 : Int)] 50)
        (fun x a' s A B row hs hg hr => by obtain ⟨b, h1, h2, h3⟩ := hs; exact ⟨b, h1, h2, blk_own h3 hg hr⟩) ?assign ?body ?done ?stop
      case assign =>
        intro l pre x W Kx hI hK
        have HI := hidd hI
        have HK := hidd hK
        clear hI hK
        dsimp only [encE]
        gi_wp2
        refine HK.out _ _ ((KeepsOthers.alloc W _).from _) ?_ ?_ ?_
        · exact Below.heap_alloc W _ _ HI.out.2
        · exact ⟨⟨HI.out.1.1.alloc _, HI.out.1.2.1.alloc _, HI.out.1.2.2.1.alloc _, HI.out.1.2.2.2.1.alloc _, HI.out.1.2.2.2.2.alloc HI.out.1.2.2.2.2.size _⟩, by have := HI.out.2; simp; omega⟩
        · exact ⟨W.heap.size, rfl, by have := HI.out.2; omega, Blk.new _ _ _ _ rfl⟩
      case body =>
        rintro l pre x a' W hl _ ⟨⟨h1, h2, h3, h4, h5⟩, h6⟩ ⟨b, rfl, hb', h7⟩ hlen
        have hx := x.lt
        obtain ⟨hx1, hx2, hx3⟩ := x.2
        have h17 := eN_17 N2
        obtain ⟨j, hj⟩ : ∃ j, j = x.1.1 := ⟨_, rfl⟩
        obtain ⟨lo, hlo⟩ : ∃ lo, lo = x.1.2.1 := ⟨_, rfl⟩
        obtain ⟨hi, hhi⟩ : ∃ hi, hi = x.1.2.2 := ⟨_, rfl⟩
        rw [← hlo, ← hhi] at h7 hx2
        rw [← hhi] at hx3
        rw [← hj] at hx ⊢
        rw [← hlo, ← hhi]
        have HX := hidd (show x.1 = (j, lo, hi) by rw [hj, hlo, hhi])
        have hil : hi < zs.length := by rw [HLN.out]; exact hx3
        have hll : lo < zs.length := by omega
        have hsl := HSL.out.below h5 (Nat.le_refl _)
        rcases hsl with hz | ⟨bl, off, ha, hc⟩
        · have := HLN.out; subst hz; simp at this; omega
        · subst ha
          have hcl := hc lo hll
          have hch := hc hi hil
          obtain ⟨⟨y0, y1⟩, ⟨z0, z1⟩, hyz⟩ := ord_two HO.out hx2 hil
          obtain ⟨y, hy⟩ : ∃ y, y = zs.getD lo 0 := ⟨_, rfl⟩
          obtain ⟨z, hz⟩ : ∃ z, z = zs.getD hi 0 := ⟨_, rfl⟩
          rw [← hy] at hcl y0 y1 hyz
          rw [← hz] at hch z0 z1 hyz
          have HYZ := hidd hyz
          obtain ⟨ex0, ex1, ex2⟩ := eix_bd (n := (N : Int)) (by omega) y0 y1 z0 z1 hyz
          obtain ⟨E, hE⟩ := Int.eq_ofNat_of_zero_le ex0
          have HEX := hidd hE
          have hE136 : E < 136 := by omega
          have hEI : (E : Int) < 136 := by omega
          have hj136 : j < 136 := by omega
          have hjI : (j : Int) < 136 := by omega
          obtain ⟨v, hv⟩ : ∃ v, v = bs.getD j 0 := ⟨_, rfl⟩
          have cj := h1.cell (hb.cget (N : Int) k hj136)
          rw [← hv] at cj
          have cp := h2.cell (j := 0) (show _ = some (Value.slice (some ⟨bl, off, none⟩) zs.length cap) from rfl)
          have d0 := h7.cell (j := 0) (show _ = some (Value.int .i64 (lo : Int)) from rfl)
          have d1 := h7.cell (j := 1) (show _ = some (Value.int .i64 (hi : Int)) from rfl)
          have HA := hidd (fun (w' : World) (hw' : Below W.heap.size W w') => And.intro ((hw'.cell (block_lt_of_cell cp)).trans cp) (And.intro ((hw'.cell (block_lt_of_cell d0)).trans d0) (And.intro ((hw'.cell (block_lt_of_cell d1)).trans d1) (And.intro ((hw'.cell (block_lt_of_cell hcl)).trans hcl) (And.intro ((hw'.cell (block_lt_of_cell hch)).trans hch) ((hw'.cell (block_lt_of_cell cj)).trans cj))))))
          have HBB := hidd (show Bys ((pre.map Edg.v).foldl (rnF zs bs) zbl) from rnF_bys hb _ _ zbl_bys)
          have HST := hidd (show ∀ w', Below W.heap.size W w' → (∃ old, w'.cell? ⟨w2.heap.size, 2 + E, none⟩ = some old) ∧ w'.frozen? ⟨w2.heap.size, 2 + E, none⟩ = false ∧
              KeepsFrom W0.heap.size W (w'.setCell ⟨w2.heap.size, 2 + E, none⟩ (.int .u8 (v : Int))) ∧ KpB (w2.heap.size + 1) W (w'.setCell ⟨w2.heap.size, 2 + E, none⟩ (.int .u8 (v : Int))) ∧
              RelRe k bs zs (some ⟨bl, off, none⟩) cap w2.heap.size w (pre ++ [x]) (w'.setCell ⟨w2.heap.size, 2 + E, none⟩ (.int .u8 (v : Int))) ∧ w2.heap.size + 1 < (w'.setCell ⟨w2.heap.size, 2 + E, none⟩ (.int .u8 (v : Int))).heap.size from by
            intro w' hw'
            have q4 := h4.below hw' h4.lt
            have hs5 := h5.size
            have hbe := (h5.trans (hw'.mono h5.size)).setCell (p := ⟨w2.heap.size, 2 + E, none⟩) (by show w.heap.size ≤ w2.heap.size; omega) (.int .u8 (v : Int))
            have s := q4.same (2 + E) (.int .u8 (v : Int))
            rw [ccells_set] at s
            refine ⟨⟨_, q4.cell (HBB.out.cget (N : Int) k hE136)⟩, q4.fro _, (keeps_below (B := W0.heap.size) hw').trans ((KeepsOthers.setCell w' ⟨w2.heap.size, 2 + E, none⟩ (.int .u8 (v : Int))).from _),
              (heap_setCell_other w' ⟨w2.heap.size, 2 + E, none⟩ (w2.heap.size + 1) (.int .u8 (v : Int)) (by show w2.heap.size + 1 ≠ w2.heap.size; omega)).trans (hw'.block _ h6),
              ⟨(h1.below hw' h1.lt).other _ _ (by show w.heap.size ≠ w2.heap.size; omega), (h2.below hw' h2.lt).other _ _ (by show w.heap.size + 1 ≠ w2.heap.size; omega), (h3.below hw' h3.lt).other _ _ (by show w.heap.size + 1 + 1 ≠ w2.heap.size; omega), ?_, hbe⟩,
              Nat.lt_of_lt_of_le h6 (Nat.le_trans hw'.size (by simp [World.setCell]))⟩
            rw [List.map_append, List.foldl_append]
            show Blk _ _ (ccells (N : Int) k (rnF zs bs ((pre.map Edg.v).foldl (rnF zs bs) zbl) x.1)).toArray 28
            unfold rnF
            rw [HX.out, ← hy, ← hz, hE, ← hv, Int.toNat_natCast]
            exact s)
          have HNE := HYZ
          clear hj hlo hhi h1 h2 h3 h4 h5 h6 h7 hx1 hc hcl hch hy hz hyz hE hv cj cp d0 d1 ex0 ex1 ex2
          gi_wp2_with fail
          refine wpIn_region_tail_lit (lets_round l _) 17 (fun w' => Below W.heap.size W w') (by decide) (by kernel_rfl) ((Below.refl _ _).drew) (by kernel_rfl) (by kernel_rfl) (by kernel_rfl) (by kernel_rfl) (by kernel_rfl) ?_
          simp only [List.take_succ_cons, List.take_zero, List.drop_succ_cons, List.drop_zero, List.map_cons, List.map_nil, List.cons_append, List.nil_append, idle]
          refine qs rfl (fun KQ hKQ => ?_)
          apply Exists.intro
          refine ⟨fun w' hw' => ?_, ?_⟩
          · (have e1 := (HA.out w' hw').1; go_simp; exact rfl)
          go_simp
          refine hKQ _ ?_
          clear hKQ KQ
          refine qs rfl (fun KQ hKQ => ?_)
          apply Exists.intro
          refine ⟨fun w' hw' => ?_, ?_⟩
          · (go_simp; exact rfl)
          go_simp
          refine hKQ _ ?_
          clear hKQ KQ
          refine qs rfl (fun KQ hKQ => ?_)
          apply Exists.intro
          refine ⟨fun w' hw' => ?_, ?_⟩
          · (have e1 := (HA.out w' hw').2.1; go_simp; exact rfl)
          go_simp
          refine hKQ _ ?_
          clear hKQ KQ
          refine qs rfl (fun KQ hKQ => ?_)
          apply Exists.intro
          refine ⟨fun w' hw' => ?_, ?_⟩
          · (go_simp; exact rfl)
          go_simp
          refine hKQ _ ?_
          clear hKQ KQ
          refine qs rfl (fun KQ hKQ => ?_)
          apply Exists.intro
          refine ⟨fun w' hw' => ?_, ?_⟩
          · (have e1 := (HA.out w' hw').2.2.2.1; go_simp; exact rfl)
          go_simp
          refine hKQ _ ?_
          clear hKQ KQ
          refine qs rfl (fun KQ hKQ => ?_)
          apply Exists.intro
          refine ⟨fun w' hw' => ?_, ?_⟩
          · (have e1 := (HA.out w' hw').1; go_simp; exact rfl)
          go_simp
          refine hKQ _ ?_
          clear hKQ KQ
          refine qs rfl (fun KQ hKQ => ?_)
          apply Exists.intro
          refine ⟨fun w' hw' => ?_, ?_⟩
          · (go_simp; exact rfl)
          go_simp
          refine hKQ _ ?_
          clear hKQ KQ
          refine qs rfl (fun KQ hKQ => ?_)
          apply Exists.intro
          refine ⟨fun w' hw' => ?_, ?_⟩
          · (have e1 := (HA.out w' hw').2.2.1; go_simp; exact rfl)
          go_simp
          refine hKQ _ ?_
          clear hKQ KQ
          refine qs rfl (fun KQ hKQ => ?_)
          apply Exists.intro
          refine ⟨fun w' hw' => ?_, ?_⟩
          · (go_simp; exact rfl)
          go_simp
          refine hKQ _ ?_
          clear hKQ KQ
          refine qs rfl (fun KQ hKQ => ?_)
          apply Exists.intro
          refine ⟨fun w' hw' => ?_, ?_⟩
          · (have e1 := (HA.out w' hw').2.2.2.2.1; go_simp; exact rfl)
          go_simp
          refine hKQ _ ?_
          clear hKQ KQ
          refine qs rfl (fun KQ hKQ => ?_)
          apply Exists.intro
          refine ⟨fun w' hw' => ?_, ?_⟩
          · (go_simp; exact (edge54 _ _ _ HNE.out (by omega) (by omega) (by omega) (by omega)).mono fun _ _ h => ⟨by rw [h.1, HEX.out], by rw [← h.2]; exact hw'⟩)
          go_simp
          refine hKQ _ ?_
          clear hKQ KQ
          refine qs rfl (fun KQ hKQ => ?_)
          apply Exists.intro
          refine ⟨fun w' hw' => ?_, ?_⟩
          · (go_simp; exact rfl)
          go_simp
          refine hKQ _ ?_
          clear hKQ KQ
          refine qs rfl (fun KQ hKQ => ?_)
          apply Exists.intro
          refine ⟨fun w' hw' => ?_, ?_⟩
          · (go_simp; exact rfl)
          go_simp
          refine hKQ _ ?_
          clear hKQ KQ
          refine qs rfl (fun KQ hKQ => ?_)
          apply Exists.intro
          refine ⟨fun w' hw' => ?_, ?_⟩
          · (go_simp; exact rfl)
          go_simp
          refine hKQ _ ?_
          clear hKQ KQ
          refine qs rfl (fun KQ hKQ => ?_)
          apply Exists.intro
          refine ⟨fun w' hw' => ?_, ?_⟩
          · (have e1 := (HA.out w' hw').2.2.2.2.2; go_simp; exact rfl)
          go_simp
          refine hKQ _ ?_
          clear hKQ KQ
          refine qs rfl (fun KQ hKQ => ?_)
          apply Exists.intro
          refine ⟨fun w' hw' => ?_, ?_⟩
          · (go_simp; exact rfl)
          go_simp
          refine hKQ _ ?_
          clear hKQ KQ
          refine qs rfl (fun KQ hKQ => ?_)
          apply Exists.intro
          refine ⟨fun w' hw' => ?_, ?_⟩
          · (go_simp; exact rfl)
          go_simp
          refine hKQ _ ?_
          clear hKQ KQ
          refine qs rfl (fun KQ hKQ => ?_)
          apply Exists.intro
          refine ⟨fun w' hw' => ?_, ?_⟩
          · (go_simp; exact rfl)
          go_simp
          refine hKQ _ ?_
          clear hKQ KQ
          refine wpQuiet_nil ?_
          intro w' hw'
          obtain ⟨⟨old, hwE⟩, hfE, hrel'⟩ := HST.out w' hw'
          have K := hidd hrel'
          clear hrel'
          gi_wp2
          exact K.out
      case done =>
        rintro D xs W hD hxs ⟨⟨h1, h2, h3, h4, h5⟩, h6⟩ hK
        rw [hxs] at h4
        have h4 : Blk W w2.heap.size (ccells (N : Int) k (rnB N zs bs)).toArray 28 := h4
        have hbB : Bys (rnB N zs bs) := rnF_bys hb _ _ zbl_bys
        have HS1 := hidd (size_c26 (N : Int) k hbB)
        have HO1 := hidd (size_cc 0 0 (N : Int) k zbl_bys hbB)
        have HA1 := hidd (ccells_one (N : Int) k (rnB N zs bs))
        have R := hidd (And.intro h3 (And.intro h4 (And.intro (h3.rowSame (ccells (N : Int) k (rnB N zs bs)).toArray) (below_setRow h5 (g := w.heap.size + 1 + 1) (by omega) (ccells (N : Int) k (rnB N zs bs)).toArray))))
        have hBnl := hBn.lt
        have hDW : W0.heap.size ≤ D := hD
        have hK' : (W.setRow (w.heap.size + 1 + 1) (ccells (N : Int) k (rnB N zs bs)).toArray).heap[D]? = some (.deferred (some [])) := (setRow_other W (w.heap.size + 1 + 1) D _ (by omega)).trans hK
        have HK := hidd hK'
        clear h1 h2 h3 h4 h5 hK hK'
        gi_wp2_with (first
          | (refine inLoadRow rfl 28 (.tmp 6) rfl w2.heap.size rfl 28 _ _ R.out.2.1 Try.underlying28 rfl HS1.out ?_)
          | (refine inStoreRow rfl 28 (.tmp 4) (.tmp 46) rfl (w.heap.size + 1 + 1) _ rfl rfl 28 _ R.out.1 HS1.out HO1.out HA1.out ?_))
        refine ⟨by simp [Act.put], .inl ⟨_, _, rfl, run_takeDeferred HK.out, ?_⟩⟩
        have hr : Blk ((W.setRow (w.heap.size + 1 + 1) (ccells (N : Int) k (rnB N zs bs)).toArray).putObj D (.deferred none)) (w.heap.size + 1 + 1) (ccells (N : Int) k (rnB N zs bs)).toArray 28 := (World.putObj_heap_other (by omega)).trans R.out.2.2.1
        have hb2 : Below w.heap.size w ((W.setRow (w.heap.size + 1 + 1) (ccells (N : Int) k (rnB N zs bs)).toArray).putObj D (.deferred none)) := R.out.2.2.2.grown (grownBy_putObj' _ D (.deferred none)) R.out.2.2.2.size (fun k e => by cases e; omega)
        exact ⟨_, results_row_tmp rfl _ _ (w.heap.size + 1 + 1) 28 _ _ rfl hr Try.underlying28 rfl HS1.out, by rw [H.out]; rfl, hb2⟩
      case stop =>
        rintro D c pre W _ _ h _
        exact h.elim
end Go.Proofs.Ythcfcgknkheleaa
