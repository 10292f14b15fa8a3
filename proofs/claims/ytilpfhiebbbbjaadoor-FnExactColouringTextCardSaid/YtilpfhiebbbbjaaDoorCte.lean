/- ColouringText: the program and its model. -/
import Derived.Test.YtilpfhiebbbbjaaDoorTxt
import Derived.Test.YtilpfhiebbbbjaaDoorTex
namespace Go.Proofs.YtilpfhiebbbbjaaDoor
set_option linter.unusedVariables false
set_option linter.unusedSimpArgs false
open Go Go.RowKit
theorem ce_0 {n k : Int} {bs : List Nat} (h : isCol n k bs = true) : ceCode n k bs = 0 := by simp [ceCode, h]
theorem ce_1 {n k : Int} {bs : List Nat} (h : isCol n k bs = false) : ceCode n k bs = 1 := by simp [ceCode, h]
theorem col_nat {n k : Int} {bs : List Nat} (h : isCol n k bs = true) : ((n.toNat : Nat) : Int) = n := by have := isCol_bd h; omega
set_option maxRecDepth 100000 in
set_option maxHeartbeats 1000000 in
theorem spec4c (n k : Int) (bs : List Nat) (hb : Bys bs) (w : World) :
    Calls Tryd.prog 4 #[.agg (ccells n k bs).toArray] w fun e w' => e = .returned (.tuple #[.string (ctV n k bs), .int .i64 (ceCode n k bs)]) ∧ Below w.heap.size w w' := by
  have HSZ := hidd (size_c26 n k hb)
  have H3 := hidd (show Blk (w.alloc (.cells (ccells n k bs).toArray 27)) w.heap.size (ccells n k bs).toArray 27 ∧ Below w.heap.size w (w.alloc (.cells (ccells n k bs).toArray 27)) from ⟨Blk.new _ _ _ _ rfl, (Below.refl _ _).alloc (Nat.le_refl _) _⟩)
  have HI := hidd (fun W => l01Is_any n k bs hb W)
  cases h : isCol n k bs with
  | true =>
    have HM := hidd (fun W => text8 n.toNat k bs hb W (by rw [col_nat h]; exact h))
    rw [col_nat h] at HM
    rw [h] at HI
    rw [ct_0 h, ce_0 h]
    generalize strOfNums (txF n k bs (eseq n.toNat)) = S at *
    clear h
    go_enter Tryd.func4, Tryd.ntmps4
    go_wp2_with (refine wpList_load_row rfl 27 (.tmp 1) rfl w.heap.size rfl 27 _ (0,0) _ H3.out.1 Tryd.underlying27 rfl HSZ.out ?_)
    refine (HI.out _).mono ?_
    rintro e w1 ⟨rfl, hb1⟩
    have G1 := hidd (And.intro (H3.out.1.below hb1 H3.out.1.lt) (H3.out.2.trans (hb1.mono H3.out.2.size)))
    clear hb1
    go_wp2_with (refine wpList_load_row rfl 27 (.tmp 1) rfl w.heap.size rfl 27 _ (0,0) _ G1.out.1 Tryd.underlying27 rfl HSZ.out ?_)
    refine (HM.out _).mono ?_
    rintro e w2 ⟨rfl, hb2⟩
    have G2 := hidd (G1.out.2.trans (hb2.mono G1.out.2.size))
    clear hb2
    go_wp2_with fail
    go_ret2
    exact ⟨rfl, G2.out⟩
  | false =>
    rw [h] at HI
    rw [ct_no h, ce_1 h]
    clear h
    go_enter Tryd.func4, Tryd.ntmps4
    go_wp2_with (refine wpList_load_row rfl 27 (.tmp 1) rfl w.heap.size rfl 27 _ (0,0) _ H3.out.1 Tryd.underlying27 rfl HSZ.out ?_)
    refine (HI.out _).mono ?_
    rintro e w1 ⟨rfl, hb1⟩
    have G1 := hidd (H3.out.2.trans (hb1.mono H3.out.2.size))
    clear hb1
    go_wp2_with fail
    go_ret2
    exact ⟨rfl, G1.out⟩
set_option maxRecDepth 100000 in
set_option maxHeartbeats 1000000 in
theorem impl6c (n k : Int) (bs : List Nat) (hb : Bys bs) (w : World) :
    Calls Tryd.prog 6 #[.agg (ccells n k bs).toArray] w fun e w' => e = .returned (.tuple #[.string (ctV n k bs), .int .i64 (ceCode n k bs)]) ∧ Below w.heap.size w w' := by
  have HSZ := hidd (size_c26 n k hb)
  have H3 := hidd (show Blk (w.alloc (.cells (ccells n k bs).toArray 27)) w.heap.size (ccells n k bs).toArray 27 ∧ Below w.heap.size w (w.alloc (.cells (ccells n k bs).toArray 27)) from ⟨Blk.new _ _ _ _ rfl, (Below.refl _ _).alloc (Nat.le_refl _) _⟩)
  have HI := hidd (fun W => implIs_any n k bs hb W)
  cases h : isCol n k bs with
  | true =>
    have HM := hidd (fun W => tof11 n.toNat k bs hb W (by rw [col_nat h]; exact h))
    rw [col_nat h] at HM
    rw [h] at HI
    rw [ct_0 h, ce_0 h]
    generalize strOfNums (txF n k bs (eseq n.toNat)) = S at *
    clear h
    go_enter Tryd.func6, Tryd.ntmps6
    go_wp2_with (refine wpList_load_row rfl 27 (.tmp 1) rfl w.heap.size rfl 27 _ (0,0) _ H3.out.1 Tryd.underlying27 rfl HSZ.out ?_)
    refine (HI.out _).mono ?_
    rintro e w1 ⟨rfl, hb1⟩
    have G1 := hidd (And.intro (H3.out.1.below hb1 H3.out.1.lt) (H3.out.2.trans (hb1.mono H3.out.2.size)))
    clear hb1
    go_wp2_with (refine wpList_load_row rfl 27 (.tmp 1) rfl w.heap.size rfl 27 _ (0,0) _ G1.out.1 Tryd.underlying27 rfl HSZ.out ?_)
    refine (HM.out _).mono ?_
    rintro e w2 ⟨rfl, hb2⟩
    have G2 := hidd (G1.out.2.trans (hb2.mono G1.out.2.size))
    clear hb2
    go_wp2_with fail
    go_ret2
    exact ⟨rfl, G2.out⟩
  | false =>
    rw [h] at HI
    rw [ct_no h, ce_1 h]
    clear h
    go_enter Tryd.func6, Tryd.ntmps6
    go_wp2_with (refine wpList_load_row rfl 27 (.tmp 1) rfl w.heap.size rfl 27 _ (0,0) _ H3.out.1 Tryd.underlying27 rfl HSZ.out ?_)
    refine (HI.out _).mono ?_
    rintro e w1 ⟨rfl, hb1⟩
    have G1 := hidd (H3.out.2.trans (hb1.mono H3.out.2.size))
    clear hb1
    go_wp2_with fail
    go_ret2
    exact ⟨rfl, G1.out⟩
end Go.Proofs.YtilpfhiebbbbjaaDoor
