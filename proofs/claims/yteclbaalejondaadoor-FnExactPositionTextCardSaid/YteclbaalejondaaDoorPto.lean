/- PositionText: the program and its model. -/
import Derived.Test.YteclbaalejondaaDoorPtx
namespace Go.Proofs.YteclbaalejondaaDoor
set_option linter.unusedVariables false
set_option linter.unusedSimpArgs false
open Go Go.RowKit
theorem gm_inv {n : Int} {zs : List Int} (h : gmCode n zs = 0) : lstB n zs = true ∧ posB n.toNat zs = true := by
  unfold gmCode at h
  split at h
  · rename_i h1
    split at h
    · rename_i h2; exact ⟨h1, h2⟩
    · omega
  · omega
set_option maxRecDepth 100000 in
set_option maxHeartbeats 1000000 in
theorem spec4p (n : Int) (zs : List Int) (a : Option Addr) (cap : Nat) (w : World) (hs : SlI w a zs) (hl : zs.length ≤ 9223372036854775807) :
    Calls Tryd.prog 4 #[.int .i64 n, .slice a zs.length cap] w fun e w' => e = .returned (.tuple #[.string (ptV n zs), .int .i64 (gmCode n zs)]) ∧ Below w.heap.size w w' := by
  have HC := hidd (code31 n zs a cap w hs hl)
  by_cases h : gmCode n zs = 0
  · have hq := (gm_inv h).1
    obtain ⟨g1, g2, g3, g4⟩ := lst_get hq
    clear g3
    have hl10 : zs.length ≤ 10 := by obtain ⟨N, _, _, _, _, h10⟩ := lst_len hq; exact h10
    have HM := hidd (text9 n zs g1 g2 hl10 g4 a cap w hs)
    rw [pt_0 h, h]
    rw [h] at HC
    generalize strOfNums (txK n zs zs.length) = S at *
    clear h hq hs
    go_enter Tryd.func4, Tryd.ntmps4
    go_wp2_with fail
    refine HC.out.mono ?_
    rintro e w' ⟨rfl, rfl⟩
    go_wp2_with fail
    refine HM.out.mono ?_
    rintro e w2 ⟨rfl, hb2⟩
    have HB := hidd hb2
    clear hb2
    go_wp2_with fail
    go_ret2
    exact ⟨rfl, HB.out⟩
  · rw [pt_no h]
    generalize gmCode n zs = c at *
    have hne : (c != 0) = true := by rw [bne_iff_ne]; exact h
    clear h hs
    go_enter Tryd.func4, Tryd.ntmps4
    go_wp2_with fail
    refine HC.out.mono ?_
    rintro e w' ⟨rfl, rfl⟩
    go_wp2_with fail
    go_ret2
    exact ⟨rfl, Below.refl _ _⟩
theorem en_cells (n : Int) (zs : List Int) : ∃ V : Array Value, enV n zs = .agg V ∧ (Tryd.prog.info? 34).map (·.size) = some V.size ∧ (psC 0 0 0).size = V.size ∧ V.all (·.oneCell') = true := by
  by_cases h : gmCode n zs = 0
  · exact ⟨psZ n.toNat zs, en_0 h, size40, rfl, one_ps _ _ _⟩
  · exact ⟨psC 0 0 0, if_neg h, size40, rfl, one_ps _ _ _⟩
set_option maxRecDepth 100000 in
set_option maxHeartbeats 1000000 in
theorem impl6p (n : Int) (zs : List Int) (a : Option Addr) (cap : Nat) (w : World) (hs : SlI w a zs) (hl : zs.length ≤ 9223372036854775807) :
    Calls Tryd.prog 6 #[.int .i64 n, .slice a zs.length cap] w fun e w' => e = .returned (.tuple #[.string (ptV n zs), .int .i64 (gmCode n zs)]) ∧ Below w.heap.size w w' := by
  have HE := hidd (enter30 n zs a cap w hs hl)
  have HS := hidd hs
  obtain ⟨V, hV, hVs, hV0, hV1⟩ := en_cells n zs
  rw [hV] at HE
  have HVS := hidd (And.intro hVs (And.intro hV0 hV1))
  have Hz := zero40
  by_cases h : gmCode n zs = 0
  · have hq := (gm_inv h).1
    obtain ⟨g1, g2, g3, g4⟩ := lst_get hq
    clear g3
    have hl10 : zs.length ≤ 10 := by obtain ⟨N, _, _, _, _, h10⟩ := lst_len hq; exact h10
    have HM := hidd (fun w hs => ptext11 n zs g1 g2 hl10 g4 a cap w hs)
    rw [pt_0 h, h]
    rw [h] at HE
    generalize strOfNums (txK n zs zs.length) = S at *
    clear h hq hs hV hVs hV0 hV1
    go_enter Tryd.func6, Tryd.ntmps6
    go_wp2_with fail
    refine HE.out.mono ?_
    rintro e w1 ⟨rfl, hb1⟩
    have G3 := hidd (show Blk (w1.alloc (.cells (psC 0 0 0) 34)) w1.heap.size (psC 0 0 0) 34 from Blk.new _ _ _ _ rfl)
    have G4 := hidd (show Below w.heap.size w ((w1.alloc (.cells (psC 0 0 0) 34)).setRow w1.heap.size V) from below_setRow (hb1.alloc hb1.size _) hb1.size _)
    clear hb1
    go_wp2_with (refine wpList_store_row rfl 34 (.tmp 6) (.tmp 12) rfl w1.heap.size V rfl rfl 34 _ G3.out HVS.out.1 HVS.out.2.1 HVS.out.2.2 ?_)
    refine (HM.out _ (HS.out.below G4.out (Nat.le_refl _))).mono ?_
    rintro e w2 ⟨rfl, hb2⟩
    have G6 := hidd (G4.out.trans (hb2.mono G4.out.size))
    clear hb2
    go_wp2_with fail
    go_ret2
    exact ⟨rfl, G6.out⟩
  · rw [pt_no h]
    generalize gmCode n zs = c at *
    have hne : (c != 0) = true := by rw [bne_iff_ne]; exact h
    clear hV hVs hV0 hV1 hs h
    go_enter Tryd.func6, Tryd.ntmps6
    go_wp2_with fail
    refine HE.out.mono ?_
    rintro e w1 ⟨rfl, hb1⟩
    have G3 := hidd (show Blk (w1.alloc (.cells (psC 0 0 0) 34)) w1.heap.size (psC 0 0 0) 34 from Blk.new _ _ _ _ rfl)
    have G4 := hidd (show Below w.heap.size w ((w1.alloc (.cells (psC 0 0 0) 34)).setRow w1.heap.size V) from below_setRow (hb1.alloc hb1.size _) hb1.size _)
    clear hb1
    go_wp2_with (refine wpList_store_row rfl 34 (.tmp 6) (.tmp 12) rfl w1.heap.size V rfl rfl 34 _ G3.out HVS.out.1 HVS.out.2.1 HVS.out.2.2 ?_)
    go_ret2
    exact ⟨rfl, G4.out⟩
end Go.Proofs.YteclbaalejondaaDoor
