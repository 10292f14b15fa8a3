/- SafeMoves: the program. -/
import Derived.Test.YteclbaalejondaaSfs
import Derived.Test.YteclbaalejondaaHld
namespace Go.Proofs.Yteclbaalejondaa
set_option linter.unusedVariables false
set_option linter.unusedSimpArgs false
open Go Go.RowKit Go.Shelf
set_option maxRecDepth 100000 in
set_option maxHeartbeats 1000000 in
theorem impl23v (n : Int) (zs : List Int) (a : Option Addr) (cap : Nat) (w : World) (hs : SlI w a zs) (hl : zs.length ≤ 9223372036854775807) :
    Calls Try.prog 23 #[.int .i64 n, .slice a zs.length cap] w (LOut w (sfsL n zs) (gmCode n zs)) := by
  have HE := hidd (enter30 n zs a cap w hs hl)
  obtain ⟨V, hV, hVs, hV0, hV1, hV2⟩ := en_cells n zs
  rw [hV] at HE
  have HVS := hidd (And.intro hVs (And.intro hV0 hV1))
  have Hz := zero40
  by_cases h : gmCode n zs = 0
  · obtain ⟨N, rfl, hP⟩ := pos_of h
    have HM := hidd (fun tb cap w hT => moves37s N zs hP tb cap w hT)
    have hVp := hV2 h
    rw [Int.toNat_natCast] at hVp
    rw [hVp] at HM
    rw [sfs_0 h, h, Int.toNat_natCast]
    rw [h] at HE
    generalize mvL N zs (fsB N zs) = ms at *
    clear hV hVs hV0 hV1 hV2 hs h hP hVp
    go_enter Try.func23, Try.ntmps23
    go_wp2_with fail
    refine HE.out.mono ?_
    rintro e w1 ⟨rfl, hb1⟩
    have G3 := hidd (show Blk (w1.alloc (.cells (psC 0 0 0) 40)) w1.heap.size (psC 0 0 0) 40 from Blk.new _ _ _ _ rfl)
    have G4 := hidd (show Below w.heap.size w ((w1.alloc (.cells (psC 0 0 0) 40)).setRow w1.heap.size V) from below_setRow (hb1.alloc hb1.size _) hb1.size _)
    have G5 := hidd (G3.out.rowSame V)
    have hs1 := hb1.size
    clear hb1
    go_wp2_with (first
      | (refine wpList_store_row rfl 40 (.tmp 6) (.tmp 12) rfl w1.heap.size V rfl rfl 40 _ G3.out HVS.out.1 HVS.out.2.1 HVS.out.2.2 ?_)
      | (refine wpList_load_row rfl 40 (.tmp 6) rfl w1.heap.size rfl 40 _ (0,0) _ G5.out Try.underlying40 rfl HVS.out.1 ?_))
    refine (HM.out _ _ _ (Blk.new _ _ _ _ (by simp))).mono ?_
    rintro e w3 ⟨a3, c3, rfl, ho, hb3⟩
    have G6 := hidd (And.intro (ho.bas (show w.heap.size ≤ _ by simp; omega)) ((G4.out.alloc (by simp; omega) (.cells tst2 47)).trans (hb3.mono (by simp; omega))))
    clear ho hb3
    go_wp2_with fail
    go_ret2
    exact ⟨a3, c3, rfl, G6.out.1, G6.out.2⟩
  · rw [sfs_no h]
    generalize gmCode n zs = c at *
    have hne : (c != 0) = true := by rw [bne_iff_ne]; exact h
    clear hV hVs hV0 hV1 hV2 hs h
    go_enter Try.func23, Try.ntmps23
    go_wp2_with fail
    refine HE.out.mono ?_
    rintro e w1 ⟨rfl, hb1⟩
    have G3 := hidd (show Blk (w1.alloc (.cells (psC 0 0 0) 40)) w1.heap.size (psC 0 0 0) 40 from Blk.new _ _ _ _ rfl)
    have G4 := hidd (show Below w.heap.size w ((w1.alloc (.cells (psC 0 0 0) 40)).setRow w1.heap.size V) from below_setRow (hb1.alloc hb1.size _) hb1.size _)
    clear hb1
    go_wp2_with (refine wpList_store_row rfl 40 (.tmp 6) (.tmp 12) rfl w1.heap.size V rfl rfl 40 _ G3.out HVS.out.1 HVS.out.2.1 HVS.out.2.2 ?_)
    go_ret2
    exact lout_nil rfl G4.out
end Go.Proofs.Yteclbaalejondaa
