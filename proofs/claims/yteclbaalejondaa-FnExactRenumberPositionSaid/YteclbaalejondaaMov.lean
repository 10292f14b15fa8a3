/- MoverOf: the program and its model. -/
import Derived.Test.YteclbaalejondaaIsG
namespace Go.Proofs.Yteclbaalejondaa
set_option linter.unusedVariables false
set_option linter.unusedSimpArgs false
open Go Go.RowKit
theorem gm_inv {n : Int} {zs : List Int} (h : gmCode n zs = 0) : lstB n zs = true ∧ posB n.toNat zs = true := by
  unfold gmCode at h
  split at h
  · rename_i h1
    split at h
    · rename_i h2; exact ⟨h1, h2⟩
    · omega
  · omega
def mvV (n : Int) (zs : List Int) : Int := if gmCode n zs = 0 then mvr zs else 0
theorem mv_0 {n : Int} {zs : List Int} (h : gmCode n zs = 0) : mvV n zs = mvr zs := if_pos h
theorem mv_no {n : Int} {zs : List Int} (h : ¬ gmCode n zs = 0) : mvV n zs = 0 := if_neg h
set_option maxRecDepth 100000 in
set_option maxHeartbeats 1000000 in
theorem spec14m (n : Int) (zs : List Int) (a : Option Addr) (cap : Nat) (w : World) (hs : SlI w a zs) (hl : zs.length ≤ 9223372036854775807) :
    Calls Try.prog 14 #[.int .i64 n, .slice a zs.length cap] w fun e w' => e = .returned (.tuple #[.int .i64 (mvV n zs), .int .i64 (gmCode n zs)]) ∧ Below w.heap.size w w' := by
  have HC := hidd (code31 n zs a cap w hs hl)
  by_cases h : gmCode n zs = 0
  · obtain ⟨N, rfl, n1, n5, hlen, hl10⟩ := lst_len (gm_inv h).1
    have HM := hidd (mover32 zs a cap w hs hl10)
    rw [mv_0 h, h]
    rw [h] at HC
    clear h hlen
    go_enter Try.func14, Try.ntmps14
    go_wp2_with fail
    refine HC.out.mono ?_
    rintro e w' ⟨rfl, rfl⟩
    go_wp2_with fail
    refine HM.out.mono ?_
    rintro e w' ⟨rfl, rfl⟩
    go_wp2_with fail
    go_ret2
    exact ⟨rfl, Below.refl _ _⟩
  · rw [mv_no h]
    generalize gmCode n zs = c at *
    have hne : (c != 0) = true := by rw [bne_iff_ne]; exact h
    clear h
    go_enter Try.func14, Try.ntmps14
    go_wp2_with fail
    refine HC.out.mono ?_
    rintro e w' ⟨rfl, rfl⟩
    go_wp2_with fail
    go_ret2
    exact ⟨rfl, Below.refl _ _⟩
/-- What enterGame hands on, as cells. -/
theorem en_cells (n : Int) (zs : List Int) : ∃ V : Array Value, enV n zs = .agg V ∧ (Try.prog.info? 40).map (·.size) = some V.size ∧ (psC 0 0 0).size = V.size ∧ V.all (·.oneCell') = true ∧ (gmCode n zs = 0 → psL n.toNat zs = .agg V) := by
  by_cases h : gmCode n zs = 0
  · exact ⟨psZ n.toNat zs, en_0 h, size40, rfl, one_ps _ _ _, fun _ => rfl⟩
  · exact ⟨psC 0 0 0, if_neg h, size40, rfl, one_ps _ _ _, fun h2 => absurd h2 h⟩
set_option maxRecDepth 100000 in
set_option maxHeartbeats 1000000 in
theorem impl15m (n : Int) (zs : List Int) (a : Option Addr) (cap : Nat) (w : World) (hs : SlI w a zs) (hl : zs.length ≤ 9223372036854775807) :
    Calls Try.prog 15 #[.int .i64 n, .slice a zs.length cap] w fun e w' => e = .returned (.tuple #[.int .i64 (mvV n zs), .int .i64 (gmCode n zs)]) ∧ Below w.heap.size w w' := by
  have HE := hidd (enter30 n zs a cap w hs hl)
  obtain ⟨V, hV, hVs, hV0, hV1, hV2⟩ := en_cells n zs
  rw [hV] at HE
  have HVS := hidd (And.intro hVs (And.intro hV0 hV1))
  have Hz := zero40
  by_cases h : gmCode n zs = 0
  · obtain ⟨N, rfl, n1, n5, hlen, hl10⟩ := lst_len (gm_inv h).1
    have HM := hidd (fun w => mov33 N zs hl10 w)
    have hVp := hV2 h
    rw [Int.toNat_natCast] at hVp
    rw [hVp] at HM
    rw [mv_0 h, h]
    rw [h] at HE
    generalize mvr zs = m at *
    clear hV hVs hV0 hV1 hV2 hs h hlen hVp
    go_enter Try.func15, Try.ntmps15
    go_wp2_with fail
    refine HE.out.mono ?_
    rintro e w1 ⟨rfl, hb1⟩
    have G3 := hidd (show Blk (w1.alloc (.cells (psC 0 0 0) 40)) w1.heap.size (psC 0 0 0) 40 from Blk.new _ _ _ _ rfl)
    have G4 := hidd (show Below w.heap.size w ((w1.alloc (.cells (psC 0 0 0) 40)).setRow w1.heap.size V) from below_setRow (hb1.alloc hb1.size _) hb1.size _)
    have G5 := hidd (G3.out.rowSame V)
    clear hb1
    go_wp2_with (first
      | (refine wpList_store_row rfl 40 (.tmp 6) (.tmp 12) rfl w1.heap.size V rfl rfl 40 _ G3.out HVS.out.1 HVS.out.2.1 HVS.out.2.2 ?_)
      | (refine wpList_load_row rfl 40 (.tmp 6) rfl w1.heap.size rfl 40 _ (0,0) _ G5.out Try.underlying40 rfl HVS.out.1 ?_))
    refine (HM.out _).mono ?_
    rintro e w2 ⟨rfl, hb2⟩
    have G6 := hidd (G4.out.trans (hb2.mono G4.out.size))
    clear hb2
    go_wp2_with fail
    go_ret2
    exact ⟨rfl, G6.out⟩
  · rw [mv_no h]
    generalize gmCode n zs = c at *
    have hne : (c != 0) = true := by rw [bne_iff_ne]; exact h
    clear hV hVs hV0 hV1 hV2 hs h
    go_enter Try.func15, Try.ntmps15
    go_wp2_with fail
    refine HE.out.mono ?_
    rintro e w1 ⟨rfl, hb1⟩
    have G3 := hidd (show Blk (w1.alloc (.cells (psC 0 0 0) 40)) w1.heap.size (psC 0 0 0) 40 from Blk.new _ _ _ _ rfl)
    have G4 := hidd (show Below w.heap.size w ((w1.alloc (.cells (psC 0 0 0) 40)).setRow w1.heap.size V) from below_setRow (hb1.alloc hb1.size _) hb1.size _)
    clear hb1
    go_wp2_with (refine wpList_store_row rfl 40 (.tmp 6) (.tmp 12) rfl w1.heap.size V rfl rfl 40 _ G3.out HVS.out.1 HVS.out.2.1 HVS.out.2.2 ?_)
    go_ret2
    exact ⟨rfl, G4.out⟩
end Go.Proofs.Yteclbaalejondaa
