/- enterGame: the program's reading and test of a position. -/
import Derived.Test.YtidengcihakijaaIsp
namespace Go.Proofs.Ytidengcihakijaa
set_option linter.unusedVariables false
set_option linter.unusedSimpArgs false
open Go Go.RowKit
def enV (n : Int) (zs : List Int) : Value := if gmCode n zs = 0 then psL n.toNat zs else psV 0 0 0
theorem en_0 {n : Int} {zs : List Int} (h : gmCode n zs = 0) : enV n zs = psL n.toNat zs := if_pos h
theorem en_no {n : Int} {zs : List Int} {c : Int} (h : gmCode n zs = c) (hc : c ≠ 0) : enV n zs = psV 0 0 0 := if_neg (by rw [h]; exact hc)
theorem ret_V {fn : Func} {p u : Tmp} (h : fn.results = #[.cell p 44, .tmp u]) {tmps : Array Value} {w : World} {R : Ending → World → Prop} {g : Nat} {V : Array Value} {d : List Deferred}
    (hVs : (Try.prog.info? 44).map (·.size) = some V.size)
    (hp : tmps.getD p undef = .pointer (some ⟨g, 0, none⟩)) (hg : Blk w g V 44) (hd : d = []) {v : Value} (hv : v = .tuple #[.agg V, tmps.getD u undef]) (hR : R (.returned v) w) :
    bodyPost Try.prog fn R .ret ⟨tmps, d⟩ w := by
  subst hv
  exact bodyPost_ret (results_row_tmp h tmps w g 44 _ _ hp hg Try.underlying44 rfl hVs) hd hR
set_option maxRecDepth 100000 in
set_option maxHeartbeats 2000000 in
theorem enter30 (n : Int) (zs : List Int) (a : Option Addr) (cap : Nat) (w : World) (hs : SlI w a zs) (hl : zs.length ≤ 9223372036854775807) :
    Calls Try.prog 18 #[.int .i64 n, .slice a zs.length cap] w fun e w' => e = .returned (.tuple #[enV n zs, .int .i64 (gmCode n zs)]) ∧ Below w.heap.size w w' := by
  have Hz := zero40
  have hb0 : Below w.heap.size w (w.alloc (.cells (psC 0 0 0) 44)) := (Below.refl _ _).alloc (Nat.le_refl _) _
  have HB0 := hidd (And.intro (Blk.new w (psC 0 0 0) 44 _ rfl) hb0)
  have HRD := hidd (read52 n zs a cap _ (hs.below hb0 (Nat.le_refl _)) hl)
  clear hb0 hs
  cases q : lstB n zs with
  | false =>
    have HG := hidd (gm_2 q)
    rw [rd_no q, q] at HRD
    clear q
    go_enter Try.func18, Try.ntmps18
    go_wp2_with fail
    refine HRD.out.mono ?_
    rintro e w1 ⟨rfl, hb1⟩
    have hz : (w.alloc (Obj.cells (psC 0 0 0) 44)).heap.size = w.heap.size + 1 := by simp
    have g1 : Blk w1 w.heap.size (psC 0 0 0) 44 := HB0.out.1.below hb1 (by simp)
    have g2 : Below w.heap.size w w1 := HB0.out.2.trans (hb1.mono (by simp))
    have g3 := g1.lt
    rw [psV_eq]
    have G1 := hidd (show Blk ((w1.alloc (.cells (psC 0 0 0) 44)).setRow w1.heap.size (psC 0 0 0)) w.heap.size (psC 0 0 0) 44 from (g1.alloc _).rowOther _ _ (by omega))
    have G3 := hidd (show Blk (w1.alloc (.cells (psC 0 0 0) 44)) w1.heap.size (psC 0 0 0) 44 from Blk.new _ _ _ _ rfl)
    have G4 := hidd (And.intro (G1.out.rowSame (psC 0 0 0)) (show Below w.heap.size w (((w1.alloc (.cells (psC 0 0 0) 44)).setRow w1.heap.size (psC 0 0 0)).setRow w.heap.size (psC 0 0 0)) from
      below_setRow (below_setRow (g2.alloc g2.size _) (by omega) _) (Nat.le_refl _) _))
    clear hb1 hz g1 g2
    go_wp2_with (first
      | (refine wpList_store_row rfl 44 (.tmp 6) (.tmp 12) rfl w1.heap.size (psC 0 0 0) rfl rfl 44 _ G3.out size40 rfl (one_ps _ _ _) ?_)
      | (refine wpList_store_row rfl 44 (.tmp 4) (.tmp 16) rfl w.heap.size (psC 0 0 0) rfl rfl 44 _ G1.out size40 rfl (one_ps _ _ _) ?_))
    refine ret_V (V := psC 0 0 0) rfl size40 rfl G4.out.1 rfl rfl ⟨?_, G4.out.2⟩
    rw [HG.out, en_no HG.out (by decide)]; rfl
  | true =>
    rw [rd_ok q, q] at HRD
    obtain ⟨N, rfl, n1, n5, hlen, hl10⟩ := lst_len q
    obtain ⟨V, hV⟩ : ∃ V, V = psZ N zs := ⟨_, rfl⟩
    have hVp : psV (N : Int) (tkn 0 zs zs.length) (tkn 1 zs zs.length) = .agg V := by rw [hV]; rfl
    have HVL := hidd (show psL N zs = .agg V by rw [hV]; rfl)
    have HVS := hidd (show (Try.prog.info? 44).map (·.size) = some V.size by rw [hV]; exact size40)
    have HV1 := hidd (show V.all (·.oneCell') = true by rw [hV]; exact one_ps _ _ _)
    have HV0 := hidd (show (psC 0 0 0).size = V.size by rw [hV]; rfl)
    have HI := hidd (fun w => isp53 zs N n1 n5 hlen w)
    rw [hVp] at HRD
    rw [HVL.out] at HI
    cases p : posB N zs with
    | false =>
      have HG := hidd (gm_1 q p)
      rw [p] at HI
      clear q p hlen hV hVp
      go_enter Try.func18, Try.ntmps18
      go_wp2_with fail
      refine HRD.out.mono ?_
      rintro e w1 ⟨rfl, hb1⟩
      have g1 : Blk w1 w.heap.size (psC 0 0 0) 44 := HB0.out.1.below hb1 (by simp)
      have g2 : Below w.heap.size w w1 := HB0.out.2.trans (hb1.mono (by simp))
      have g3 := g1.lt
      have G1 := hidd (show Blk ((w1.alloc (.cells (psC 0 0 0) 44)).setRow w1.heap.size V) w.heap.size (psC 0 0 0) 44 from (g1.alloc _).rowOther _ _ (by omega))
      have G3 := hidd (show Blk (w1.alloc (.cells (psC 0 0 0) 44)) w1.heap.size (psC 0 0 0) 44 from Blk.new _ _ _ _ rfl)
      have G5 := hidd (show Blk ((w1.alloc (.cells (psC 0 0 0) 44)).setRow w1.heap.size V) w1.heap.size V 44 from G3.out.rowSame _)
      have G4 := hidd (show Below w.heap.size w ((w1.alloc (.cells (psC 0 0 0) 44)).setRow w1.heap.size V) from below_setRow (g2.alloc g2.size _) (by omega) _)
      clear hb1 g1 g2
      go_wp2_with (first
        | (refine wpList_store_row rfl 44 (.tmp 6) (.tmp 12) rfl w1.heap.size V rfl rfl 44 _ G3.out HVS.out HV0.out HV1.out ?_)
        | (refine wpList_load_row rfl 44 (.tmp 6) rfl w1.heap.size rfl 44 _ (0,0) _ G5.out Try.underlying44 rfl HVS.out ?_))
      refine (HI.out _).mono ?_
      rintro e w2 ⟨rfl, hb2⟩
      have g6 : Blk w2 w.heap.size (psC 0 0 0) 44 := G1.out.below hb2 G1.out.lt
      have g7 : Below w.heap.size w w2 := G4.out.trans (hb2.mono G4.out.size)
      have G6 := hidd g6
      have G7 := hidd (And.intro (g6.rowSame (psC 0 0 0)) (below_setRow g7 (g := w.heap.size) (Nat.le_refl _) (psC 0 0 0)))
      clear hb2 g6 g7
      go_wp2_with (refine wpList_store_row rfl 44 (.tmp 4) (.tmp 20) rfl w.heap.size (psC 0 0 0) rfl rfl 44 _ G6.out size40 rfl (one_ps _ _ _) ?_)
      refine ret_V (V := psC 0 0 0) rfl size40 rfl G7.out.1 rfl rfl ⟨?_, G7.out.2⟩
      rw [HG.out, en_no HG.out (by decide)]; rfl
    | true =>
      have HG := hidd (gm_0 q p)
      rw [p] at HI
      clear q p hlen hV hVp
      go_enter Try.func18, Try.ntmps18
      go_wp2_with fail
      refine HRD.out.mono ?_
      rintro e w1 ⟨rfl, hb1⟩
      have g1 : Blk w1 w.heap.size (psC 0 0 0) 44 := HB0.out.1.below hb1 (by simp)
      have g2 : Below w.heap.size w w1 := HB0.out.2.trans (hb1.mono (by simp))
      have g3 := g1.lt
      have G1 := hidd (show Blk ((w1.alloc (.cells (psC 0 0 0) 44)).setRow w1.heap.size V) w.heap.size (psC 0 0 0) 44 from (g1.alloc _).rowOther _ _ (by omega))
      have G3 := hidd (show Blk (w1.alloc (.cells (psC 0 0 0) 44)) w1.heap.size (psC 0 0 0) 44 from Blk.new _ _ _ _ rfl)
      have G5 := hidd (show Blk ((w1.alloc (.cells (psC 0 0 0) 44)).setRow w1.heap.size V) w1.heap.size V 44 from G3.out.rowSame _)
      have G4 := hidd (show Below w.heap.size w ((w1.alloc (.cells (psC 0 0 0) 44)).setRow w1.heap.size V) from below_setRow (g2.alloc g2.size _) (by omega) _)
      clear hb1 g1 g2
      go_wp2_with (first
        | (refine wpList_store_row rfl 44 (.tmp 6) (.tmp 12) rfl w1.heap.size V rfl rfl 44 _ G3.out HVS.out HV0.out HV1.out ?_)
        | (refine wpList_load_row rfl 44 (.tmp 6) rfl w1.heap.size rfl 44 _ (0,0) _ G5.out Try.underlying44 rfl HVS.out ?_))
      refine (HI.out _).mono ?_
      rintro e w2 ⟨rfl, hb2⟩
      have g6 : Blk w2 w.heap.size (psC 0 0 0) 44 := G1.out.below hb2 G1.out.lt
      have g7 : Below w.heap.size w w2 := G4.out.trans (hb2.mono G4.out.size)
      have G6 := hidd g6
      have G8 := hidd (G5.out.below hb2 G5.out.lt)
      have G7 := hidd (And.intro (g6.rowSame V) (below_setRow g7 (g := w.heap.size) (Nat.le_refl _) V))
      clear hb2 g6 g7
      go_wp2_with (first
        | (refine wpList_load_row rfl 44 (.tmp 6) rfl w1.heap.size rfl 44 _ (0,0) _ G8.out Try.underlying44 rfl HVS.out ?_)
        | (refine wpList_store_row rfl 44 (.tmp 4) (.tmp 21) rfl w.heap.size V rfl rfl 44 _ G6.out HVS.out HV0.out HV1.out ?_))
      refine ret_V rfl HVS.out rfl G7.out.1 rfl rfl ⟨?_, G7.out.2⟩
      rw [HG.out, en_0 HG.out, Int.toNat_natCast, HVL.out]; rfl
end Go.Proofs.Ytidengcihakijaa
