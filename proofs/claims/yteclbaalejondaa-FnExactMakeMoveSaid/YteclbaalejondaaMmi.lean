/- MakeMove: the program. -/
import Derived.Test.YteclbaalejondaaMmv
namespace Go.Proofs.Yteclbaalejondaa
set_option linter.unusedVariables false
set_option linter.unusedSimpArgs false
open Go Go.RowKit Go.Shelf
set_option maxRecDepth 100000 in
set_option maxHeartbeats 2000000 in
theorem impl25v (n : Int) (zs : List Int) (e : Int) (a : Option Addr) (cap : Nat) (w : World) (hs : SlI w a zs) (hl : zs.length ≤ 9223372036854775807) :
    Calls Try.prog 25 #[.int .i64 n, .slice a zs.length cap, .int .i64 e] w (LOut w (mmL n zs e) (mmCode n zs e)) := by
  have HE := hidd (enter30 n zs a cap w hs hl)
  obtain ⟨V, hV, hVs, hV0, hV1, hV2⟩ := en_cells n zs
  rw [hV] at HE
  have HVS := hidd (And.intro hVs (And.intro hV0 hV1))
  have Hz := zero40
  clear hV hVs hV0 hV1 hs
  cases q : lstB n zs with
  | false =>
    have hc := mm_2 (n := n) (zs := zs) (e := e) (by rw [q]; simp)
    rw [mmL_no hc (by decide), hc]
    rw [gm_2 q] at HE
    clear hc q hV2
    go_enter Try.func25, Try.ntmps25
    go_wp2_with fail
    refine HE.out.mono ?_
    rintro x w1 ⟨rfl, hb1⟩
    have G3 := hidd (show Blk (w1.alloc (.cells (psC 0 0 0) 40)) w1.heap.size (psC 0 0 0) 40 from Blk.new _ _ _ _ rfl)
    have G4 := hidd (show Below w.heap.size w ((w1.alloc (.cells (psC 0 0 0) 40)).setRow w1.heap.size V) from below_setRow (hb1.alloc hb1.size _) hb1.size _)
    clear hb1
    go_wp2_with (refine wpList_store_row rfl 40 (.tmp 8) (.tmp 14) rfl w1.heap.size V rfl rfl 40 _ G3.out HVS.out.1 HVS.out.2.1 HVS.out.2.2 ?_)
    go_ret2
    exact lout_nil rfl G4.out
  | true =>
    obtain ⟨N, rfl, n1, n5, hlen, hl10⟩ := lst_len q
    have HL := hidd (show (zs.length : Int) = edg (N : Int) by rw [← eN_edg, hlen])
    have hne2 : gmCode (N : Int) zs ≠ 2 := by
      cases p : posB N zs with
      | false => rw [gm_1 q (by rw [Int.toNat_natCast]; exact p)]; decide
      | true => rw [gm_0 q (by rw [Int.toNat_natCast]; exact p)]; decide
    cases qe : inB e 0 ((zs.length : Int) - 1) with
    | false =>
      have hc := mm_2 (n := (N : Int)) (zs := zs) (e := e) (by rw [qe]; simp)
      rw [mmL_no hc (by decide), hc]
      have HBE := hidd (show belowB e (zs.length : Int) = false from qe)
      have hd2 : (gmCode (N : Int) zs == 2) = false := beq_eq_false_iff_ne.2 hne2
      generalize gmCode (N : Int) zs = c at *
      clear hc q qe hlen hV2 hne2
      go_enter Try.func25, Try.ntmps25
      go_wp2_with fail
      refine HE.out.mono ?_
      rintro x w1 ⟨rfl, hb1⟩
      have G3 := hidd (show Blk (w1.alloc (.cells (psC 0 0 0) 40)) w1.heap.size (psC 0 0 0) 40 from Blk.new _ _ _ _ rfl)
      have G4 := hidd (show Below w.heap.size w ((w1.alloc (.cells (psC 0 0 0) 40)).setRow w1.heap.size V) from below_setRow (hb1.alloc hb1.size _) hb1.size _)
      clear hb1
      go_wp2_with (first
        | (refine wpList_store_row rfl 40 (.tmp 8) (.tmp 14) rfl w1.heap.size V rfl rfl 40 _ G3.out HVS.out.1 HVS.out.2.1 HVS.out.2.2 ?_)
        | (go_at_call 44; refine (edge48 (N : Int) _ (by omega) (by omega)).mono ?_; rintro x w' ⟨rfl, rfl⟩; rw [← HL.out])
        | (go_at_call 43; refine (below61 _ _ _).mono ?_; rintro x w' ⟨rfl, rfl⟩; rw [HBE.out]))
      go_ret2
      exact lout_nil rfl G4.out
    | true =>
      have HBE := hidd (show belowB e (zs.length : Int) = true from qe)
      obtain ⟨e0, e1⟩ := inB_bd qe
      cases qp : posB N zs with
      | false =>
        have hc := mm_1 (e := e) q qe (by rw [Int.toNat_natCast]; exact qp)
        rw [mmL_no hc (by decide), hc]
        rw [gm_1 q (by rw [Int.toNat_natCast]; exact qp)] at HE
        clear hc q qe qp hlen hV2 hne2
        go_enter Try.func25, Try.ntmps25
        go_wp2_with fail
        refine HE.out.mono ?_
        rintro x w1 ⟨rfl, hb1⟩
        have G3 := hidd (show Blk (w1.alloc (.cells (psC 0 0 0) 40)) w1.heap.size (psC 0 0 0) 40 from Blk.new _ _ _ _ rfl)
        have G4 := hidd (show Below w.heap.size w ((w1.alloc (.cells (psC 0 0 0) 40)).setRow w1.heap.size V) from below_setRow (hb1.alloc hb1.size _) hb1.size _)
        clear hb1
        go_wp2_with (first
          | (refine wpList_store_row rfl 40 (.tmp 8) (.tmp 14) rfl w1.heap.size V rfl rfl 40 _ G3.out HVS.out.1 HVS.out.2.1 HVS.out.2.2 ?_)
          | (go_at_call 44; refine (edge48 (N : Int) _ (by omega) (by omega)).mono ?_; rintro x w' ⟨rfl, rfl⟩; rw [← HL.out])
          | (go_at_call 43; refine (below61 _ _ _).mono ?_; rintro x w' ⟨rfl, rfl⟩; rw [HBE.out]))
        go_ret2
        exact lout_nil rfl G4.out
      | true =>
        obtain ⟨E, rfl⟩ := Int.eq_ofNat_of_zero_le e0
        have hEl : E < zs.length := by omega
        have hg0 := gm_0 q (by rw [Int.toNat_natCast]; exact qp)
        obtain ⟨N', hN', hP⟩ := pos_of hg0
        obtain rfl : N = N' := by omega
        have hVp := hV2 hg0
        rw [Int.toNat_natCast] at hVp
        rw [hg0] at HE
        have HOV := hidd (fun w => over45 N zs hP w)
        have HFR := hidd (fun w => free38 N zs hP E hEl w)
        rw [hVp] at HOV HFR
        cases hb : (rsl N zs != -1) with
        | true =>
          have hc := mm_5 (e := (E : Int)) q qe (by rw [Int.toNat_natCast]; exact qp) (by rw [Int.toNat_natCast, Int.toNat_natCast]; unfold mmB; rw [hb]; rfl)
          rw [mmL_no hc (by decide), hc]
          rw [hb] at HOV
          clear hc q qe qp hlen hg0 hP hb hN' hV2 hne2 hVp
          go_enter Try.func25, Try.ntmps25
          go_wp2_with fail
          refine HE.out.mono ?_
          rintro x w1 ⟨rfl, hb1⟩
          have G3 := hidd (show Blk (w1.alloc (.cells (psC 0 0 0) 40)) w1.heap.size (psC 0 0 0) 40 from Blk.new _ _ _ _ rfl)
          have G4 := hidd (show Below w.heap.size w ((w1.alloc (.cells (psC 0 0 0) 40)).setRow w1.heap.size V) from below_setRow (hb1.alloc hb1.size _) hb1.size _)
          have G5 := hidd (G3.out.rowSame V)
          clear hb1
          go_wp2_with (first
            | (refine wpList_store_row rfl 40 (.tmp 8) (.tmp 14) rfl w1.heap.size V rfl rfl 40 _ G3.out HVS.out.1 HVS.out.2.1 HVS.out.2.2 ?_)
            | (refine wpList_load_row rfl 40 (.tmp 8) rfl w1.heap.size rfl 40 _ (0,0) _ G5.out Try.underlying40 rfl HVS.out.1 ?_)
            | (go_at_call 44; refine (edge48 (N : Int) _ (by omega) (by omega)).mono ?_; rintro x w' ⟨rfl, rfl⟩; rw [← HL.out])
            | (go_at_call 43; refine (below61 _ _ _).mono ?_; rintro x w' ⟨rfl, rfl⟩; rw [HBE.out]))
          refine (HOV.out _).mono ?_
          rintro x w2 ⟨rfl, hb2⟩
          have G6 := hidd (G4.out.trans (hb2.mono G4.out.size))
          clear hb2
          go_wp2_with fail
          go_ret2
          exact lout_nil rfl G6.out
        | false =>
          rw [hb] at HOV
          cases hf : frB zs E with
          | false =>
            have hc := mm_5 (e := (E : Int)) q qe (by rw [Int.toNat_natCast]; exact qp) (by rw [Int.toNat_natCast, Int.toNat_natCast]; unfold mmB; rw [hb, hf]; rfl)
            rw [mmL_no hc (by decide), hc]
            rw [hf] at HFR
            clear hc q qe qp hlen hg0 hP hb hN' hV2 hne2 hVp hf
            go_enter Try.func25, Try.ntmps25
            go_wp2_with fail
            refine HE.out.mono ?_
            rintro x w1 ⟨rfl, hb1⟩
            have G3 := hidd (show Blk (w1.alloc (.cells (psC 0 0 0) 40)) w1.heap.size (psC 0 0 0) 40 from Blk.new _ _ _ _ rfl)
            have G4 := hidd (show Below w.heap.size w ((w1.alloc (.cells (psC 0 0 0) 40)).setRow w1.heap.size V) from below_setRow (hb1.alloc hb1.size _) hb1.size _)
            have G5 := hidd (G3.out.rowSame V)
            clear hb1
            go_wp2_with (first
              | (refine wpList_store_row rfl 40 (.tmp 8) (.tmp 14) rfl w1.heap.size V rfl rfl 40 _ G3.out HVS.out.1 HVS.out.2.1 HVS.out.2.2 ?_)
              | (refine wpList_load_row rfl 40 (.tmp 8) rfl w1.heap.size rfl 40 _ (0,0) _ G5.out Try.underlying40 rfl HVS.out.1 ?_)
              | (go_at_call 44; refine (edge48 (N : Int) _ (by omega) (by omega)).mono ?_; rintro x w' ⟨rfl, rfl⟩; rw [← HL.out])
              | (go_at_call 43; refine (below61 _ _ _).mono ?_; rintro x w' ⟨rfl, rfl⟩; rw [HBE.out]))
            refine (HOV.out _).mono ?_
            rintro x w2 ⟨rfl, hb2⟩
            have G6 := hidd (And.intro (G5.out.below hb2 G5.out.lt) (G4.out.trans (hb2.mono G4.out.size)))
            clear hb2
            go_wp2_with (refine wpList_load_if (by rfl) 40 (.tmp 8) rfl w1.heap.size rfl 40 _ _ G6.out.1 Try.underlying40 rfl HVS.out.1 ?_)
            refine (HFR.out _).mono ?_
            rintro x w3 ⟨rfl, hb3⟩
            have G7 := hidd (G6.out.2.trans (hb3.mono G6.out.2.size))
            clear hb3
            go_wp2_with fail
            go_ret2
            exact lout_nil rfl G7.out
          | true =>
            have hc := mm_0 (e := (E : Int)) q qe (by rw [Int.toNat_natCast]; exact qp) (by rw [Int.toNat_natCast, Int.toNat_natCast]; unfold mmB; rw [hb, hf]; rfl)
            rw [mmL_0 hc, hc, Int.toNat_natCast]
            have HAF := hidd (fun w => after46 N zs hP E hEl hf w)
            have HLI := hidd (fun w => list47 N (aft zs E) n1 n5 (by rw [aft_len]; exact hlen) (aft_all hP.all hP.mov hEl) w)
            rw [hVp] at HAF
            rw [hf] at HFR
            generalize psL N (aft zs E) = Z at *
            generalize aft zs E = A at *
            clear hc q qe qp hlen hg0 hP hb hN' hV2 hne2 hVp hf
            go_enter Try.func25, Try.ntmps25
            go_wp2_with fail
            refine HE.out.mono ?_
            rintro x w1 ⟨rfl, hb1⟩
            have G3 := hidd (show Blk (w1.alloc (.cells (psC 0 0 0) 40)) w1.heap.size (psC 0 0 0) 40 from Blk.new _ _ _ _ rfl)
            have G4 := hidd (show Below w.heap.size w ((w1.alloc (.cells (psC 0 0 0) 40)).setRow w1.heap.size V) from below_setRow (hb1.alloc hb1.size _) hb1.size _)
            have G5 := hidd (G3.out.rowSame V)
            clear hb1
            go_wp2_with (first
              | (refine wpList_store_row rfl 40 (.tmp 8) (.tmp 14) rfl w1.heap.size V rfl rfl 40 _ G3.out HVS.out.1 HVS.out.2.1 HVS.out.2.2 ?_)
              | (refine wpList_load_row rfl 40 (.tmp 8) rfl w1.heap.size rfl 40 _ (0,0) _ G5.out Try.underlying40 rfl HVS.out.1 ?_)
              | (go_at_call 44; refine (edge48 (N : Int) _ (by omega) (by omega)).mono ?_; rintro x w' ⟨rfl, rfl⟩; rw [← HL.out])
              | (go_at_call 43; refine (below61 _ _ _).mono ?_; rintro x w' ⟨rfl, rfl⟩; rw [HBE.out]))
            refine (HOV.out _).mono ?_
            rintro x w2 ⟨rfl, hb2⟩
            have G6 := hidd (And.intro (G5.out.below hb2 G5.out.lt) (G4.out.trans (hb2.mono G4.out.size)))
            clear hb2
            go_wp2_with (refine wpList_load_if (by rfl) 40 (.tmp 8) rfl w1.heap.size rfl 40 _ _ G6.out.1 Try.underlying40 rfl HVS.out.1 ?_)
            refine (HFR.out _).mono ?_
            rintro x w3 ⟨rfl, hb3⟩
            have G7 := hidd (And.intro (G6.out.1.below hb3 G6.out.1.lt) (G6.out.2.trans (hb3.mono G6.out.2.size)))
            clear hb3
            go_wp2_with (refine wpList_load_row rfl 40 (.tmp 8) rfl w1.heap.size rfl 40 _ (0,0) _ G7.out.1 Try.underlying40 rfl HVS.out.1 ?_)
            refine (HAF.out _).mono ?_
            rintro x w4 ⟨rfl, hb4⟩
            have G8 := hidd (G7.out.2.trans (hb4.mono G7.out.2.size))
            clear hb4
            go_wp2_with fail
            refine (HLI.out _).mono ?_
            rintro x w5 ⟨a5, c5, rfl, ho, hb5⟩
            have G9 := hidd (And.intro (ho.bas G8.out.size) (G8.out.trans (hb5.mono G8.out.size)))
            clear ho hb5
            go_wp2_with fail
            go_ret2
            exact ⟨a5, c5, rfl, G9.out.1, G9.out.2⟩
end Go.Proofs.Yteclbaalejondaa
