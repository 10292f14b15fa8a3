/- PutPoint: the program; the model's point put in. -/
import Derived.Test.YtckffliiidgilaaDoorBab
import Derived.StillTailTactics
namespace Go.Proofs.YtckffliiidgilaaDoor
set_option linter.unusedVariables false
set_option linter.unusedSimpArgs false
open Go Go.RowKit
set_option maxRecDepth 100000 in
set_option maxHeartbeats 1000000 in
theorem put71 (n k : Int) (bs : List Nat) (hb : Bys bs) (zs : List Int) (a : Option Addr) (cap : Nat) (w : World) (hs : SlI w a zs) (n1 : 1 ≤ n) (n2 : n ≤ 16) (hl : (zs.length : Int) = n) (hz : ∀ j, j < zs.length → 0 ≤ zs.getD j 0 ∧ zs.getD j 0 < 256) :
    Calls Tryd.prog 45 #[.agg (ccells n k bs).toArray, .slice a zs.length cap] w fun e w' => e = .returned (.agg (ccells (n + 1) k (putK bs (edg n).toNat zs zs.length)).toArray) ∧ Below w.heap.size w w' := by
  have Hz := zero26
  obtain ⟨E, hE⟩ := Int.eq_ofNat_of_zero_le (edg_pos (show 0 ≤ n by omega))
  have hEl := edg_last n1 n2
  rw [hE] at hEl
  have HE := hidd hE
  rw [hE, Int.toNat_natCast]
  have hl16 : zs.length ≤ 16 := by omega
  have HL := hidd hl
  have HZ := hidd hz
  have HS := hidd hs
  obtain ⟨C, hC⟩ : ∃ C, C = (ccells n k bs).toArray := ⟨_, rfl⟩
  have hC0 : C[0]? = some (.int .i64 n) := by rw [hC]; rfl
  rw [← hC]
  have HC := hidd (show C.setIfInBounds 0 (.int .i64 (n + 1)) = (ccells (n + 1) k bs).toArray by rw [hC, ccells_set0])
  clear hC hE hz hl hs
  go_enter Tryd.func45, Tryd.ntmps45
  go_wp2_with fail
  go_loopw [5] (fun i wr => ∃ j : Nat, j ≤ zs.length ∧ i = .int .i64 j ∧ RelP (n + 1) k bs E zs a w j wr) (fun i _ => zs.length - (intOf i).toNat)
  case atStart =>
    have hbe : Below w.heap.size w ((w.alloc (.cells (C.setIfInBounds 0 (.int .i64 (n + 1))) 28)).alloc (.cells (ccells 0 0 zbl).toArray 28)) := ((Below.refl _ _).alloc (Nat.le_refl _) _).alloc (by simp) _
    exact ⟨0, by omega, rfl, by rw [putK, ← HC.out]; exact (Blk.new _ _ _ _ rfl).alloc _, Blk.new _ _ _ _ (by simp), HS.out.below hbe (Nat.le_refl _), hbe⟩
  case round =>
    obtain ⟨j, hj, rfl, HR⟩ := hrel
    by_cases hlt : j < zs.length
    · obtain ⟨wo, hwo⟩ : ∃ wo, wo = wr.drew := ⟨_, rfl⟩
      have HR' : RelP (n + 1) k bs E zs a w j wo := by rw [hwo]; exact ⟨HR.1, HR.2.1, HR.2.2.1.below ((Below.refl _ wr).drew) (Nat.le_refl _), HR.2.2.2.drew⟩
      have HWO := hidd hwo
      clear HR hwo
      have HR := HR'
      clear HR'
      rcases HR.2.2.1 with hz | ⟨b, off, ha, hc⟩
      · subst hz; simp at hlt
      · subst ha
        have hcj := hc j hlt
        have hzj := HZ.out j hlt
        obtain ⟨z, hz⟩ : ∃ z, z = zs.getD j 0 := ⟨_, rfl⟩
        rw [← hz] at hcj hzj
        obtain ⟨z0, z1⟩ := hzj
        have hwr : IntKind.u8.wrap z = z := u8_in z0 z1
        have hw0 := HR.1.cell (j := 0) (show _ = some (.int .i64 (n + 1)) from rfl)
        have hbj : Bys (putK bs E zs j) := putK_bys hb E HZ.out j hj
        obtain ⟨F, hF⟩ : ∃ F, F = E + j := ⟨_, rfl⟩
        have hEj : F < 136 := by have := HL.out; omega
        have hwE := HR.1.cell (hbj.cget (n + 1) k hEj)
        have hfE := HR.1.fro (2 + F)
        obtain ⟨old, hold⟩ : ∃ old, old = ((putK bs E zs j).getD F 0 : Nat) := ⟨_, rfl⟩
        rw [← hold] at hwE
        obtain ⟨x, hx⟩ := Int.eq_ofNat_of_zero_le z0
        have hst : Blk (wo.setCell ⟨w.heap.size, 2 + F, none⟩ (.int .u8 z)) w.heap.size (ccells (n + 1) k (putK bs E zs (j + 1))).toArray 28 := by
          have := HR.1.same (2 + F) (.int .u8 z)
          rw [hx, ccells_set] at this
          rw [putK, ← hz, hx, ← hF]; exact this
        have hbe := HR.2.2.2.setCell (p := ⟨w.heap.size, 2 + F, none⟩) (Nat.le_refl _) (.int .u8 z)
        have K := hidd (show RelP (n + 1) k bs E zs (some ⟨b, off, none⟩) w (j + 1) _ from ⟨hst, HR.2.1.other _ _ (by show w.heap.size + 1 ≠ w.heap.size; omega), HS.out.below hbe (Nat.le_refl _), hbe⟩)
        have HX := hidd hx
        have he : eix (j : Int) n = (F : Int) := by rw [eix_last (by omega) (by rw [← HL.out]; omega), HE.out]; omega
        have HEJ := hidd he
        have hjn : (j : Int) ≤ 16 := by omega
        have hF2 : (F : Int) < 136 := by omega
        have hwn : IntKind.i64.wrap n = n := IntWalk.i64_in _ (by omega)
        clear hz hc hst hbe HR hold hbj hx he hF
        go_wp2_with fail
        refine wp_region_still_tail 12 (by kernel_rfl) (by kernel_rfl) ?_
        simp only [List.take_succ_cons, List.take_zero, List.drop_succ_cons, List.drop_zero]
        change wpStill _ _ wr.drew (fun a' => wpList _ _ _ _ a' wr.drew) _ _
        rw [← HWO.out]
        still_step
        still_step
        still_step
        still_step
        still_call ((edge79 _ _ _ (by omega) hjn (by omega) (by omega)).mono fun _ _ h => ⟨h.1, h.2.symm⟩)
        rw [HEJ.out]
        iterate 7 still_step
        refine wpStill_nil ?_
        go_wp2
        go_roundw
        case rel => exact ⟨j + 1, by omega, by go_num, K.out⟩
        case measure => simp [intOf]; omega
    · have hje : j = zs.length := by omega
      subst hje
      have hbj : Bys (putK bs E zs zs.length) := putK_bys hb E HZ.out zs.length (Nat.le_refl _)
      have HS1 := hidd (size_c26 (n + 1) k hbj)
      have HO1 := hidd (size_cc 0 0 (n + 1) k zbl_bys hbj)
      have HA1 := hidd (ccells_one (n + 1) k (putK bs E zs zs.length))
      have K := hidd (And.intro HR.1 (And.intro HR.2.1 (And.intro (HR.2.1.rowSame (ccells (n + 1) k (putK bs E zs zs.length)).toArray) (below_setRow HR.2.2.2 (g := w.heap.size + 1) (by omega) (ccells (n + 1) k (putK bs E zs zs.length)).toArray))))
      clear HR hbj
      go_wp2_with (first
        | (refine wpList_load_row rfl 28 (.tmp 2) rfl w.heap.size rfl 28 _ (0,0) _ K.out.1 Tryd.underlying28 rfl HS1.out ?_)
        | (refine wpList_store_row rfl 28 (.tmp 4) (.tmp 28) rfl (w.heap.size + 1) _ rfl rfl 28 _ K.out.2.1 HS1.out HO1.out HA1.out ?_))
      refine bodyPost_ret (results_cell_row rfl _ _ (w.heap.size + 1) 28 _ (0,0) _ rfl K.out.2.2.1 Tryd.underlying28 rfl HS1.out) rfl ⟨rfl, K.out.2.2.2⟩
set_option maxRecDepth 100000 in
set_option maxHeartbeats 2000000 in
theorem impl38 (n k : Int) (bs : List Nat) (hb : Bys bs) (zs : List Int) (a : Option Addr) (cap : Nat) (w : World) (hs : SlI w a zs) (hl : zs.length ≤ 9223372036854775807) :
    Calls Tryd.prog 80 #[.agg (ccells n k bs).toArray, .slice a zs.length cap] w fun e w' => e = .returned (outP n k bs zs) ∧ Below w.heap.size w w' := by
  have HS := hidd (size_c26 n k hb)
  have Hz := zero26
  have HZS := hidd size_z26
  have HZ1 := hidd (ccells_one 0 0 zbl)
  have HC0 := hidd (show (ccells n k bs).toArray[0]? = some (.int .i64 n) from rfl)
  have HC1 := hidd (show (ccells n k bs).toArray[1]? = some (.int .i64 k) from rfl)
  cases hi : isCol n k bs with
  | false =>
    have H := hidd (outP_bad (codeP_1 (zs := zs) hi) (by omega))
    have HI := hidd hi
    clear hi
    go_enter Tryd.func80, Tryd.ntmps80
    go_wp2_with (refine wpList_load_row rfl 28 (.tmp 2) rfl w.heap.size rfl 28 _ (0,0) _ ((Blk.new _ _ _ _ rfl).alloc _) Tryd.underlying28 rfl HS.out ?_)
    refine (implIs_any n k bs hb _).mono ?_
    rintro e w1 ⟨rfl, hb1⟩
    rw [HI.out]
    obtain ⟨g0, g1, g2⟩ := after2 hb1
    have G := hidd (And.intro g1 (And.intro (g1.rowSame (ccells 0 0 zbl).toArray) (below_setRow g2 (g := w.heap.size + 1) (by omega) (ccells 0 0 zbl).toArray)))
    clear hb1 g0 g1 g2
    go_wp2_with (first
      | (refine wpList_zero26 rfl rfl ?_)
      | (refine wpList_store_row rfl 28 (.tmp 4) (.tmp 11) rfl (w.heap.size + 1) _ rfl rfl 28 _ G.out.1 HZS.out rfl HZ1.out ?_))
    exact ret_col rfl zbl_bys rfl G.out.2.1 rfl rfl ⟨by rw [H.out]; rfl, G.out.2.2⟩
  | true =>
    have HI := hidd hi
    obtain ⟨n1, n2, k1, k2⟩ := isCol_bd hi
    by_cases hL : (zs.length : Int) = n
    · have hq : ((zs.length : Int) != n) = false := by simpa using hL
      have HL := hidd hL
      cases ha : allB zs k with
      | false =>
        have H := hidd (outP_bad (codeP_2 hi (.inr ha)) (by omega))
        have HA := hidd ha
        clear hi ha hL
        go_enter Tryd.func80, Tryd.ntmps80
        go_wp2_with (refine wpList_load_row rfl 28 (.tmp 2) rfl w.heap.size rfl 28 _ (0,0) _ ((Blk.new _ _ _ _ rfl).alloc _) Tryd.underlying28 rfl HS.out ?_)
        refine (implIs_any n k bs hb _).mono ?_
        rintro e w1 ⟨rfl, hb1⟩
        rw [HI.out]
        obtain ⟨g0, g1, g2⟩ := after2 hb1
        have G := hidd (And.intro g1 (And.intro (g1.rowSame (ccells 0 0 zbl).toArray) (below_setRow g2 (g := w.heap.size + 1) (by omega) (ccells 0 0 zbl).toArray)))
        have c0 := g0.cell HC0.out
        have c1 := g0.cell HC1.out
        have hs1 := hidd (hs.below g2 (Nat.le_refl _))
        clear hb1 g0 g1 g2
        go_wp2_with (first
          | (refine wpList_zero26 rfl rfl ?_)
          | (refine wpList_store_row rfl 28 (.tmp 4) (.tmp 24) rfl (w.heap.size + 1) _ rfl rfl 28 _ G.out.1 HZS.out rfl HZ1.out ?_)
          | (go_at_call 79; refine (all51 _ _ _ _ _ hs1.out hl).mono ?_; rintro e w' ⟨rfl, rfl⟩; rw [HA.out]))
        exact ret_col rfl zbl_bys rfl G.out.2.1 rfl rfl ⟨by rw [H.out]; rfl, G.out.2.2⟩
      | true =>
        have HA := hidd ha
        by_cases h17 : n = 17
        · have H := hidd (outP_bad (codeP_3 hi hL ha h17) (by omega))
          have h7 : (n == 17) = true := by simpa using h17
          clear hi ha hL h17
          go_enter Tryd.func80, Tryd.ntmps80
          go_wp2_with (refine wpList_load_row rfl 28 (.tmp 2) rfl w.heap.size rfl 28 _ (0,0) _ ((Blk.new _ _ _ _ rfl).alloc _) Tryd.underlying28 rfl HS.out ?_)
          refine (implIs_any n k bs hb _).mono ?_
          rintro e w1 ⟨rfl, hb1⟩
          rw [HI.out]
          obtain ⟨g0, g1, g2⟩ := after2 hb1
          have G := hidd (And.intro g1 (And.intro (g1.rowSame (ccells 0 0 zbl).toArray) (below_setRow g2 (g := w.heap.size + 1) (by omega) (ccells 0 0 zbl).toArray)))
          have c0 := g0.cell HC0.out
          have c1 := g0.cell HC1.out
          have hs1 := hidd (hs.below g2 (Nat.le_refl _))
          clear hb1 g0 g1 g2
          go_wp2_with (first
            | (refine wpList_zero26 rfl rfl ?_)
            | (refine wpList_store_row rfl 28 (.tmp 4) (.tmp 28) rfl (w.heap.size + 1) _ rfl rfl 28 _ G.out.1 HZS.out rfl HZ1.out ?_)
            | (go_at_call 79; refine (all51 _ _ _ _ _ hs1.out hl).mono ?_; rintro e w' ⟨rfl, rfl⟩; rw [HA.out]))
          exact ret_col rfl zbl_bys rfl G.out.2.1 rfl rfl ⟨by rw [H.out]; rfl, G.out.2.2⟩
        · have H := hidd (outP_good (codeP_0 hi hL ha h17))
          have h7 : (n == 17) = false := by simpa using h17
          have hzz : ∀ j, j < zs.length → 0 ≤ zs.getD j 0 ∧ zs.getD j 0 < 256 := fun j hj => by have := allB_get ha hj; omega
          have HZZ := hidd hzz
          have n3 : n ≤ 16 := by omega
          have HBP := hidd (putK_bys hb (edg n).toNat hzz zs.length (Nat.le_refl _))
          have HS2 := hidd (size_c26 (n + 1) k HBP.out)
          have HO2 := hidd (size_cc 0 0 (n + 1) k zbl_bys HBP.out)
          have HA2 := hidd (ccells_one (n + 1) k (putK bs (edg n).toNat zs zs.length))
          clear hi ha hL h17 hzz
          go_enter Tryd.func80, Tryd.ntmps80
          go_wp2_with (refine wpList_load_row rfl 28 (.tmp 2) rfl w.heap.size rfl 28 _ (0,0) _ ((Blk.new _ _ _ _ rfl).alloc _) Tryd.underlying28 rfl HS.out ?_)
          refine (implIs_any n k bs hb _).mono ?_
          rintro e w1 ⟨rfl, hb1⟩
          rw [HI.out]
          obtain ⟨g0, g1, g2⟩ := after2 hb1
          have c0 := g0.cell HC0.out
          have c1 := g0.cell HC1.out
          have hs1 := hidd (hs.below g2 (Nat.le_refl _))
          have R := hidd (show RelP n k bs (edg n).toNat zs a w 0 w1 from ⟨g0, g1, hs1.out, g2⟩)
          clear hb1 g0 g1 g2
          go_wp2_with (first
            | (go_at_call 79; refine (all51 _ _ _ _ _ hs1.out hl).mono ?_; rintro e w' ⟨rfl, rfl⟩; rw [HA.out]))
          clear c0 c1
          go_loopw [31] (fun i wr => ∃ j : Nat, j ≤ zs.length ∧ i = .int .i64 j ∧ RelP n k bs (edg n).toNat zs a w j wr) (fun i _ => zs.length - (intOf i).toNat)
          case atStart => exact ⟨0, by omega, rfl, R.out⟩
          case round =>
            obtain ⟨j, hj, rfl, HR⟩ := hrel
            by_cases hlt : j < zs.length
            · rcases HR.2.2.1 with hz | ⟨b, off, ha, hc⟩
              · subst hz; simp at hlt
              · subst ha
                obtain ⟨E, hE⟩ := Int.eq_ofNat_of_zero_le (edg_pos (show 0 ≤ n by omega))
                have hEl := edg_last n1 n3
                have hcj := hc j hlt
                have hzj := HZZ.out j hlt
                obtain ⟨z, hz⟩ : ∃ z, z = zs.getD j 0 := ⟨_, rfl⟩
                rw [← hz] at hcj hzj
                obtain ⟨z0, z1⟩ := hzj
                have hwr : IntKind.u8.wrap z = z := u8_in z0 z1
                rw [hE, Int.toNat_natCast] at HR
                have hw0 := HR.1.cell (j := 0) (show _ = some (.int .i64 n) from rfl)
                have hbj : Bys (putK bs E zs j) := putK_bys hb E HZZ.out j hj
                obtain ⟨F, hF⟩ : ∃ F, F = E + j := ⟨_, rfl⟩
                have hEj : F < 136 := by have := HL.out; omega
                have hwE := HR.1.cell (hbj.cget n k hEj)
                have hfE := HR.1.fro (2 + F)
                obtain ⟨old, hold⟩ : ∃ old, old = ((putK bs E zs j).getD F 0 : Nat) := ⟨_, rfl⟩
                rw [← hold] at hwE
                obtain ⟨x, hx⟩ := Int.eq_ofNat_of_zero_le z0
                have hst : Blk (wr.setCell ⟨w.heap.size, 2 + F, none⟩ (.int .u8 z)) w.heap.size (ccells n k (putK bs E zs (j + 1))).toArray 28 := by
                  have := HR.1.same (2 + F) (.int .u8 z)
                  rw [hx, ccells_set] at this
                  rw [putK, ← hz, hx, ← hF]; exact this
                have hbe := HR.2.2.2.setCell (p := ⟨w.heap.size, 2 + F, none⟩) (Nat.le_refl _) (.int .u8 z)
                have K := hidd (show RelP n k bs (edg n).toNat zs (some ⟨b, off, none⟩) w (j + 1) _ from by
                  rw [hE, Int.toNat_natCast]
                  exact ⟨hst, HR.2.1.other _ _ (by show w.heap.size + 1 ≠ w.heap.size; omega), hs.below hbe (Nat.le_refl _), hbe⟩)
                have hjn : (j : Int) ≤ 16 := by have := HL.out; omega
                have hjn2 : (j : Int) < n := by have := HL.out; omega
                have he : eix (j : Int) n = (F : Int) := by rw [eix_last (by omega) hjn2, hE]; omega
                have HEJ := hidd he
                have hF2 : (F : Int) < 136 := by omega
                have HNE := hidd (show (j : Int) ≠ n by omega)
                have HSS := hidd hs
                clear hz hc hst hbe HR hold hbj hx he hF hE hEl hs
                go_wp2_with (go_at_call 99; refine (edge54 _ _ _ HNE.out (by omega) (by omega) (by omega) (by omega)).mono ?_; rintro e w' ⟨rfl, rfl⟩; rw [HEJ.out])
                go_roundw
                case rel => exact ⟨j + 1, by omega, by go_num, K.out⟩
                case measure => simp [intOf]; omega
            · have hje : j = zs.length := by omega
              subst hje
              have hw0 := HR.1.cell (j := 0) (show _ = some (.int .i64 n) from rfl)
              have hf0 := HR.1.fro 0
              have s0 := HR.1.same 0 (.int .i64 (n + 1))
              rw [ccells_set0] at s0
              have s1 := HR.2.1.other ⟨w.heap.size, 0, none⟩ (.int .i64 (n + 1)) (by show w.heap.size + 1 ≠ w.heap.size; omega)
              have s2 := HR.2.2.2.setCell (p := ⟨w.heap.size, 0, none⟩) (Nat.le_refl _) (.int .i64 (n + 1))
              have K := hidd (And.intro s0 (And.intro s1 (And.intro (s1.rowSame (ccells (n + 1) k (putK bs (edg n).toNat zs zs.length)).toArray) (below_setRow s2 (g := w.heap.size + 1) (by omega) (ccells (n + 1) k (putK bs (edg n).toNat zs zs.length)).toArray))))
              clear s0 s1 s2 HR
              go_wp2_with (first
                | (refine wpList_load_row rfl 28 (.tmp 2) rfl w.heap.size rfl 28 _ (0,0) _ K.out.1 Tryd.underlying28 rfl HS2.out ?_)
                | (refine wpList_store_row rfl 28 (.tmp 4) (.tmp 49) rfl (w.heap.size + 1) _ rfl rfl 28 _ K.out.2.1 HS2.out HO2.out HA2.out ?_))
              exact ret_col rfl HBP.out rfl K.out.2.2.1 rfl rfl ⟨by rw [H.out]; rfl, K.out.2.2.2⟩
    · have hq : ((zs.length : Int) != n) = true := by rw [bne_iff_ne]; exact hL
      have H := hidd (outP_bad (codeP_2 hi (.inl hL)) (by omega))
      clear hi hL
      go_enter Tryd.func80, Tryd.ntmps80
      go_wp2_with (refine wpList_load_row rfl 28 (.tmp 2) rfl w.heap.size rfl 28 _ (0,0) _ ((Blk.new _ _ _ _ rfl).alloc _) Tryd.underlying28 rfl HS.out ?_)
      refine (implIs_any n k bs hb _).mono ?_
      rintro e w1 ⟨rfl, hb1⟩
      rw [HI.out]
      obtain ⟨g0, g1, g2⟩ := after2 hb1
      have G := hidd (And.intro g1 (And.intro (g1.rowSame (ccells 0 0 zbl).toArray) (below_setRow g2 (g := w.heap.size + 1) (by omega) (ccells 0 0 zbl).toArray)))
      have c0 := g0.cell HC0.out
      have c1 := g0.cell HC1.out
      have hs1 := hidd (hs.below g2 (Nat.le_refl _))
      clear hb1 g0 g1 g2
      go_wp2_with (first
        | (refine wpList_zero26 rfl rfl ?_)
        | (refine wpList_store_row rfl 28 (.tmp 4) (.tmp 24) rfl (w.heap.size + 1) _ rfl rfl 28 _ G.out.1 HZS.out rfl HZ1.out ?_))
      exact ret_col rfl zbl_bys rfl G.out.2.1 rfl rfl ⟨by rw [H.out]; rfl, G.out.2.2⟩
end Go.Proofs.YtckffliiidgilaaDoor
