/- LongestBeginning: the program. -/
import Derived.Test.YtckffliiidgilaaDoorLbm
import Derived.Test.YtckffliiidgilaaDoorEav
namespace Go.Proofs.YtckffliiidgilaaDoor
set_option linter.unusedVariables false
set_option linter.unusedSimpArgs false
open Go Go.RowKit Go.Shelf
set_option maxRecDepth 100000 in
set_option maxHeartbeats 4000000 in
theorem impl41 (n k : Int) (bs : List Nat) (hb : Bys bs) (zs : List Int) (a : Option Addr) (cap : Nat) (e0 : Addr) (w : World) (hs : SlI w a zs) (hl : zs.length ≤ 1048576) (hE : Er w e0) :
    Calls Tryd.prog 41 #[.agg (ccells n k bs).toArray, .slice a zs.length cap] w fun e w' => e = .returned (.tuple #[.int .i64 (lgV n k bs zs), .int .i64 (szCode n k bs zs)]) ∧ Below w.heap.size w w' := by
  have Hz := zero56
  have HS := hidd (size_c26 n k hb)
  have HSL := hidd hs
  have HE := hidd hE
  have HEN := hidd (fun W h hE => enter58 n k bs hb zs a cap e0 W h hl hE)
  have HC0 := hidd (show (ccells n k bs).toArray[0]? = some (.int .i64 n) from rfl)
  have HG := hidd (And.intro (Blk.new w (ccells n k bs).toArray 28 _ rfl) ((Below.refl w.heap.size w).alloc (Nat.le_refl _) (.cells (ccells n k bs).toArray 28)))
  obtain ⟨W0, hW0⟩ : ∃ W0, W0 = w.alloc (.cells (ccells n k bs).toArray 28) := ⟨_, rfl⟩
  rw [← hW0] at HG
  obtain ⟨D, hD⟩ : ∃ D, D = (enS n k bs zs a cap).toArray := ⟨_, rfl⟩
  obtain ⟨cd, hcd⟩ : ∃ cd, cd = szCode n k bs zs := ⟨_, rfl⟩
  have hDs : (Tryd.prog.info? 56).map (·.size) = some D.size ∧ (scl 0 0 zbl none 0 0).toArray.size = D.size ∧ D.all (·.oneCell') = true := by
    rw [hD]; unfold enS
    split
    · exact ⟨size_s56 hb _ _ _, by simp [scl_len zbl_bys, scl_len hb], scl_one⟩
    · exact ⟨size_s56 zbl_bys _ _ _, rfl, scl_one⟩
  have HD := hidd hDs
  rw [← hD, ← hcd] at HEN
  have HJ := hidd (fun (W1 : World) (hb1 : Below W0.heap.size W0 W1) =>
    (show Blk ((W1.alloc (.cells (scl 0 0 zbl none 0 0).toArray 56)).setRow W1.heap.size D) w.heap.size (ccells n k bs).toArray 28 ∧
        Below w.heap.size w ((W1.alloc (.cells (scl 0 0 zbl none 0 0).toArray 56)).setRow W1.heap.size D) from by
      have k1 := HG.out.1.below hb1 HG.out.1.lt
      have hlt := k1.lt
      have k3 := HG.out.2.trans (hb1.mono HG.out.2.size)
      exact ⟨(k1.alloc _).rowOther _ _ (by omega), below_setRow (k3.alloc (by omega) _) (by omega) _⟩))
  rw [← hcd]
  clear hDs hs hE
  by_cases h0 : cd = 0
  · have hc0 := hcd.symm.trans h0
    obtain ⟨hi, ho⟩ := szCode_ok hc0
    obtain ⟨n1, n2, k1, k2⟩ := isCol_bd hi
    obtain ⟨hlk, hsp⟩ := szOk_bd ho
    obtain ⟨N, rfl⟩ := Int.eq_ofNat_of_zero_le (show 0 ≤ n by omega)
    obtain ⟨K, rfl⟩ := Int.eq_ofNat_of_zero_le (show 0 ≤ k by omega)
    have hlK : zs.length = K := by omega
    have hv : lgV (N : Int) (K : Int) bs zs = (lbN N bs zs K : Int) := by unfold lgV; rw [if_pos hc0]; rfl
    rw [hv, hlK]
    rw [hlK] at HEN hsp
    have HSP := hidd hsp
    have HLK := hidd hlK
    have hN17 : N ≤ 17 := by omega
    have hK4 : K ≤ 4 := by omega
    have hN1 : 1 ≤ N := by omega
    clear hv hD hcd hc0 hi ho hlk hsp hlK hl
    subst h0
    go_enter Tryd.func41, Tryd.ntmps41
    go_upto_region 1 with fail
    rw [← hW0]
    clear hW0
    go_wp2_with (refine wpList_load_row rfl 28 (.tmp 2) rfl w.heap.size rfl 28 _ (0,0) _ HG.out.1 Tryd.underlying28 rfl HS.out ?_)
    refine (HEN.out _ (HSL.out.below HG.out.2 (Nat.le_refl _)) (HE.out.below HG.out.2 HE.out.lt)).mono ?_
    rintro e w1 ⟨rfl, hb1⟩
    have J := hidd (HJ.out w1 hb1)
    clear hb1
    obtain ⟨W4, hW4⟩ : ∃ W4, W4 = (w1.alloc (.cells (scl 0 0 zbl none 0 0).toArray 56)).setRow w1.heap.size D := ⟨_, rfl⟩
    rw [← hW4] at J
    have c0 := J.out.1.cell HC0.out
    go_upto_region 2 with (refine wpList_store_row rfl 56 (.tmp 6) (.tmp 17) rfl w1.heap.size _ rfl rfl 56 _ (Blk.new _ _ _ _ rfl) HD.out.1 HD.out.2.1 HD.out.2.2 ?_)
    rw [← hW4]
    clear hW4
    go_wp2_with fail
    go_loopw [8, 26] (fun g e wr => ∃ d lg : Nat, d ≤ K ∧ g = .int .i64 (lg : Int) ∧ e = .int .i64 (d : Int) ∧ Hid (LgI N K bs zs d [] 0 lg ∧ Blk wr w.heap.size (ccells (N : Int) (K : Int) bs).toArray 28 ∧ Below w.heap.size w wr)) (fun _ e _ => K - (intOf e).toNat)
    case atStart => exact ⟨0, N, Nat.zero_le _, rfl, rfl, LgI.start N K bs zs, J.out⟩
    case round =>
      obtain ⟨d, lg, hd, rfl, rfl, HK⟩ := hrel
      by_cases hlt : d < K
      · have hltI : decide ((d : Int) < (K : Int)) = true := by simp; omega
        rcases HSL.out with hz | ⟨bl, off, ha, hc⟩
        · have := HLK.out; rw [hz] at this; simp at this; omega
        · subst ha
          have cj := cell_below (hc d (by have := HLK.out; omega)) HK.out.2.2
          obtain ⟨z, hzz⟩ : ∃ z, z = zs.getD d 0 := ⟨_, rfl⟩
          rw [← hzz] at cj
          have HCO := hidd (fun W => cos75 N (K : Int) (d : Int) z bs hb W hN1 hN17)
          obtain ⟨L, hL⟩ : ∃ L, L = csL (nsF bs (d : Int) (eseq N)) N z := ⟨_, rfl⟩
          rw [← hL] at HCO
          have HL := hidd (show L = csL (nsF bs (d : Int) (eseq N)) N (zs.getD d 0) by rw [hL, hzz])
          have HI0 := hidd (HK.out.1.inner L)
          have hLM : L.length ≤ 131072 := by rw [hL]; unfold csL; exact Nat.le_trans (List.length_filter_le _ _) (cqR_many _ hN17)
          clear hc hzz hL
          go_wp2_with (refine wpList_load_row rfl 28 (.tmp 2) rfl w.heap.size rfl 28 _ (0,0) _ HK.out.2.1 Tryd.underlying28 rfl HS.out ?_)
          refine (HCO.out _).mono ?_
          rintro e w5 ⟨aL, cL, rfl, hSU, hb5⟩
          have G5 := hidd (And.intro (HK.out.2.1.below hb5 HK.out.2.1.lt) (HK.out.2.2.trans (hb5.mono HK.out.2.2.size)))
          have HSU := hidd hSU
          obtain ⟨wo, rfl⟩ : ∃ wo, wo = wr := ⟨_, rfl⟩
          clear hb5 hSU cj
          go_wp2_with fail
          go_loopw [8, 36] (fun g e wr => ∃ j lg : Nat, j ≤ L.length ∧ g = .int .i64 (lg : Int) ∧ e = .int .i64 (j : Int) ∧ Hid (LgI N K bs zs d L j lg ∧ w5 = wr)) (fun _ e _ => L.length - (intOf e).toNat)
          case atStart => exact ⟨0, lg, Nat.zero_le _, rfl, rfl, HI0.out, rfl⟩
          case round =>
            obtain ⟨j, lh, hj, rfl, rfl, HI, hww⟩ := hrel
            obtain rfl : w5 = wr := hww
            have HI' := hidd HI
            clear HI
            by_cases hjl : j < L.length
            · have hjI : decide ((j : Int) < (L.length : Int)) = true := by simp; omega
              have hmem : L[j] ∈ csL (nsF bs (d : Int) (eseq N)) N (zs.getD d 0) := by rw [← HL.out]; exact List.getElem_mem hjl
              obtain ⟨q, r, hqr, hqN, hrq⟩ := cs_shape hN17 hmem
              have hget : L[j]? = some (q :: r) := by rw [List.getElem?_eq_getElem hjl, hqr]
              have hst := HI'.out
              rw [HL.out] at hst
              have hst2 := hst.step (q := q) (r := r) hN17 hlt (by rw [← HL.out]; exact hget)
              rw [← HL.out] at hst2
              have HLA := hidd (fun W => last60 (q := q) (s := r) hrq (by omega) W)
              obtain ⟨X, hX⟩ : ∃ X, X = bitS (q :: r) := ⟨_, rfl⟩
              rw [← hX] at HLA
              rcases HSU.out with hz | ⟨g, hg, hgl, hcell⟩
              · rw [hz] at hjl; simp at hjl
              · subst hg
                have ce := hcell j _ hget
                rw [← hX] at ce
                clear hcell hst hmem hqr hget hX
                by_cases hq : q < lh
                · rw [if_pos hq] at hst2
                  have HST := hidd hst2
                  have hqI : decide ((q : Int) < (lh : Int)) = true := by simp; omega
                  have hqJ : (q : Int) < (lh : Int) := by omega
                  clear hst2
                  go_wp2_with (go_at_call 76; refine (HLA.out _).mono ?_; rintro e w' ⟨rfl, rfl⟩)
                  go_roundw
                  case rel => exact ⟨j + 1, q, by omega, rfl, by go_num, HST.out, trivial⟩
                  case measure => simp [intOf]; omega
                · rw [if_neg hq] at hst2
                  have HST := hidd hst2
                  have hqI : decide ((q : Int) < (lh : Int)) = false := by simp; omega
                  have hqJ : ¬ (q : Int) < (lh : Int) := by omega
                  clear hst2
                  go_wp2_with (go_at_call 76; refine (HLA.out _).mono ?_; rintro e w' ⟨rfl, rfl⟩)
                  go_roundw
                  case rel => exact ⟨j + 1, lh, by omega, rfl, by go_num, HST.out, trivial⟩
                  case measure => simp [intOf]; omega
            · have hjI : decide ((j : Int) < (L.length : Int)) = false := by simp; omega
              have hje : j = L.length := by omega
              subst hje
              have hst := HI'.out
              rw [HL.out] at hst
              have HST := hidd (hst.next hN17)
              clear hst
              go_wp2_with fail
              go_roundw
              case rel => exact ⟨d + 1, lh, by omega, rfl, by go_num, HST.out, G5.out⟩
              case measure => simp [intOf]; omega
      · have hltI : decide ((d : Int) < (K : Int)) = false := by simp; omega
        have hde : d = K := by omega
        subst hde
        have HE := hidd (HK.out.1.done hN17 HSP.out)
        go_wp2_with fail
        go_ret2
        exact ⟨by rw [HE.out]; rfl, HK.out.2.2⟩
  · have hv : lgV n k bs zs = 0 := by unfold lgV; rw [if_neg (by rw [← hcd]; exact h0)]
    have hnz : (cd != 0) = true := by rw [bne_iff_ne]; exact h0
    rw [hv]
    clear hv hD hcd
    go_enter Tryd.func41, Tryd.ntmps41
    go_upto_region 1 with fail
    rw [← hW0]
    clear hW0
    go_wp2_with (refine wpList_load_row rfl 28 (.tmp 2) rfl w.heap.size rfl 28 _ (0,0) _ HG.out.1 Tryd.underlying28 rfl HS.out ?_)
    refine (HEN.out _ (HSL.out.below HG.out.2 (Nat.le_refl _)) (HE.out.below HG.out.2 HE.out.lt)).mono ?_
    rintro e w1 ⟨rfl, hb1⟩
    have J := hidd (HJ.out w1 hb1)
    clear hb1
    go_wp2_with (refine wpList_store_row rfl 56 (.tmp 6) (.tmp 17) rfl w1.heap.size _ rfl rfl 56 _ (Blk.new _ _ _ _ rfl) HD.out.1 HD.out.2.1 HD.out.2.2 ?_)
    go_ret2
    exact ⟨rfl, J.out.2⟩
end Go.Proofs.YtckffliiidgilaaDoor
