/- IsExtension: what it answers; the program. -/
import Derived.Test.YtckffliiidgilaaDoorEav
import Derived.Test.YtckffliiidgilaaDoorBab
namespace Go.Proofs.YtckffliiidgilaaDoor
set_option linter.unusedVariables false
set_option linter.unusedSimpArgs false
open Go Go.RowKit Go.Extern.Stop Go.Stop Go.Extern
def ieC (n k : Int) (bs : List Nat) (zs cs : List Int) : Int := if eaC 16 n k bs zs = 1 then 1 else if isListB cs n k = true then eaC 16 n k bs zs else 2
def ieV (n k : Int) (bs : List Nat) (zs cs : List Int) : Bool := decide (ieC n k bs zs cs = 0) && avP (n.toNat + 1) (putK bs (edg n).toNat cs cs.length) zs k.toNat
theorem ieV_bad {n k : Int} {bs : List Nat} {zs cs : List Int} {m : Int} (h : ieC n k bs zs cs = m) (hm : m ≠ 0) : ieV n k bs zs cs = false := by unfold ieV; rw [h, decide_eq_false hm]; rfl
theorem ie_list {n k : Int} {bs : List Nat} {zs cs : List Int} (h0 : eaC 16 n k bs zs = 0) (hL : isListB cs n k = true) : (cs.length : Int) = n ∧ allB cs k = true ∧ codeP n k bs cs = 0 ∧ 1 ≤ n ∧ n ≤ 16 ∧ 1 ≤ k ∧ k ≤ 4 := by
  obtain ⟨h1, h2, h3⟩ := eaC_ok h0
  obtain ⟨hi, ho⟩ := szCode_ok h1
  obtain ⟨n1, n2, k1, k2⟩ := isCol_bd hi
  unfold isListB at hL
  rw [Bool.and_eq_true] at hL
  have hl := of_decide_eq_true hL.1
  exact ⟨hl, hL.2, codeP_0 hi hl hL.2 (by omega), n1, h3, k1, k2⟩
theorem put_col {n k : Int} {bs : List Nat} {cs : List Int} (hb : Bys bs) (h : codeP n k bs cs = 0) : Bys (putK bs (edg n).toNat cs cs.length) := by
  have := ppB_bys (n := n) (k := k) hb cs; unfold ppB at this; rw [if_pos h] at this; exact this
set_option maxRecDepth 100000 in
set_option maxHeartbeats 4000000 in
theorem impl16 (n k : Int) (bs : List Nat) (hb : Bys bs) (zs : List Int) (a : Option Addr) (cap : Nat) (cs : List Int) (b : Option Addr) (capb : Nat) (e0 : Addr) (w : World) (hs : SlI w a zs) (hl : zs.length ≤ 1048576) (hs2 : SlI w b cs) (hl2 : cs.length ≤ 1048576) (hE : Er w e0) :
    Calls Tryd.prog 16 #[.agg (ccells n k bs).toArray, .slice a zs.length cap, .slice b cs.length capb] w fun e w' => e = .returned (.tuple #[.bool (ieV n k bs zs cs), .int .i64 (ieC n k bs zs cs)]) ∧ Below w.heap.size w w' := by
  have Hz := zero56
  have HS := hidd (size_c26 n k hb)
  have HSL := hidd hs
  have HSL2 := hidd hs2
  have HE := hidd hE
  have HEN := hidd (fun W h hE => ea47 16 n k bs hb zs a cap e0 W h hl hE)
  have HLI := hidd (fun W h => isList46 cs b capb n k W h (by omega))
  have HC0 := hidd (show (ccells n k bs).toArray[0]? = some (.int .i64 n) from rfl)
  have HC1 := hidd (show (ccells n k bs).toArray[1]? = some (.int .i64 k) from rfl)
  have HG := hidd (And.intro (Blk.new w (ccells n k bs).toArray 28 _ rfl) ((Below.refl w.heap.size w).alloc (Nat.le_refl _) (.cells (ccells n k bs).toArray 28)))
  obtain ⟨W0, hW0⟩ : ∃ W0, W0 = w.alloc (.cells (ccells n k bs).toArray 28) := ⟨_, rfl⟩
  rw [← hW0] at HG
  obtain ⟨D, hD⟩ : ∃ D, D = (eaS 16 n k bs zs a cap).toArray := ⟨_, rfl⟩
  obtain ⟨cd, hcd⟩ : ∃ cd, cd = eaC 16 n k bs zs := ⟨_, rfl⟩
  obtain ⟨lb, hlb⟩ : ∃ lb, lb = isListB cs n k := ⟨_, rfl⟩
  have hDs : (Tryd.prog.info? 56).map (·.size) = some D.size ∧ (scl 0 0 zbl none 0 0).toArray.size = D.size ∧ D.all (·.oneCell') = true := by
    rw [hD]; unfold eaS
    split
    · exact ⟨size_s56 hb _ _ _, by simp [scl_len zbl_bys, scl_len hb], scl_one⟩
    · exact ⟨size_s56 zbl_bys _ _ _, rfl, scl_one⟩
  have HD := hidd hDs
  rw [← hD, ← hcd] at HEN
  rw [← hlb] at HLI
  have HJ := hidd (fun (W1 : World) (hb1 : Below W0.heap.size W0 W1) =>
    (show Blk (W1.alloc (.cells (scl 0 0 zbl none 0 0).toArray 56)) W1.heap.size (scl 0 0 zbl none 0 0).toArray 56 ∧
        Blk ((W1.alloc (.cells (scl 0 0 zbl none 0 0).toArray 56)).setRow W1.heap.size D) W1.heap.size D 56 ∧
        Blk ((W1.alloc (.cells (scl 0 0 zbl none 0 0).toArray 56)).setRow W1.heap.size D) w.heap.size (ccells n k bs).toArray 28 ∧
        Below w.heap.size w ((W1.alloc (.cells (scl 0 0 zbl none 0 0).toArray 56)).setRow W1.heap.size D) from by
      have k1 := HG.out.1.below hb1 HG.out.1.lt
      have hlt := k1.lt
      have k3 := HG.out.2.trans (hb1.mono HG.out.2.size)
      have k4 : Blk (W1.alloc (.cells (scl 0 0 zbl none 0 0).toArray 56)) W1.heap.size (scl 0 0 zbl none 0 0).toArray 56 := Blk.new _ _ _ _ rfl
      exact ⟨k4, k4.rowSame _, (k1.alloc _).rowOther _ _ (by omega), below_setRow (k3.alloc (by omega) _) (by omega) _⟩))
  have hcode : ieC n k bs zs cs = if cd = 1 then 1 else if lb = true then cd else 2 := by unfold ieC; rw [← hcd, ← hlb]
  clear hDs hs hs2 hE
  by_cases h1 : cd = 1
  · have hc : ieC n k bs zs cs = 1 := by rw [hcode, if_pos h1]
    have hne : (cd != 1) = false := by rw [h1]; rfl
    have hnz : (cd != 0) = true := by rw [h1]; rfl
    rw [ieV_bad hc (by omega), hc]
    clear hc hcode hD hcd hlb
    subst h1
    go_enter Tryd.func16, Tryd.ntmps16
    go_upto_region 1 with fail
    rw [← hW0]
    clear hW0
    go_wp2_with (refine wpList_load_row rfl 28 (.tmp 3) rfl w.heap.size rfl 28 _ (0,0) _ HG.out.1 Tryd.underlying28 rfl HS.out ?_)
    refine (HEN.out _ (HSL.out.below HG.out.2 (Nat.le_refl _)) (HE.out.below HG.out.2 HE.out.lt)).mono ?_
    rintro e w1 ⟨rfl, hb1⟩
    have J := hidd (HJ.out w1 hb1)
    clear hb1
    go_wp2_with (refine wpList_store_row rfl 56 (.tmp 8) (.tmp 14) rfl w1.heap.size _ rfl rfl 56 _ (Blk.new _ _ _ _ rfl) HD.out.1 HD.out.2.1 HD.out.2.2 ?_)
    go_ret2
    exact ⟨rfl, J.out.2.2.2⟩
  · have hne : (cd != 1) = true := by rw [bne_iff_ne]; exact h1
    cases lb with
    | false =>
      have hc : ieC n k bs zs cs = 2 := by rw [hcode, if_neg h1]; rfl
      rw [ieV_bad hc (by omega), hc]
      clear hc hcode hD hcd hlb
      go_enter Tryd.func16, Tryd.ntmps16
      go_upto_region 1 with fail
      rw [← hW0]
      clear hW0
      go_wp2_with (refine wpList_load_row rfl 28 (.tmp 3) rfl w.heap.size rfl 28 _ (0,0) _ HG.out.1 Tryd.underlying28 rfl HS.out ?_)
      refine (HEN.out _ (HSL.out.below HG.out.2 (Nat.le_refl _)) (HE.out.below HG.out.2 HE.out.lt)).mono ?_
      rintro e w1 ⟨rfl, hb1⟩
      have J := hidd (HJ.out w1 hb1)
      clear hb1
      obtain ⟨W4, hW4⟩ : ∃ W4, W4 = (w1.alloc (.cells (scl 0 0 zbl none 0 0).toArray 56)).setRow w1.heap.size D := ⟨_, rfl⟩
      have J3 := hidd J.out.2
      rw [← hW4] at J3
      have c0 := J3.out.2.1.cell HC0.out
      have c1 := J3.out.2.1.cell HC1.out
      go_upto_region 2 with (refine wpList_store_row rfl 56 (.tmp 8) (.tmp 14) rfl w1.heap.size _ rfl rfl 56 _ (Blk.new _ _ _ _ rfl) HD.out.1 HD.out.2.1 HD.out.2.2 ?_)
      rw [← hW4]
      clear hW4
      go_wp2_with (go_at_call 48; refine (HLI.out _ (HSL2.out.below J3.out.2.2 (Nat.le_refl _))).mono ?_; rintro e w' ⟨rfl, rfl⟩)
      go_ret2
      exact ⟨rfl, J3.out.2.2⟩
    | true =>
      by_cases h0 : cd = 0
      · have hc : ieC n k bs zs cs = 0 := by rw [hcode, if_neg h1, if_pos rfl]; exact h0
        have hcd0 : eaC 16 n k bs zs = 0 := hcd.symm.trans h0
        obtain ⟨hlc, hall, hcp, n1, n2, k1, k2⟩ := ie_list hcd0 hlb.symm
        obtain ⟨hsz, hav, _⟩ := eaC_ok hcd0
        obtain ⟨hi, ho⟩ := szCode_ok hsz
        obtain ⟨hlk, hsp⟩ := szOk_bd ho
        obtain ⟨N, rfl⟩ := Int.eq_ofNat_of_zero_le (show 0 ≤ n by omega)
        obtain ⟨K, rfl⟩ := Int.eq_ofNat_of_zero_le (show 0 ≤ k by omega)
        have hlK : zs.length = K := by omega
        have hv : ieV (N : Int) (K : Int) bs zs cs = avP (N + 1) (putK bs (edg (N : Int)).toNat cs cs.length) zs K := by unfold ieV; rw [hc]; rfl
        have hDe : D = (scl (N : Int) (K : Int) bs a K cap).toArray := by rw [hD]; unfold eaS; rw [if_pos hcd0, hlK]
        rw [hv, hc]
        have HWI := hidd (fun W h => with49 (N : Int) (K : Int) bs hb a K cap cs b capb W h hl2 hcp)
        have HAV := hidd (fun W h => avoids50 (N + 1) K (putK bs (edg (N : Int)).toNat cs cs.length) (put_col hb hcp) zs a cap W h hlK (by omega) (by omega) (by omega) (by rw [← hlK]; exact hsp))
        rw [← hDe] at HWI
        rw [show ((N + 1 : Nat) : Int) = (N : Int) + 1 by omega] at HAV
        obtain ⟨v, hve⟩ : ∃ v, v = avP (N + 1) (putK bs (edg (N : Int)).toNat cs cs.length) zs K := ⟨_, rfl⟩
        rw [← hve] at HAV ⊢
        obtain ⟨D2, hD2⟩ : ∃ D2, D2 = (scl ((N : Int) + 1) (K : Int) (putK bs (edg (N : Int)).toNat cs cs.length) a K cap).toArray := ⟨_, rfl⟩
        rw [← hD2] at HWI HAV
        rw [hlK] at HEN
        rw [hlK]
        clear hv hc hcode hD hcd hlb hlc hall hcp hsz hav hi ho hlk hsp hcd0 hl hve hD2 hDe
        subst h0
        go_enter Tryd.func16, Tryd.ntmps16
        go_upto_region 1 with fail
        rw [← hW0]
        clear hW0
        go_wp2_with (refine wpList_load_row rfl 28 (.tmp 3) rfl w.heap.size rfl 28 _ (0,0) _ HG.out.1 Tryd.underlying28 rfl HS.out ?_)
        refine (HEN.out _ (HSL.out.below HG.out.2 (Nat.le_refl _)) (HE.out.below HG.out.2 HE.out.lt)).mono ?_
        rintro e w1 ⟨rfl, hb1⟩
        have J := hidd (HJ.out w1 hb1)
        clear hb1
        obtain ⟨W4, hW4⟩ : ∃ W4, W4 = (w1.alloc (.cells (scl 0 0 zbl none 0 0).toArray 56)).setRow w1.heap.size D := ⟨_, rfl⟩
        have J3 := hidd J.out.2
        rw [← hW4] at J3
        have c0 := J3.out.2.1.cell HC0.out
        have c1 := J3.out.2.1.cell HC1.out
        go_upto_region 2 with (refine wpList_store_row rfl 56 (.tmp 8) (.tmp 14) rfl w1.heap.size _ rfl rfl 56 _ (Blk.new _ _ _ _ rfl) HD.out.1 HD.out.2.1 HD.out.2.2 ?_)
        rw [← hW4]
        clear hW4
        go_wp2_with (first
          | (go_at_call 48; refine (HLI.out _ (HSL2.out.below J3.out.2.2 (Nat.le_refl _))).mono ?_; rintro e w' ⟨rfl, rfl⟩)
          | (refine wpList_load_row rfl 56 (.tmp 8) rfl w1.heap.size rfl 56 _ (0,0) _ J3.out.1 Tryd.underlying56 rfl HD.out.1 ?_))
        refine (HWI.out _ (HSL2.out.below J3.out.2.2 (Nat.le_refl _))).mono ?_
        rintro e w5 ⟨rfl, hb5⟩
        have L := hidd (J3.out.2.2.trans (hb5.mono J3.out.2.2.size))
        clear hb5
        go_wp2_with fail
        refine (HAV.out _ (HSL.out.below L.out (Nat.le_refl _))).mono ?_
        rintro e w6 ⟨rfl, hb6⟩
        have L2 := hidd (L.out.trans (hb6.mono L.out.size))
        clear hb6
        go_wp2_with fail
        go_ret2
        exact ⟨rfl, L2.out⟩
      · have hc : ieC n k bs zs cs = cd := by rw [hcode, if_neg h1, if_pos rfl]
        have hnz : (cd != 0) = true := by rw [bne_iff_ne]; exact h0
        rw [ieV_bad hc h0, hc]
        clear hc hcode hD hcd hlb
        go_enter Tryd.func16, Tryd.ntmps16
        go_upto_region 1 with fail
        rw [← hW0]
        clear hW0
        go_wp2_with (refine wpList_load_row rfl 28 (.tmp 3) rfl w.heap.size rfl 28 _ (0,0) _ HG.out.1 Tryd.underlying28 rfl HS.out ?_)
        refine (HEN.out _ (HSL.out.below HG.out.2 (Nat.le_refl _)) (HE.out.below HG.out.2 HE.out.lt)).mono ?_
        rintro e w1 ⟨rfl, hb1⟩
        have J := hidd (HJ.out w1 hb1)
        clear hb1
        obtain ⟨W4, hW4⟩ : ∃ W4, W4 = (w1.alloc (.cells (scl 0 0 zbl none 0 0).toArray 56)).setRow w1.heap.size D := ⟨_, rfl⟩
        have J3 := hidd J.out.2
        rw [← hW4] at J3
        have c0 := J3.out.2.1.cell HC0.out
        have c1 := J3.out.2.1.cell HC1.out
        go_upto_region 2 with (refine wpList_store_row rfl 56 (.tmp 8) (.tmp 14) rfl w1.heap.size _ rfl rfl 56 _ (Blk.new _ _ _ _ rfl) HD.out.1 HD.out.2.1 HD.out.2.2 ?_)
        rw [← hW4]
        clear hW4
        go_wp2_with (go_at_call 48; refine (HLI.out _ (HSL2.out.below J3.out.2.2 (Nat.le_refl _))).mono ?_; rintro e w' ⟨rfl, rfl⟩)
        go_ret2
        exact ⟨rfl, J3.out.2.2⟩
end Go.Proofs.YtckffliiidgilaaDoor
