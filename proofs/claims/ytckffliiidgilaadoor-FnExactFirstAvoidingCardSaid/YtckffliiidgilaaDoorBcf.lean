/- My texts Iex, Cny, Only, Ebd, Exg, Exh, Rng, Out, Exl, Exs, Exa, in one. -/
import Derived.Test.YtckffliiidgilaaDoorBce
import Derived.Test.YtckffliiidgilaaDoorBcb
import Derived.RangeFuncNested
import Derived.RangeFuncLeaves
import Derived.Deep.RegionHeld2
/- IsExtension: what it answers; the program. -/
namespace Go.Proofs.YtckffliiidgilaaDoor
set_option linter.unusedVariables false
set_option linter.unusedSimpArgs false
open Go Go.RowKit Go.Extern.Stop Go.Stop Go.Extern
def ieC (n k : Int) (bs : List Nat) (zs cs : List Int) : Int := if eaC 16 n k bs zs = 1 then 1 else if isListB cs n k = true then eaC 16 n k bs zs else 2
def ieV (n k : Int) (bs : List Nat) (zs cs : List Int) : Bool := decide (ieC n k bs zs cs = 0) && avP (n.toNat + 1) (putK bs (edg n).toNat cs cs.length) zs k.toNat
theorem ieV_bad {n k : Int} {bs : List Nat} {zs cs : List Int} {m : Int} (h : ieC n k bs zs cs = m) (hm : m ≠ 0) : ieV n k bs zs cs = false := by unfold ieV; rw [h, decide_eq_false hm]; rfl
theorem ie_list {n k : Int} {bs : List Nat} {zs cs : List Int} (h0 : eaC 16 n k bs zs = 0) (hL : isListB cs n k = true) : (cs.length : Int) = n ∧ allB cs k = true ∧ codeP n k bs cs = 0 ∧ 1 ≤ n ∧ n ≤ 16 ∧ 1 ≤ k ∧ k ≤ 4 := by
  obtain ⟨h1, h2, h3⟩ := eaC_ok h0
  obtain ⟨hi, ho⟩ := szCode_ok h1
  obtain ⟨n1, n2, k1, k2⟩ := isCol_bd hi
  unfold isListB at hL
  rw [Bool.and_eq_true] at hL
  have hl := of_decide_eq_true hL.1
  exact ⟨hl, hL.2, codeP_0 hi hl hL.2 (by omega), n1, h3, k1, k2⟩
theorem put_col {n k : Int} {bs : List Nat} {cs : List Int} (hb : Bys bs) (h : codeP n k bs cs = 0) : Bys (putK bs (edg n).toNat cs cs.length) := by
  have := ppB_bys (n := n) (k := k) hb cs; unfold ppB at this; rw [if_pos h] at this; exact this
set_option maxRecDepth 100000 in
set_option maxHeartbeats 4000000 in
theorem impl16 (n k : Int) (bs : List Nat) (hb : Bys bs) (zs : List Int) (a : Option Addr) (cap : Nat) (cs : List Int) (b : Option Addr) (capb : Nat) (e0 : Addr) (w : World) (hs : SlI w a zs) (hl : zs.length ≤ 1048576) (hs2 : SlI w b cs) (hl2 : cs.length ≤ 1048576) (hE : Er w e0) :
    Calls Tryd.prog 16 #[.agg (ccells n k bs).toArray, .slice a zs.length cap, .slice b cs.length capb] w fun e w' => e = .returned (.tuple #[.bool (ieV n k bs zs cs), .int .i64 (ieC n k bs zs cs)]) ∧ Below w.heap.size w w' := by
  have Hz := zero56
  have HS := hidd (size_c26 n k hb)
  have HSL := hidd hs
  have HSL2 := hidd hs2
  have HE := hidd hE
  have HEN := hidd (fun W h hE => ea47 16 n k bs hb zs a cap e0 W h hl hE)
  have HLI := hidd (fun W h => isList46 cs b capb n k W h (by omega))
  have HC0 := hidd (show (ccells n k bs).toArray[0]? = some (.int .i64 n) from rfl)
  have HC1 := hidd (show (ccells n k bs).toArray[1]? = some (.int .i64 k) from rfl)
  have HG := hidd (And.intro (Blk.new w (ccells n k bs).toArray 28 _ rfl) ((Below.refl w.heap.size w).alloc (Nat.le_refl _) (.cells (ccells n k bs).toArray 28)))
  obtain ⟨W0, hW0⟩ : ∃ W0, W0 = w.alloc (.cells (ccells n k bs).toArray 28) := ⟨_, rfl⟩
  rw [← hW0] at HG
  obtain ⟨D, hD⟩ : ∃ D, D = (eaS 16 n k bs zs a cap).toArray := ⟨_, rfl⟩
  obtain ⟨cd, hcd⟩ : ∃ cd, cd = eaC 16 n k bs zs := ⟨_, rfl⟩
  obtain ⟨lb, hlb⟩ : ∃ lb, lb = isListB cs n k := ⟨_, rfl⟩
  have hDs : (Tryd.prog.info? 56).map (·.size) = some D.size ∧ (scl 0 0 zbl none 0 0).toArray.size = D.size ∧ D.all (·.oneCell') = true := by
    rw [hD]; unfold eaS
    split
    · exact ⟨size_s56 hb _ _ _, by simp [scl_len zbl_bys, scl_len hb], scl_one⟩
    · exact ⟨size_s56 zbl_bys _ _ _, rfl, scl_one⟩
  have HD := hidd hDs
  rw [← hD, ← hcd] at HEN
  rw [← hlb] at HLI
  have HJ := hidd (fun (W1 : World) (hb1 : Below W0.heap.size W0 W1) =>
    (show Blk (W1.alloc (.cells (scl 0 0 zbl none 0 0).toArray 56)) W1.heap.size (scl 0 0 zbl none 0 0).toArray 56 ∧
        Blk ((W1.alloc (.cells (scl 0 0 zbl none 0 0).toArray 56)).setRow W1.heap.size D) W1.heap.size D 56 ∧
        Blk ((W1.alloc (.cells (scl 0 0 zbl none 0 0).toArray 56)).setRow W1.heap.size D) w.heap.size (ccells n k bs).toArray 28 ∧
        Below w.heap.size w ((W1.alloc (.cells (scl 0 0 zbl none 0 0).toArray 56)).setRow W1.heap.size D) from by
      have k1 := HG.out.1.below hb1 HG.out.1.lt
      have hlt := k1.lt
      have k3 := HG.out.2.trans (hb1.mono HG.out.2.size)
      have k4 : Blk (W1.alloc (.cells (scl 0 0 zbl none 0 0).toArray 56)) W1.heap.size (scl 0 0 zbl none 0 0).toArray 56 := Blk.new _ _ _ _ rfl
      exact ⟨k4, k4.rowSame _, (k1.alloc _).rowOther _ _ (by omega), below_setRow (k3.alloc (by omega) _) (by omega) _⟩))
  have hcode : ieC n k bs zs cs = if cd = 1 then 1 else if lb = true then cd else 2 := by unfold ieC; rw [← hcd, ← hlb]
  clear hDs hs hs2 hE
  by_cases h1 : cd = 1
  · have hc : ieC n k bs zs cs = 1 := by rw [hcode, if_pos h1]
    have hne : (cd != 1) = false := by rw [h1]; rfl
    have hnz : (cd != 0) = true := by rw [h1]; rfl
    rw [ieV_bad hc (by omega), hc]
    clear hc hcode hD hcd hlb
    subst h1
    go_enter Tryd.func16, Tryd.ntmps16
    go_upto_region 1 with fail
    rw [← hW0]
    clear hW0
    go_wp2_with (refine wpList_load_row rfl 28 (.tmp 3) rfl w.heap.size rfl 28 _ (0,0) _ HG.out.1 Tryd.underlying28 rfl HS.out ?_)
    refine (HEN.out _ (HSL.out.below HG.out.2 (Nat.le_refl _)) (HE.out.below HG.out.2 HE.out.lt)).mono ?_
    rintro e w1 ⟨rfl, hb1⟩
    have J := hidd (HJ.out w1 hb1)
    clear hb1
    go_wp2_with (refine wpList_store_row rfl 56 (.tmp 8) (.tmp 14) rfl w1.heap.size _ rfl rfl 56 _ (Blk.new _ _ _ _ rfl) HD.out.1 HD.out.2.1 HD.out.2.2 ?_)
    go_ret2
    exact ⟨rfl, J.out.2.2.2⟩
  · have hne : (cd != 1) = true := by rw [bne_iff_ne]; exact h1
    cases lb with
    | false =>
      have hc : ieC n k bs zs cs = 2 := by rw [hcode, if_neg h1]; rfl
      rw [ieV_bad hc (by omega), hc]
      clear hc hcode hD hcd hlb
      go_enter Tryd.func16, Tryd.ntmps16
      go_upto_region 1 with fail
      rw [← hW0]
      clear hW0
      go_wp2_with (refine wpList_load_row rfl 28 (.tmp 3) rfl w.heap.size rfl 28 _ (0,0) _ HG.out.1 Tryd.underlying28 rfl HS.out ?_)
      refine (HEN.out _ (HSL.out.below HG.out.2 (Nat.le_refl _)) (HE.out.below HG.out.2 HE.out.lt)).mono ?_
      rintro e w1 ⟨rfl, hb1⟩
      have J := hidd (HJ.out w1 hb1)
      clear hb1
      obtain ⟨W4, hW4⟩ : ∃ W4, W4 = (w1.alloc (.cells (scl 0 0 zbl none 0 0).toArray 56)).setRow w1.heap.size D := ⟨_, rfl⟩
      have J3 := hidd J.out.2
      rw [← hW4] at J3
      have c0 := J3.out.2.1.cell HC0.out
      have c1 := J3.out.2.1.cell HC1.out
      go_upto_region 2 with (refine wpList_store_row rfl 56 (.tmp 8) (.tmp 14) rfl w1.heap.size _ rfl rfl 56 _ (Blk.new _ _ _ _ rfl) HD.out.1 HD.out.2.1 HD.out.2.2 ?_)
      rw [← hW4]
      clear hW4
      go_wp2_with (go_at_call 48; refine (HLI.out _ (HSL2.out.below J3.out.2.2 (Nat.le_refl _))).mono ?_; rintro e w' ⟨rfl, rfl⟩)
      go_ret2
      exact ⟨rfl, J3.out.2.2⟩
    | true =>
      by_cases h0 : cd = 0
      · have hc : ieC n k bs zs cs = 0 := by rw [hcode, if_neg h1, if_pos rfl]; exact h0
        have hcd0 : eaC 16 n k bs zs = 0 := hcd.symm.trans h0
        obtain ⟨hlc, hall, hcp, n1, n2, k1, k2⟩ := ie_list hcd0 hlb.symm
        obtain ⟨hsz, hav, _⟩ := eaC_ok hcd0
        obtain ⟨hi, ho⟩ := szCode_ok hsz
        obtain ⟨hlk, hsp⟩ := szOk_bd ho
        obtain ⟨N, rfl⟩ := Int.eq_ofNat_of_zero_le (show 0 ≤ n by omega)
        obtain ⟨K, rfl⟩ := Int.eq_ofNat_of_zero_le (show 0 ≤ k by omega)
        have hlK : zs.length = K := by omega
        have hv : ieV (N : Int) (K : Int) bs zs cs = avP (N + 1) (putK bs (edg (N : Int)).toNat cs cs.length) zs K := by unfold ieV; rw [hc]; rfl
        have hDe : D = (scl (N : Int) (K : Int) bs a K cap).toArray := by rw [hD]; unfold eaS; rw [if_pos hcd0, hlK]
        rw [hv, hc]
        have HWI := hidd (fun W h => with49 (N : Int) (K : Int) bs hb a K cap cs b capb W h hl2 hcp)
        have HAV := hidd (fun W h => avoids50 (N + 1) K (putK bs (edg (N : Int)).toNat cs cs.length) (put_col hb hcp) zs a cap W h hlK (by omega) (by omega) (by omega) (by rw [← hlK]; exact hsp))
        rw [← hDe] at HWI
        rw [show ((N + 1 : Nat) : Int) = (N : Int) + 1 by omega] at HAV
        obtain ⟨v, hve⟩ : ∃ v, v = avP (N + 1) (putK bs (edg (N : Int)).toNat cs cs.length) zs K := ⟨_, rfl⟩
        rw [← hve] at HAV ⊢
        obtain ⟨D2, hD2⟩ : ∃ D2, D2 = (scl ((N : Int) + 1) (K : Int) (putK bs (edg (N : Int)).toNat cs cs.length) a K cap).toArray := ⟨_, rfl⟩
        rw [← hD2] at HWI HAV
        rw [hlK] at HEN
        rw [hlK]
        clear hv hc hcode hD hcd hlb hlc hall hcp hsz hav hi ho hlk hsp hcd0 hl hve hD2 hDe
        subst h0
        go_enter Tryd.func16, Tryd.ntmps16
        go_upto_region 1 with fail
        rw [← hW0]
        clear hW0
        go_wp2_with (refine wpList_load_row rfl 28 (.tmp 3) rfl w.heap.size rfl 28 _ (0,0) _ HG.out.1 Tryd.underlying28 rfl HS.out ?_)
        refine (HEN.out _ (HSL.out.below HG.out.2 (Nat.le_refl _)) (HE.out.below HG.out.2 HE.out.lt)).mono ?_
        rintro e w1 ⟨rfl, hb1⟩
        have J := hidd (HJ.out w1 hb1)
        clear hb1
        obtain ⟨W4, hW4⟩ : ∃ W4, W4 = (w1.alloc (.cells (scl 0 0 zbl none 0 0).toArray 56)).setRow w1.heap.size D := ⟨_, rfl⟩
        have J3 := hidd J.out.2
        rw [← hW4] at J3
        have c0 := J3.out.2.1.cell HC0.out
        have c1 := J3.out.2.1.cell HC1.out
        go_upto_region 2 with (refine wpList_store_row rfl 56 (.tmp 8) (.tmp 14) rfl w1.heap.size _ rfl rfl 56 _ (Blk.new _ _ _ _ rfl) HD.out.1 HD.out.2.1 HD.out.2.2 ?_)
        rw [← hW4]
        clear hW4
        go_wp2_with (first
          | (go_at_call 48; refine (HLI.out _ (HSL2.out.below J3.out.2.2 (Nat.le_refl _))).mono ?_; rintro e w' ⟨rfl, rfl⟩)
          | (refine wpList_load_row rfl 56 (.tmp 8) rfl w1.heap.size rfl 56 _ (0,0) _ J3.out.1 Tryd.underlying56 rfl HD.out.1 ?_))
        refine (HWI.out _ (HSL2.out.below J3.out.2.2 (Nat.le_refl _))).mono ?_
        rintro e w5 ⟨rfl, hb5⟩
        have L := hidd (J3.out.2.2.trans (hb5.mono J3.out.2.2.size))
        clear hb5
        go_wp2_with fail
        refine (HAV.out _ (HSL.out.below L.out (Nat.le_refl _))).mono ?_
        rintro e w6 ⟨rfl, hb6⟩
        have L2 := hidd (L.out.trans (hb6.mono L.out.size))
        clear hb6
        go_wp2_with fail
        go_ret2
        exact ⟨rfl, L2.out⟩
      · have hc : ieC n k bs zs cs = cd := by rw [hcode, if_neg h1, if_pos rfl]
        have hnz : (cd != 0) = true := by rw [bne_iff_ne]; exact h0
        rw [ieV_bad hc h0, hc]
        clear hc hcode hD hcd hlb
        go_enter Tryd.func16, Tryd.ntmps16
        go_upto_region 1 with fail
        rw [← hW0]
        clear hW0
        go_wp2_with (refine wpList_load_row rfl 28 (.tmp 3) rfl w.heap.size rfl 28 _ (0,0) _ HG.out.1 Tryd.underlying28 rfl HS.out ?_)
        refine (HEN.out _ (HSL.out.below HG.out.2 (Nat.le_refl _)) (HE.out.below HG.out.2 HE.out.lt)).mono ?_
        rintro e w1 ⟨rfl, hb1⟩
        have J := hidd (HJ.out w1 hb1)
        clear hb1
        obtain ⟨W4, hW4⟩ : ∃ W4, W4 = (w1.alloc (.cells (scl 0 0 zbl none 0 0).toArray 56)).setRow w1.heap.size D := ⟨_, rfl⟩
        have J3 := hidd J.out.2
        rw [← hW4] at J3
        have c0 := J3.out.2.1.cell HC0.out
        have c1 := J3.out.2.1.cell HC1.out
        go_upto_region 2 with (refine wpList_store_row rfl 56 (.tmp 8) (.tmp 14) rfl w1.heap.size _ rfl rfl 56 _ (Blk.new _ _ _ _ rfl) HD.out.1 HD.out.2.1 HD.out.2.2 ?_)
        rw [← hW4]
        clear hW4
        go_wp2_with (go_at_call 48; refine (HLI.out _ (HSL2.out.below J3.out.2.2 (Nat.le_refl _))).mono ?_; rintro e w' ⟨rfl, rfl⟩)
        go_ret2
        exact ⟨rfl, J3.out.2.2⟩
end Go.Proofs.YtckffliiidgilaaDoor
/- l05Given, l05Small and the model of CountExtensions. -/
namespace Go.Proofs.YtckffliiidgilaaDoor
set_option linter.unusedVariables false
set_option linter.unusedSimpArgs false
open Go Go.RowKit Go.Shelf
set_option maxRecDepth 100000 in
set_option maxHeartbeats 4000000 in
theorem given67 (n k : Int) (bs : List Nat) (hb : Bys bs) (zs : List Int) (a : Option Addr) (cap : Nat) (w : World) (hs : SlI w a zs) (hl : zs.length ≤ 1048576) :
    Calls Tryd.prog 67 #[.agg (ccells n k bs).toArray, .slice a zs.length cap] w fun e w' => e = .returned (.int .i64 (eaC 17 n k bs zs)) ∧ Below w.heap.size w w' := by
  have HS := hidd (size_c26 n k hb)
  have HSL := hidd hs
  have HCO := hidd (fun W h => code42 n k bs hb zs a cap W h hl)
  have HG := hidd (And.intro (Blk.new w (ccells n k bs).toArray 28 _ rfl) ((Below.refl w.heap.size w).alloc (Nat.le_refl _) (.cells (ccells n k bs).toArray 28)))
  obtain ⟨W0, hW0⟩ : ∃ W0, W0 = w.alloc (.cells (ccells n k bs).toArray 28) := ⟨_, rfl⟩
  rw [← hW0] at HG
  by_cases hc0 : szCode n k bs zs = 0
  · obtain ⟨hi, ho⟩ := szCode_ok hc0
    obtain ⟨n1, n2, k1, k2⟩ := isCol_bd hi
    obtain ⟨hlk, hsp⟩ := szOk_bd ho
    obtain ⟨N, rfl⟩ := Int.eq_ofNat_of_zero_le (show 0 ≤ n by omega)
    obtain ⟨K, rfl⟩ := Int.eq_ofNat_of_zero_le (show 0 ≤ k by omega)
    have hlK : zs.length = K := by omega
    have HAV := hidd (fun W h => avoids44 N K bs hb zs a cap W h hlK (by omega) (by omega) (by omega) (by rw [← hlK]; exact hsp))
    rw [hc0] at HCO
    cases hav : avP N bs zs K with
    | false =>
      have hea : eaC 17 (N : Int) (K : Int) bs zs = 5 := eaC_5 hc0 hav
      rw [hea]
      have HV := hidd hav
      rw [hlK] at HCO ⊢
      clear hs hc0 hi ho hlk hsp hea hav hlK hl
      go_enter Tryd.func67, Tryd.ntmps67
      go_upto_region 1 with fail
      rw [← hW0]
      clear hW0
      go_wp2_with (refine wpList_load_row rfl 28 (.tmp 2) rfl w.heap.size rfl 28 _ (0,0) _ HG.out.1 Tryd.underlying28 rfl HS.out ?_)
      refine (HCO.out _ (HSL.out.below HG.out.2 (Nat.le_refl _))).mono ?_
      rintro e w1 ⟨rfl, hb1⟩
      have g1 := HG.out.1.below hb1 HG.out.1.lt
      have G := hidd (And.intro (HG.out.2.trans (hb1.mono HG.out.2.size)) g1)
      clear hb1 g1
      go_wp2_with (first
        | (refine wpList_load_if rfl 28 (.tmp 2) rfl w.heap.size rfl 28 _ _ G.out.2 Tryd.underlying28 rfl HS.out ?_)
        | (go_at_call 44; refine (HAV.out _ (HSL.out.below G.out.1 (Nat.le_refl _))).mono ?_; rintro e w2 ⟨rfl, hb2⟩; rw [HV.out]))
      go_ret
      exact ⟨rfl, G.out.1.trans (hb2.mono G.out.1.size)⟩
    | true =>
      have hea : eaC 17 (N : Int) (K : Int) bs zs = 0 := eaC_0 hc0 hav (by omega)
      rw [hea]
      have HV := hidd hav
      rw [hlK] at HCO ⊢
      clear hs hc0 hi ho hlk hsp hea hav hlK hl
      go_enter Tryd.func67, Tryd.ntmps67
      go_upto_region 1 with fail
      rw [← hW0]
      clear hW0
      go_wp2_with (refine wpList_load_row rfl 28 (.tmp 2) rfl w.heap.size rfl 28 _ (0,0) _ HG.out.1 Tryd.underlying28 rfl HS.out ?_)
      refine (HCO.out _ (HSL.out.below HG.out.2 (Nat.le_refl _))).mono ?_
      rintro e w1 ⟨rfl, hb1⟩
      have g1 := HG.out.1.below hb1 HG.out.1.lt
      have G := hidd (And.intro (HG.out.2.trans (hb1.mono HG.out.2.size)) g1)
      clear hb1 g1
      go_wp2_with (first
        | (refine wpList_load_if rfl 28 (.tmp 2) rfl w.heap.size rfl 28 _ _ G.out.2 Tryd.underlying28 rfl HS.out ?_)
        | (go_at_call 44; refine (HAV.out _ (HSL.out.below G.out.1 (Nat.le_refl _))).mono ?_; rintro e w2 ⟨rfl, hb2⟩; rw [HV.out]))
      go_ret
      exact ⟨rfl, G.out.1.trans (hb2.mono G.out.1.size)⟩
  · have hea := eaC_bad (lim := 17) hc0
    rw [hea]
    obtain ⟨cd, hcd⟩ : ∃ cd, cd = szCode n k bs zs := ⟨_, rfl⟩
    rw [← hcd] at HCO hc0 ⊢
    have hz : (cd == 0) = false := by rw [beq_eq_false_iff_ne]; exact hc0
    clear hs hea hcd hc0
    go_enter Tryd.func67, Tryd.ntmps67
    go_upto_region 1 with fail
    rw [← hW0]
    clear hW0
    go_wp2_with (refine wpList_load_row rfl 28 (.tmp 2) rfl w.heap.size rfl 28 _ (0,0) _ HG.out.1 Tryd.underlying28 rfl HS.out ?_)
    refine (HCO.out _ (HSL.out.below HG.out.2 (Nat.le_refl _))).mono ?_
    rintro e w1 ⟨rfl, hb1⟩
    have G := hidd (HG.out.2.trans (hb1.mono HG.out.2.size))
    clear hb1
    go_wp2_with fail
    go_ret
    exact ⟨rfl, G.out⟩
theorem eaC_17 {n k : Int} {bs : List Nat} {zs : List Int} : eaC 12 n k bs zs = if eaC 17 n k bs zs = 0 then (if (12 : Int) < n then 3 else 0) else eaC 17 n k bs zs := by
  by_cases h : szCode n k bs zs = 0
  · obtain ⟨hi, ho⟩ := szCode_ok h
    obtain ⟨n1, n2, k1, k2⟩ := isCol_bd hi
    cases hav : avP n.toNat bs zs k.toNat with
    | false => rw [eaC_5 h hav, eaC_5 h hav]; rfl
    | true =>
      rw [eaC_0 (lim := 17) h hav (by omega), if_pos rfl]
      by_cases h3 : (12 : Int) < n
      · rw [eaC_3 h hav h3, if_pos h3]
      · rw [eaC_0 h hav h3, if_neg h3]
  · rw [eaC_bad h, eaC_bad h, if_neg h]
set_option maxRecDepth 100000 in
set_option maxHeartbeats 4000000 in
theorem small51 (n k : Int) (bs : List Nat) (hb : Bys bs) (zs : List Int) (a : Option Addr) (cap : Nat) (w : World) (hs : SlI w a zs) (hl : zs.length ≤ 1048576) :
    Calls Tryd.prog 51 #[.agg (ccells n k bs).toArray, .slice a zs.length cap] w fun e w' => e = .returned (.int .i64 (eaC 12 n k bs zs)) ∧ Below w.heap.size w w' := by
  have HS := hidd (size_c26 n k hb)
  have HSL := hidd hs
  have HC0 := hidd (show (ccells n k bs).toArray[0]? = some (.int .i64 n) from rfl)
  have HCO := hidd (fun W h => given67 n k bs hb zs a cap W h hl)
  have HG := hidd (And.intro (Blk.new w (ccells n k bs).toArray 28 _ rfl) ((Below.refl w.heap.size w).alloc (Nat.le_refl _) (.cells (ccells n k bs).toArray 28)))
  obtain ⟨W0, hW0⟩ : ∃ W0, W0 = w.alloc (.cells (ccells n k bs).toArray 28) := ⟨_, rfl⟩
  rw [← hW0] at HG
  rw [eaC_17]
  obtain ⟨cd, hcd⟩ : ∃ cd, cd = eaC 17 n k bs zs := ⟨_, rfl⟩
  rw [← hcd] at HCO ⊢
  by_cases h0 : cd = 0
  · rw [if_pos h0]
    by_cases h12 : (12 : Int) < n
    · rw [if_pos h12]
      have hgt : decide (n > 12) = true := decide_eq_true h12
      have hgt2 : decide (12 < n) = true := decide_eq_true h12
      subst h0
      clear hs hcd hl
      go_enter Tryd.func51, Tryd.ntmps51
      go_upto_region 1 with fail
      rw [← hW0]
      clear hW0
      go_wp2_with (refine wpList_load_row rfl 28 (.tmp 2) rfl w.heap.size rfl 28 _ (0,0) _ HG.out.1 Tryd.underlying28 rfl HS.out ?_)
      refine (HCO.out _ (HSL.out.below HG.out.2 (Nat.le_refl _))).mono ?_
      rintro e w1 ⟨rfl, hb1⟩
      have c0 := (HG.out.1.below hb1 HG.out.1.lt).cell HC0.out
      have G := hidd (HG.out.2.trans (hb1.mono HG.out.2.size))
      clear hb1
      go_wp2_with fail
      go_ret
      exact ⟨rfl, G.out⟩
    · rw [if_neg h12]
      have hgt : decide (n > 12) = false := decide_eq_false h12
      have hgt2 : decide (12 < n) = false := decide_eq_false h12
      subst h0
      clear hs hcd hl
      go_enter Tryd.func51, Tryd.ntmps51
      go_upto_region 1 with fail
      rw [← hW0]
      clear hW0
      go_wp2_with (refine wpList_load_row rfl 28 (.tmp 2) rfl w.heap.size rfl 28 _ (0,0) _ HG.out.1 Tryd.underlying28 rfl HS.out ?_)
      refine (HCO.out _ (HSL.out.below HG.out.2 (Nat.le_refl _))).mono ?_
      rintro e w1 ⟨rfl, hb1⟩
      have c0 := (HG.out.1.below hb1 HG.out.1.lt).cell HC0.out
      have G := hidd (HG.out.2.trans (hb1.mono HG.out.2.size))
      clear hb1
      go_wp2_with fail
      go_ret
      exact ⟨rfl, G.out⟩
  · rw [if_neg h0]
    have hz : (cd == 0) = false := by rw [beq_eq_false_iff_ne]; exact h0
    clear hs hcd hl
    go_enter Tryd.func51, Tryd.ntmps51
    go_upto_region 1 with fail
    rw [← hW0]
    clear hW0
    go_wp2_with (refine wpList_load_row rfl 28 (.tmp 2) rfl w.heap.size rfl 28 _ (0,0) _ HG.out.1 Tryd.underlying28 rfl HS.out ?_)
    refine (HCO.out _ (HSL.out.below HG.out.2 (Nat.le_refl _))).mono ?_
    rintro e w1 ⟨rfl, hb1⟩
    have G := hidd (HG.out.2.trans (hb1.mono HG.out.2.size))
    clear hb1
    go_wp2_with fail
    go_ret
    exact ⟨rfl, G.out⟩
set_option maxRecDepth 100000 in
set_option maxHeartbeats 4000000 in
theorem spec18 (n k : Int) (bs : List Nat) (hb : Bys bs) (zs : List Int) (a : Option Addr) (cap : Nat) (w : World) (hs : SlI w a zs) (hl : zs.length ≤ 1048576) :
    Calls Tryd.prog 18 #[.agg (ccells n k bs).toArray, .slice a zs.length cap] w fun e w' => e = .returned (.tuple #[.int .i64 (ceV n k bs zs), .int .i64 (eaC 12 n k bs zs)]) ∧ Below w.heap.size w w' := by
  have HS := hidd (size_c26 n k hb)
  have HSL := hidd hs
  have HCO := hidd (fun W h => small51 n k bs hb zs a cap W h hl)
  have HG := hidd (And.intro (Blk.new w (ccells n k bs).toArray 28 _ rfl) ((Below.refl w.heap.size w).alloc (Nat.le_refl _) (.cells (ccells n k bs).toArray 28)))
  obtain ⟨W0, hW0⟩ : ∃ W0, W0 = w.alloc (.cells (ccells n k bs).toArray 28) := ⟨_, rfl⟩
  rw [← hW0] at HG
  by_cases h0 : eaC 12 n k bs zs = 0
  · obtain ⟨hsz, hav, hn12⟩ := eaC_ok h0
    obtain ⟨hi, ho⟩ := szCode_ok hsz
    obtain ⟨n1, n2, k1, k2⟩ := isCol_bd hi
    obtain ⟨hlk, hsp⟩ := szOk_bd ho
    obtain ⟨N, rfl⟩ := Int.eq_ofNat_of_zero_le (show 0 ≤ n by omega)
    obtain ⟨K, rfl⟩ := Int.eq_ofNat_of_zero_le (show 0 ≤ k by omega)
    have hlK : zs.length = K := by omega
    rw [hlK] at hsp
    have hv : ceV (N : Int) (K : Int) bs zs = (cnS bs N K zs (N + 1) : Int) := by unfold ceV; rw [if_pos h0]; rfl
    have HCN := hidd (fun W h => deg52 N K bs hb zs a cap hlK (by omega) (by omega) (by omega) (by omega) (no1_of_av (by omega) hsp hav) hsp W h)
    rw [hv, h0]
    rw [h0, hlK] at HCO
    rw [hlK]
    obtain ⟨D, hD⟩ : ∃ D, D = N + 1 := ⟨_, rfl⟩
    have hD13 : D ≤ 13 := by omega
    obtain ⟨c, hc⟩ : ∃ c : Nat → Nat, c = fun d => pdN bs N K zs d (2 ^ N) := ⟨_, rfl⟩
    obtain ⟨s, hse⟩ : ∃ s : Nat → Nat, s = cnS bs N K zs := ⟨_, rfl⟩
    have HST := hidd (fun j => (show s (j + 1) = s j + c j by rw [hse, hc]; exact cnS_step _ _ _ _ _))
    have HBD := hidd (fun j (hj : j ≤ 13) => (show s j ≤ 3659174697238528 by rw [hse]; exact cnS_bd (by omega) (by omega) (by omega) hj))
    have HS0 := hidd (show s 0 = 0 by rw [hse]; rfl)
    rw [show cdL bs N K zs = dgL (N + 1) c by rw [hc]; rfl, ← hD] at HCN
    rw [← hse, ← hD]
    clear hv hsz hav hi ho hlk hsp h0 hl hs hc hse hD
    go_enter Tryd.func18, Tryd.ntmps18
    go_upto_region 1 with fail
    rw [← hW0]
    clear hW0
    go_wp2_with (refine wpList_load_row rfl 28 (.tmp 2) rfl w.heap.size rfl 28 _ (0,0) _ HG.out.1 Tryd.underlying28 rfl HS.out ?_)
    refine (HCO.out _ (HSL.out.below HG.out.2 (Nat.le_refl _))).mono ?_
    rintro e w1 ⟨rfl, hb1⟩
    have G1 := hidd (And.intro (HG.out.1.below hb1 HG.out.1.lt) (HG.out.2.trans (hb1.mono HG.out.2.size)))
    clear hb1
    go_wp2_with (refine wpList_load_row rfl 28 (.tmp 2) rfl w.heap.size rfl 28 _ (0,0) _ G1.out.1 Tryd.underlying28 rfl HS.out ?_)
    refine (HCN.out _ (HSL.out.below G1.out.2 (Nat.le_refl _))).mono ?_
    rintro r w2 ⟨g, rfl, hg, kg, hb2⟩
    have G2 := hidd (And.intro kg (G1.out.2.trans (hb2.mono G1.out.2.size)))
    clear hb2 kg
    go_wp2_with fail
    go_loopw [8, 9] (fun v e wr => ∃ j : Nat, j ≤ D ∧ v = .int .i64 (s j : Int) ∧ e = .int .i64 (j : Int) ∧ w2 = wr) (fun _ e _ => D - (intOf e).toNat)
    case atStart => exact ⟨0, Nat.zero_le _, by rw [HS0.out]; rfl, rfl, rfl⟩
    case round =>
    obtain ⟨j, hj, rfl, rfl, hww⟩ := hrel
    obtain rfl : w2 = wr := hww
    by_cases hlt : j < D
    · have hltI : decide ((j : Int) < (D : Int)) = true := by simp; omega
      have cj := dg_cell G2.out.1 hlt
      have h1 := HBD.out j (by omega)
      have h2 := HBD.out (j + 1) (by omega)
      have h3 := HST.out j
      obtain ⟨x, hx⟩ : ∃ x, x = c j := ⟨_, rfl⟩
      obtain ⟨y, hy⟩ : ∃ y, y = s j := ⟨_, rfl⟩
      rw [← hx, ← hy] at h3
      rw [← hx] at cj
      rw [← hy] at h1 ⊢
      have hsum : IntKind.i64.wrap ((y : Int) + (x : Int)) = (y : Int) + (x : Int) := IntWalk.i64_in _ (by omega)
      have hsum2 : wrap64 ((y : Int) + (x : Int)) = (y : Int) + (x : Int) := IntWalk.wrap64_in _ ⟨by omega, by omega⟩
      have H3 := hidd h3
      clear hx hy h3 h1 h2
      go_wp2_with fail
      go_roundw
      case rel => exact ⟨j + 1, by omega, by rw [H3.out]; go_num, by go_num, trivial⟩
      case measure => simp [intOf]; omega
    · have hltI : decide ((j : Int) < (D : Int)) = false := by simp; omega
      have hje : j = D := by omega
      subst hje
      go_wp2_with fail
      go_ret2
      exact ⟨rfl, G2.out.2⟩
  · rw [ceV_bad h0]
    obtain ⟨cd, hcd⟩ : ∃ cd, cd = eaC 12 n k bs zs := ⟨_, rfl⟩
    rw [← hcd] at HCO h0 ⊢
    have hz : (cd != 0) = true := by rw [bne_iff_ne]; exact h0
    clear hs hcd hl h0
    go_enter Tryd.func18, Tryd.ntmps18
    go_upto_region 1 with fail
    rw [← hW0]
    clear hW0
    go_wp2_with (refine wpList_load_row rfl 28 (.tmp 2) rfl w.heap.size rfl 28 _ (0,0) _ HG.out.1 Tryd.underlying28 rfl HS.out ?_)
    refine (HCO.out _ (HSL.out.below HG.out.2 (Nat.le_refl _))).mono ?_
    rintro e w1 ⟨rfl, hb1⟩
    have G := hidd (HG.out.2.trans (hb1.mono HG.out.2.size))
    clear hb1
    go_wp2_with fail
    go_ret2
    exact ⟨rfl, G.out⟩
end Go.Proofs.YtckffliiidgilaaDoor
/- Marks laid into a list. -/
/- Marks laid into a list: no other block turns. -/
namespace Go.Proofs.YtckffliiidgilaaDoor
set_option linter.unusedVariables false
set_option linter.unusedSimpArgs false
open Go Go.RowKit
/-- Nothing has turned but the block at which a list lies. -/
def Only (a : Option Addr) (w w' : World) : Prop := (∀ B, B ≤ w.heap.size → (∀ p, a = some p → B ≤ p.block) → Below B w w') ∧ ∀ b, (∀ p, a = some p → b ≠ p.block) → w'.heap[b]? = w.heap[b]?
theorem Only.refl (a : Option Addr) (w : World) : Only a w w := ⟨fun B h _ => Below.refl _ _, fun _ _ => rfl⟩
theorem Only.blk {a : Option Addr} {w w' : World} (h : Only a w w') {b : Nat} {C : Array Value} {t : TypeId} (hb : Blk w b C t) (hne : ∀ p, a = some p → b ≠ p.block) : Blk w' b C t := by
  unfold Blk at *
  rw [h.2 b hne]; exact hb
theorem Only.own {a : Option Addr} {w w' : World} (h : Only a w w') {B : Nat} {a2 : Option Addr} {zs : List Int} (ho : OwnL w B a2 zs) (hne : ∀ p q, a = some p → a2 = some q → q.block ≠ p.block) : OwnL w' B a2 zs := by
  rcases ho with ho | ⟨g, C, h1, h2, h3, h4⟩
  · exact .inl ho
  · exact .inr ⟨g, C, h1, h2, h.blk h3 (fun p hp => hne p _ hp h2), h4⟩
/-- The same of a list that may be empty. -/
def MkOnly (zs : List Int) (a : Option Addr) (w w' : World) : Prop := (zs ≠ [] → Only a w w') ∧ (zs = [] → w = w')
theorem MkOnly.below {zs : List Int} {a : Option Addr} {w w' : World} (h : MkOnly zs a w w') {B : Nat} (ho : OwnL w B a zs) (hB : B ≤ w.heap.size) : Below B w w' := by
  by_cases e : zs = []
  · rw [← h.2 e]; exact Below.refl _ _
  · refine (h.1 e).1 B hB ?_
    rcases ho with ho | ⟨g, C, h1, h2, _⟩
    · exact absurd ho e
    · intro p hp; rw [h2] at hp; cases hp; exact h1
theorem MkOnly.own {zs : List Int} {a : Option Addr} {w w' : World} (h : MkOnly zs a w w') {B : Nat} {a2 : Option Addr} {zs2 : List Int} (ho : OwnL w B a2 zs2) (hne : zs ≠ [] → zs2 ≠ [] → ∀ p q, a = some p → a2 = some q → q.block ≠ p.block) : OwnL w' B a2 zs2 := by
  by_cases e : zs = []
  · rw [← h.2 e]; exact ho
  · by_cases e2 : zs2 = []
    · exact .inl e2
    · exact (h.1 e).own ho (hne e e2)
theorem MkOnly.blk {zs : List Int} {a : Option Addr} {w w' : World} (h : MkOnly zs a w w') {b : Nat} {C : Array Value} {t : TypeId} (hb : Blk w b C t) (hne : zs ≠ [] → ∀ p, a = some p → b ≠ p.block) : Blk w' b C t := by
  by_cases e : zs = []
  · rw [← h.2 e]; exact hb
  · exact (h.1 e).blk hb (hne e)
theorem MkOnly.size {zs : List Int} {a : Option Addr} {w w' : World} (h : MkOnly zs a w w') {B : Nat} (ho : OwnL w B a zs) (hB : B ≤ w.heap.size) : w.heap.size ≤ w'.heap.size := (h.below ho hB).size
def RelM2 (C : Array Value) (k : Int) (g : Nat) (w : World) (j : Nat) (D : Array Value) (wr : World) : Prop :=
  Blk wr g D 2 ∧ D.size = C.size ∧ (∀ m, m < j → D[m]? = some (.int .i64 (k + (m : Int)))) ∧ Below g w wr ∧ ∀ b, b ≠ g → wr.heap[b]? = w.heap[b]?
set_option maxRecDepth 100000 in
set_option maxHeartbeats 400000 in
theorem mark29o (n : Nat) (a : Option Addr) (cap : Nat) (B : Nat) (k : Int) (zs : List Int) (w : World) (hz : zs.length = n) (h : OwnL w B a zs) (hn : n ≤ 1048576) (hk0 : 0 ≤ k) (hk1 : k ≤ 1048576) :
    Calls Tryd.prog 22 #[.slice a n cap, .int .i64 k] w fun e w' => e = .returned (.int .i64 (k + n)) ∧ OwnL w' B a (marks k n) ∧ MkOnly zs a w w' := by
  rcases h with h | ⟨g, C, h1, h2, h3, h4, h5⟩
  · subst h
    simp at hz
    subst hz
    go_enter Tryd.func22, Tryd.ntmps22
    go_wp2
    refine wp_loop_rounds 1 ?_
    rw [rounds_succ]
    go_wp2
    go_ret
    exact ⟨by simp, .inl rfl, fun h => absurd rfl h, fun _ => rfl⟩
  · subst h2
    rw [hz] at h4
    have HNZ := hidd (show zs = [] → n = 0 from fun e => by rw [← hz, e]; rfl)
    clear h5 hz
    have hk := h3.lt
    go_enter Tryd.func22, Tryd.ntmps22
    go_wp2_with fail
    go_loopw [1, 5] (fun kk i wr => ∃ j : Nat, j ≤ n ∧ i = .int .i64 j ∧ kk = .int .i64 (k + j) ∧ Hid ((∃ D, RelM2 C k g w j D wr) ∧ (j = 0 → w = wr))) (fun _ i _ => n - (intOf i).toNat)
    case atStart => exact ⟨0, by omega, rfl, by simp, ⟨C, h3, rfl, fun m hm => absurd hm (by omega), Below.refl _ _, fun _ _ => rfl⟩, fun _ => rfl⟩
    case round =>
      obtain ⟨j, hj, rfl, rfl, HD⟩ := hrel
      obtain ⟨D, HR0⟩ := HD.out.1
      have HJ := hidd HD.out.2
      have HR := hidd HR0
      clear HD HR0
      by_cases hlt : j < n
      · obtain ⟨old, ho⟩ : ∃ old, wr.cell? ⟨g, j, none⟩ = some old := ⟨_, HR.out.1.cell (Array.getElem?_eq_getElem (by rw [HR.out.2.1]; omega))⟩
        have hf := HR.out.1.fro j
        have K := hidd (show RelM2 C k g w (j + 1) (D.setIfInBounds j (.int .i64 (k + (j : Int)))) (wr.setCell ⟨g, j, none⟩ (.int .i64 (k + (j : Int)))) from
          ⟨HR.out.1.same _ _, by simp [HR.out.2.1], fun m hm => by
            rw [Array.getElem?_setIfInBounds]
            by_cases e : j = m
            · subst e; rw [if_pos rfl, if_pos (by rw [HR.out.2.1]; omega)]
            · rw [if_neg e]; exact HR.out.2.2.1 m (by omega), HR.out.2.2.2.1.setCell (Nat.le_refl _) _, fun b hb => (heap_setCell_other wr ⟨g, j, none⟩ b _ hb).trans (HR.out.2.2.2.2 b hb)⟩)
        clear HR
        go_wp2_with fail
        go_roundw
        case rel => exact ⟨j + 1, by omega, by go_num, by congr 1; omega, ⟨_, K.out⟩, fun e => by omega⟩
        case measure => simp [intOf]; omega
      · have hje : j = n := by omega
        subst hje
        go_wp2_with fail
        go_ret
        exact ⟨rfl, .inr ⟨g, D, h1, rfl, HR.out.1, by rw [marks_len, HR.out.2.1]; exact h4, fun m hm => by
          rw [marks_len] at hm
          rw [HR.out.2.2.1 m hm, marks_get hm]⟩, fun _ => ⟨fun B' _ hB' => HR.out.2.2.2.1.mono (hB' _ rfl), fun b hb => HR.out.2.2.2.2 b (hb _ rfl)⟩, fun e => HJ.out (HNZ.out e)⟩
theorem OwnL.ge {w : World} {B : Nat} {a : Option Addr} {zs : List Int} (h : OwnL w B a zs) (h0 : zs ≠ []) : ∀ p, a = some p → B ≤ p.block := by
  rcases h with h | ⟨g, C, h1, h2, _⟩
  · exact absurd h h0
  · intro p hp; rw [h2] at hp; cases hp; exact h1
theorem OwnL.bas {w : World} {B B' : Nat} {a : Option Addr} {zs : List Int} (h : OwnL w B a zs) (hB : B' ≤ B) : OwnL w B' a zs := by
  rcases h with h | ⟨g, C, h1, h2⟩
  · exact .inl h
  · exact .inr ⟨g, C, by omega, h2⟩
theorem own_blk0 {w : World} {b : Nat} {zs : List Int} {B : Nat} (h : Blk w b (icells zs).toArray 2) (hB : B ≤ b) : OwnL w B (some ⟨b, 0, none⟩) zs :=
  .inr ⟨b, _, hB, rfl, h, by simp [icells_len], fun j hj => icells_get hj⟩
theorem OwnL.lt {w : World} {B : Nat} {a : Option Addr} {zs : List Int} (h : OwnL w B a zs) (h0 : zs ≠ []) : ∀ p, a = some p → p.block < w.heap.size := by
  rcases h with h | ⟨g, C, h1, h2, h3, _⟩
  · exact absurd h h0
  · intro p hp; rw [h2] at hp; cases hp; exact h3.lt
theorem own_of_blk {w : World} {b B : Nat} {zs : List Int} (h : Blk w b (icells zs).toArray 2) (hB : B ≤ b) : OwnL w B (some ⟨b, 0, none⟩) zs :=
  .inr ⟨b, _, hB, rfl, h, by simp [icells], fun j hj => icells_get hj⟩
end Go.Proofs.YtckffliiidgilaaDoor
/- ExtensionsByDegree: the program and its model. -/
namespace Go.Proofs.YtckffliiidgilaaDoor
set_option linter.unusedVariables false
set_option linter.unusedSimpArgs false
open Go Go.RowKit Go.Extern.Stop Go.Stop Go.Extern
def edL (n k : Int) (bs : List Nat) (zs : List Int) : List Int := if eaC 12 n k bs zs = 0 then cdL bs n.toNat k.toNat zs else []
theorem edL_bad {n k : Int} {bs : List Nat} {zs : List Int} (h : eaC 12 n k bs zs ≠ 0) : edL n k bs zs = [] := by unfold edL; rw [if_neg h]
theorem edL_len {n k : Int} {bs : List Nat} {zs : List Int} : (edL n k bs zs).length ≤ 17 := by
  by_cases h : eaC 12 n k bs zs = 0
  · have h2 := eaC_ok h
    unfold edL; rw [if_pos h]; unfold cdL; rw [dgL_len]; omega
  · rw [edL_bad h]; simp
set_option maxRecDepth 100000 in
set_option maxHeartbeats 4000000 in
theorem impl30 (n k : Int) (bs : List Nat) (hb : Bys bs) (zs : List Int) (a : Option Addr) (cap : Nat) (e0 : Addr) (w : World) (hs : SlI w a zs) (hl : zs.length ≤ 1048576) (hE : Er w e0) :
    Calls Tryd.prog 30 #[.agg (ccells n k bs).toArray, .slice a zs.length cap] w fun e w' => LOut w (edL n k bs zs) (eaC 12 n k bs zs) e w' := by
  have Hz := zero56
  have HS := hidd (size_c26 n k hb)
  have HSL := hidd hs
  have HE := hidd hE
  have HEN := hidd (fun W h hE => ea47 12 n k bs hb zs a cap e0 W h hl hE)
  have HG := hidd (And.intro (Blk.new w (ccells n k bs).toArray 28 _ rfl) ((Below.refl w.heap.size w).alloc (Nat.le_refl _) (.cells (ccells n k bs).toArray 28)))
  obtain ⟨W0, hW0⟩ : ∃ W0, W0 = w.alloc (.cells (ccells n k bs).toArray 28) := ⟨_, rfl⟩
  rw [← hW0] at HG
  obtain ⟨D, hD⟩ : ∃ D, D = (eaS 12 n k bs zs a cap).toArray := ⟨_, rfl⟩
  obtain ⟨cd, hcd⟩ : ∃ cd, cd = eaC 12 n k bs zs := ⟨_, rfl⟩
  have hDs : (Tryd.prog.info? 56).map (·.size) = some D.size ∧ (scl 0 0 zbl none 0 0).toArray.size = D.size ∧ D.all (·.oneCell') = true := by
    rw [hD]; unfold eaS
    split
    · exact ⟨size_s56 hb _ _ _, by simp [scl_len zbl_bys, scl_len hb], scl_one⟩
    · exact ⟨size_s56 zbl_bys _ _ _, rfl, scl_one⟩
  have HD := hidd hDs
  rw [← hD, ← hcd] at HEN
  have HJ := hidd (fun (W1 : World) (hb1 : Below W0.heap.size W0 W1) =>
    (show Blk (W1.alloc (.cells (scl 0 0 zbl none 0 0).toArray 56)) W1.heap.size (scl 0 0 zbl none 0 0).toArray 56 ∧
        Blk ((W1.alloc (.cells (scl 0 0 zbl none 0 0).toArray 56)).setRow W1.heap.size D) W1.heap.size D 56 ∧
        Blk ((W1.alloc (.cells (scl 0 0 zbl none 0 0).toArray 56)).setRow W1.heap.size D) w.heap.size (ccells n k bs).toArray 28 ∧
        Below w.heap.size w ((W1.alloc (.cells (scl 0 0 zbl none 0 0).toArray 56)).setRow W1.heap.size D) from by
      have k1 := HG.out.1.below hb1 HG.out.1.lt
      have hlt := k1.lt
      have k3 := HG.out.2.trans (hb1.mono HG.out.2.size)
      have k4 : Blk (W1.alloc (.cells (scl 0 0 zbl none 0 0).toArray 56)) W1.heap.size (scl 0 0 zbl none 0 0).toArray 56 := Blk.new _ _ _ _ rfl
      exact ⟨k4, k4.rowSame _, (k1.alloc _).rowOther _ _ (by omega), below_setRow (k3.alloc (by omega) _) (by omega) _⟩))
  clear hDs hs hE
  by_cases h0 : cd = 0
  · have hcd0 : eaC 12 n k bs zs = 0 := hcd.symm.trans h0
    obtain ⟨hsz, hav, hn12⟩ := eaC_ok hcd0
    obtain ⟨hi, ho⟩ := szCode_ok hsz
    obtain ⟨n1, n2, k1, k2⟩ := isCol_bd hi
    obtain ⟨hlk, hsp⟩ := szOk_bd ho
    obtain ⟨N, rfl⟩ := Int.eq_ofNat_of_zero_le (show 0 ≤ n by omega)
    obtain ⟨K, rfl⟩ := Int.eq_ofNat_of_zero_le (show 0 ≤ k by omega)
    have hlK : zs.length = K := by omega
    rw [hlK] at hsp
    have hv : edL (N : Int) (K : Int) bs zs = cdL bs N K zs := by unfold edL; rw [if_pos hcd0]; rfl
    have hDe : D = (scl (N : Int) (K : Int) bs a K cap).toArray := by rw [hD]; unfold eaS; rw [if_pos hcd0, hlK]
    have HCN := hidd (fun W h => cbd57 N K bs hb zs a cap hlK (by omega) (by omega) (by omega) (by omega) (no1_of_av (by omega) hsp hav) hsp W h)
    rw [← hDe] at HCN
    rw [hv, ← hcd]
    rw [hlK] at HEN
    rw [hlK]
    obtain ⟨V, hV⟩ : ∃ V, V = cdL bs N K zs := ⟨_, rfl⟩
    have HVL := hidd (show V.length = N + 1 by rw [hV]; unfold cdL; exact dgL_len _ _)
    rw [← hV] at HCN ⊢
    clear hv hD hcd hsz hav hi ho hlk hsp hcd0 hl hDe hV
    subst h0
    go_enter Tryd.func30, Tryd.ntmps30
    go_upto_region 1 with fail
    rw [← hW0]
    clear hW0
    go_wp2_with (refine wpList_load_row rfl 28 (.tmp 2) rfl w.heap.size rfl 28 _ (0,0) _ HG.out.1 Tryd.underlying28 rfl HS.out ?_)
    refine (HEN.out _ (HSL.out.below HG.out.2 (Nat.le_refl _)) (HE.out.below HG.out.2 HE.out.lt)).mono ?_
    rintro e w1 ⟨rfl, hb1⟩
    have J := hidd (HJ.out w1 hb1)
    clear hb1
    obtain ⟨W4, hW4⟩ : ∃ W4, W4 = (w1.alloc (.cells (scl 0 0 zbl none 0 0).toArray 56)).setRow w1.heap.size D := ⟨_, rfl⟩
    have J3 := hidd J.out.2
    rw [← hW4] at J3
    go_upto_region 2 with (refine wpList_store_row rfl 56 (.tmp 6) (.tmp 12) rfl w1.heap.size _ rfl rfl 56 _ (Blk.new _ _ _ _ rfl) HD.out.1 HD.out.2.1 HD.out.2.2 ?_)
    rw [← hW4]
    clear hW4
    go_wp2_with (refine wpList_load_row rfl 56 (.tmp 6) rfl w1.heap.size rfl 56 _ (0,0) _ J3.out.1 Tryd.underlying56 rfl HD.out.1 ?_)
    refine (HCN.out _ (HSL.out.below J3.out.2.2 (Nat.le_refl _))).mono ?_
    rintro e w5 ⟨g, rfl, hg, kg, hb5⟩
    have J5 := hidd (And.intro (J3.out.2.2.trans (hb5.mono J3.out.2.2.size)) (own_of_blk kg (Nat.le_trans J3.out.2.2.size hg)))
    clear hb5 kg hg
    go_wp2_with fail
    go_ret2
    exact ⟨_, _, by rw [HVL.out]; rfl, J5.out.2, J5.out.1⟩
  · have hne : (cd != 0) = true := by rw [bne_iff_ne]; exact h0
    rw [edL_bad (by rw [← hcd]; exact h0), ← hcd]
    clear hD hcd
    go_enter Tryd.func30, Tryd.ntmps30
    go_upto_region 1 with fail
    rw [← hW0]
    clear hW0
    go_wp2_with (refine wpList_load_row rfl 28 (.tmp 2) rfl w.heap.size rfl 28 _ (0,0) _ HG.out.1 Tryd.underlying28 rfl HS.out ?_)
    refine (HEN.out _ (HSL.out.below HG.out.2 (Nat.le_refl _)) (HE.out.below HG.out.2 HE.out.lt)).mono ?_
    rintro e w1 ⟨rfl, hb1⟩
    have J := hidd (HJ.out w1 hb1)
    clear hb1
    go_wp2_with (refine wpList_store_row rfl 56 (.tmp 6) (.tmp 12) rfl w1.heap.size _ rfl rfl 56 _ (Blk.new _ _ _ _ rfl) HD.out.1 HD.out.2.1 HD.out.2.2 ?_)
    go_ret2
    exact lout_nil rfl J.out.2.2.2
set_option maxRecDepth 100000 in
set_option maxHeartbeats 4000000 in
theorem spec29 (n k : Int) (bs : List Nat) (hb : Bys bs) (zs : List Int) (a : Option Addr) (cap : Nat) (w : World) (hs : SlI w a zs) (hl : zs.length ≤ 1048576) :
    Calls Tryd.prog 29 #[.agg (ccells n k bs).toArray, .slice a zs.length cap] w fun e w' => LOut w (edL n k bs zs) (eaC 12 n k bs zs) e w' := by
  have HS := hidd (size_c26 n k hb)
  have HSL := hidd hs
  have HCO := hidd (fun W h => small51 n k bs hb zs a cap W h hl)
  have HG := hidd (And.intro (Blk.new w (ccells n k bs).toArray 28 _ rfl) ((Below.refl w.heap.size w).alloc (Nat.le_refl _) (.cells (ccells n k bs).toArray 28)))
  obtain ⟨W0, hW0⟩ : ∃ W0, W0 = w.alloc (.cells (ccells n k bs).toArray 28) := ⟨_, rfl⟩
  rw [← hW0] at HG
  by_cases h0 : eaC 12 n k bs zs = 0
  · obtain ⟨hsz, hav, hn12⟩ := eaC_ok h0
    obtain ⟨hi, ho⟩ := szCode_ok hsz
    obtain ⟨n1, n2, k1, k2⟩ := isCol_bd hi
    obtain ⟨hlk, hsp⟩ := szOk_bd ho
    obtain ⟨N, rfl⟩ := Int.eq_ofNat_of_zero_le (show 0 ≤ n by omega)
    obtain ⟨K, rfl⟩ := Int.eq_ofNat_of_zero_le (show 0 ≤ k by omega)
    have hlK : zs.length = K := by omega
    rw [hlK] at hsp
    have hv : edL (N : Int) (K : Int) bs zs = cdL bs N K zs := by unfold edL; rw [if_pos h0]; rfl
    have HCN := hidd (fun W h => deg52 N K bs hb zs a cap hlK (by omega) (by omega) (by omega) (by omega) (no1_of_av (by omega) hsp hav) hsp W h)
    rw [hv, h0]
    rw [h0, hlK] at HCO
    rw [hlK]
    obtain ⟨V, hV⟩ : ∃ V, V = cdL bs N K zs := ⟨_, rfl⟩
    have HVL := hidd (show V.length = N + 1 by rw [hV]; unfold cdL; exact dgL_len _ _)
    rw [← hV] at HCN ⊢
    clear hv hsz hav hi ho hlk hsp h0 hl hs hV
    go_enter Tryd.func29, Tryd.ntmps29
    go_upto_region 1 with fail
    rw [← hW0]
    clear hW0
    go_wp2_with (refine wpList_load_row rfl 28 (.tmp 2) rfl w.heap.size rfl 28 _ (0,0) _ HG.out.1 Tryd.underlying28 rfl HS.out ?_)
    refine (HCO.out _ (HSL.out.below HG.out.2 (Nat.le_refl _))).mono ?_
    rintro e w1 ⟨rfl, hb1⟩
    have G1 := hidd (And.intro (HG.out.1.below hb1 HG.out.1.lt) (HG.out.2.trans (hb1.mono HG.out.2.size)))
    clear hb1
    go_wp2_with (refine wpList_load_row rfl 28 (.tmp 2) rfl w.heap.size rfl 28 _ (0,0) _ G1.out.1 Tryd.underlying28 rfl HS.out ?_)
    refine (HCN.out _ (HSL.out.below G1.out.2 (Nat.le_refl _))).mono ?_
    rintro r w2 ⟨g, rfl, hg, kg, hb2⟩
    have G2 := hidd (And.intro (own_of_blk kg (Nat.le_trans G1.out.2.size hg)) (G1.out.2.trans (hb2.mono G1.out.2.size)))
    clear hb2 kg hg
    go_wp2_with fail
    go_ret2
    exact ⟨_, _, by rw [HVL.out]; rfl, G2.out.1, G2.out.2⟩
  · rw [edL_bad h0]
    obtain ⟨cd, hcd⟩ : ∃ cd, cd = eaC 12 n k bs zs := ⟨_, rfl⟩
    rw [← hcd] at HCO h0 ⊢
    have hz : (cd != 0) = true := by rw [bne_iff_ne]; exact h0
    clear hs hcd hl h0
    go_enter Tryd.func29, Tryd.ntmps29
    go_upto_region 1 with fail
    rw [← hW0]
    clear hW0
    go_wp2_with (refine wpList_load_row rfl 28 (.tmp 2) rfl w.heap.size rfl 28 _ (0,0) _ HG.out.1 Tryd.underlying28 rfl HS.out ?_)
    refine (HCO.out _ (HSL.out.below HG.out.2 (Nat.le_refl _))).mono ?_
    rintro e w1 ⟨rfl, hb1⟩
    have G := hidd (HG.out.2.trans (hb1.mono HG.out.2.size))
    clear hb1
    go_wp2_with fail
    go_ret2
    exact lout_nil rfl G.out
end Go.Proofs.YtckffliiidgilaaDoor
/- The extensions' function: its own memory. -/
namespace Go.Proofs.YtckffliiidgilaaDoor
set_option linter.unusedVariables false
set_option linter.unusedSimpArgs false
open Go Go.RowKit Go.Shelf
/-- The free sets' slices that have been laid. -/
def fcel (gf : Nat → Nat) (Y j : Nat) : List Value := (List.range 4).map fun c => if c < j then .slice (some ⟨gf c, 0, none⟩) Y Y else .slice none 0 0
def tcel (s : Nat → Nat) : List Value := (List.range 4).map fun c => .int .u32 (s c : Int)
theorem fcel_get {gf : Nat → Nat} {Y j i : Nat} (h : i < 4) : (fcel gf Y j).toArray[i]? = some (if i < j then .slice (some ⟨gf i, 0, none⟩) Y Y else .slice none 0 0) := by simp [fcel, h]
theorem tcel_get {s : Nat → Nat} {i : Nat} (h : i < 4) : (tcel s).toArray[i]? = some (.int .u32 (s i : Int)) := by simp [tcel, h]
theorem tcel_set {s : Nat → Nat} {c v : Nat} (h : c < 4) : (tcel s).toArray.setIfInBounds c (.int .u32 (v : Int)) = (tcel (setF s c v)).toArray := by
  apply Array.ext_getElem?
  intro i
  rw [Array.getElem?_setIfInBounds]
  by_cases hi : i < 4
  · rw [tcel_get hi, tcel_get hi]
    by_cases e : c = i
    · subst e; rw [if_pos rfl, if_pos (by simp [tcel]; exact h), setF_same]
    · rw [if_neg e, setF_ne _ _ (fun x => e x.symm)]
  · rw [if_neg (by omega), Array.getElem?_eq_none (by simp [tcel]; omega), Array.getElem?_eq_none (by simp [tcel]; omega)]
theorem fcel_set {gf : Nat → Nat} {Y c g : Nat} (h : c < 4) : (fcel gf Y c).toArray.setIfInBounds c (.slice (some ⟨g, 0, none⟩) Y Y) = (fcel (setF gf c g) Y (c + 1)).toArray := by
  apply Array.ext_getElem?
  intro i
  rw [Array.getElem?_setIfInBounds]
  by_cases hi : i < 4
  · rw [fcel_get hi, fcel_get hi]
    by_cases e : c = i
    · subst e; rw [if_pos rfl, if_pos (by simp [fcel]; exact h), if_pos (by omega), setF_same]
    · rw [if_neg e, setF_ne _ _ (fun x => e x.symm)]
      by_cases h2 : i < c
      · rw [if_pos h2, if_pos (by omega)]
      · rw [if_neg h2, if_neg (by omega)]
  · rw [if_neg (by omega), Array.getElem?_eq_none (by simp [fcel]; omega), Array.getElem?_eq_none (by simp [fcel]; omega)]
theorem info102 : (Tryd.prog.info? 102).map (fun i => (i.zero, i.size)) = some (some (.agg (fcel (fun _ => 0) 0 0).toArray), 4) := by kernel_rfl
theorem zero102 : ∀ w, (zeroValue 102).run Tryd.prog w = .ok (.agg (fcel (fun _ => 0) 0 0).toArray) w := (zero_of_info info102).1
theorem info103 : (Tryd.prog.info? 103).map (fun i => (i.zero, i.size)) = some (some (.agg (tcel fun _ => 0).toArray), 4) := by kernel_rfl
theorem zero103 : ∀ w, (zeroValue 103).run Tryd.prog w = .ok (.agg (tcel fun _ => 0).toArray) w := (zero_of_info info103).1
/-- The memory of the search, as it lies: s the points by colour, cs the colours that are given. -/
structure RelX (N K Y B bx : Nat) (C : Array Value) (fr : Nat → Nat → Bool) (J : List (List Int) → World → Prop) (D : Nat) (gf : Nat → Nat) (pre : List (List Int)) (s : Nat → Nat) (cs : List Int) (wr : World) : Prop where
  j : J pre wr
  x : Blk wr bx C 56
  f : Blk wr B (fcel gf Y K).toArray 102
  fs : ∀ c, c < K → Blk wr (gf c) (bcl (fr c) Y Y).toArray 4 ∧ B + 3 ≤ gf c ∧ gf c < D
  t : Blk wr (B + 1) (tcel s).toArray 103
  cl : ∃ cl : List Int, cl.length = N ∧ Blk wr (B + 2) (icells cl).toArray 2 ∧ ∀ i, i < cs.length → cl.getD i 0 = cs.getD i 0
  sz : D ≤ wr.heap.size
  hd : B + 3 ≤ D
  hx : bx < B
section
variable {N K Y B bx : Nat} {C : Array Value} {fr : Nat → Nat → Bool} {J : List (List Int) → World → Prop} {D : Nat} {gf : Nat → Nat} {pre : List (List Int)} {s : Nat → Nat} {cs : List Int} {wr : World}
theorem RelX.below {W : World} (h : RelX N K Y B bx C fr J D gf pre s cs wr) (hJ : StabD B D J) (hb : Below wr.heap.size wr W) : RelX N K Y B bx C fr J D gf pre s cs W := by
  obtain ⟨cl, h1, h2, h3⟩ := h.cl
  exact ⟨hJ _ _ _ h.j (Away.of_below hb), h.x.below hb h.x.lt, h.f.below hb h.f.lt, fun c hc => ⟨(h.fs c hc).1.below hb (h.fs c hc).1.lt, (h.fs c hc).2⟩, h.t.below hb h.t.lt, ⟨cl, h1, h2.below hb h2.lt, h3⟩, Nat.le_trans h.sz hb.size, h.hd, h.hx⟩
/-- Behind a round that leaves the memory alone. -/
theorem RelX.kept {W : World} {pre' : List (List Int)} {bl : Nat} (h : RelX N K Y B bx C fr J D gf pre s cs wr) (hk : KxD [bx, bl] B D wr W) (hj : J pre' W) : RelX N K Y B bx C fr J D gf pre' s cs W := by
  obtain ⟨cl, h1, h2, h3⟩ := h.cl
  have hd := h.hd
  exact ⟨hj, (hk.2 _ h.x.lt (.inr (by simp))).trans h.x, (hk.2 _ h.f.lt (.inl ⟨Nat.le_refl _, by omega⟩)).trans h.f, fun c hc => ⟨(hk.2 _ (h.fs c hc).1.lt (.inl ⟨by have := (h.fs c hc).2.1; omega, (h.fs c hc).2.2⟩)).trans (h.fs c hc).1, (h.fs c hc).2⟩,
    (hk.2 _ h.t.lt (.inl ⟨by omega, by omega⟩)).trans h.t, ⟨cl, h1, (hk.2 _ h2.lt (.inl ⟨by omega, by omega⟩)).trans h2, h3⟩, Nat.le_trans h.sz hk.1, h.hd, h.hx⟩
theorem RelX.setT {c v : Nat} (h : RelX N K Y B bx C fr J D gf pre s cs wr) (hJ : StabD B D J) (hc : c < 4) : RelX N K Y B bx C fr J D gf pre (setF s c v) cs (wr.setCell ⟨B + 1, c, none⟩ (.int .u32 (v : Int))) := by
  obtain ⟨cl, h1, h2, h3⟩ := h.cl
  have hd := h.hd
  have hx := h.hx
  exact ⟨hJ _ _ _ h.j (Away.set _ _ (by show B ≤ B + 1; omega) (by show B + 1 < D; omega)), h.x.other _ _ (by show bx ≠ B + 1; omega), h.f.other _ _ (by show B ≠ B + 1; omega), fun c hc => ⟨(h.fs c hc).1.other _ _ (by show gf c ≠ B + 1; have := (h.fs c hc).2.1; omega), (h.fs c hc).2⟩,
    by have := h.t.same c (.int .u32 (v : Int)); rwa [tcel_set hc] at this, ⟨cl, h1, h2.other _ _ (by show B + 2 ≠ B + 1; omega), h3⟩, by simpa [World.setCell] using h.sz, h.hd, h.hx⟩
theorem RelX.setC {x : Int} (h : RelX N K Y B bx C fr J D gf pre s cs wr) (hJ : StabD B D J) (hc : cs.length < N) : RelX N K Y B bx C fr J D gf pre s (cs ++ [x]) (wr.setCell ⟨B + 2, cs.length, none⟩ (.int .i64 x)) := by
  obtain ⟨cl, h1, h2, h3⟩ := h.cl
  have hd := h.hd
  have hx := h.hx
  refine ⟨hJ _ _ _ h.j (Away.set _ _ (by show B ≤ B + 2; omega) (by show B + 2 < D; omega)), h.x.other _ _ (by show bx ≠ B + 2; omega), h.f.other _ _ (by show B ≠ B + 2; omega), fun c hc => ⟨(h.fs c hc).1.other _ _ (by show gf c ≠ B + 2; have := (h.fs c hc).2.1; omega), (h.fs c hc).2⟩,
    h.t.other _ _ (by show B + 1 ≠ B + 2; omega), ⟨cl.set cs.length x, by simpa using h1, ?_, fun i hi => ?_⟩, by simpa [World.setCell] using h.sz, h.hd, h.hx⟩
  · have := h2.same cs.length (.int .i64 x); rwa [icells_put] at this
  · rw [List.length_append] at hi
    by_cases e : i = cs.length
    · subst e
      simp [List.getD, List.getElem?_set, h1, hc]
    · have hi2 : i < cs.length := by simp at hi; omega
      have h4 := h3 i hi2
      simp only [List.getD, List.getElem?_set, if_neg (fun x => e (Eq.symm x)), List.getElem?_append_left hi2] at h4 ⊢
      exact h4
theorem RelX.drop {x : Int} (h : RelX N K Y B bx C fr J D gf pre s (cs ++ [x]) wr) : RelX N K Y B bx C fr J D gf pre s cs wr := by
  obtain ⟨cl, h1, h2, h3⟩ := h.cl
  refine ⟨h.j, h.x, h.f, h.fs, h.t, ⟨cl, h1, h2, fun i hi => ?_⟩, h.sz, h.hd, h.hx⟩
  rw [h3 i (by simp; omega)]
  simp [List.getD, List.getElem?_append_left hi]
theorem RelX.full (h : RelX N K Y B bx C fr J D gf pre s cs wr) (hc : cs.length = N) : Blk wr (B + 2) (icells cs).toArray 2 := by
  obtain ⟨cl, h1, h2, h3⟩ := h.cl
  have e : cl = cs := by
    apply List.ext_getElem?
    intro i
    by_cases hi : i < N
    · have := h3 i (by omega)
      simp only [List.getD] at this
      rw [List.getElem?_eq_getElem (by omega), List.getElem?_eq_getElem (by omega)] at this ⊢
      simpa using this
    · rw [List.getElem?_eq_none (by omega), List.getElem?_eq_none (by omega)]
  rw [← e]; exact h2
theorem RelX.last {x : Int} (h : RelX N K Y B bx C fr J D gf pre s (cs ++ [x]) wr) (hc : cs.length < N) : wr.cell? ⟨B + 2, cs.length, none⟩ = some (.int .i64 x) := by
  obtain ⟨cl, h1, h2, h3⟩ := h.cl
  have h4 := h3 cs.length (by simp)
  rw [show (cs ++ [x]).getD cs.length 0 = x by simp [List.getD]] at h4
  have h5 := h2.cell (icells_get (zs := cl) (j := cs.length) (by omega))
  rw [h4] at h5
  exact h5
end
theorem muO_end {K N c c0 : Nat} {ds : List Nat} (hc : c0 ≤ c) : muO K N false ds c ≤ muO K N true ds c0 := by
  unfold muO
  have h1 : xvO K N ds c0 ≤ xvO K N ds c := by unfold xvO; exact Nat.mul_le_mul_right _ (by omega)
  have h2 : ((K + 1) ^ (N + 1) - xvO K N ds c) * (N + 1) ≤ ((K + 1) ^ (N + 1) - xvO K N ds c0) * (N + 1) := Nat.mul_le_mul_right _ (by omega)
  simp only [if_true]
  simp
  omega
/-- What is told of a jump forward. -/
def JF (all : List (List Int)) (N K Y B bx l : Nat) (C : Array Value) (fr : Nat → Nat → Bool) (J : Nat → List (List Int) → World → Prop) (i : List Nat × Nat) (a : Act) (w : World) : Prop :=
  ∃ (D : Nat) (gf : Nat → Nat) (pre : List (List Int)) (u2 u8 u9 u10 u11 u12 u13 u14 u15 u16 u17 u18 u19 u20 u21 u22 u23 u24 u25 u26 u27 u28 u29 u30 u31 u32 u33 u34 u35 u36 u37 u38 u39 u40 u41 u42 u43 u44 u45 u46 u47 u48 u49 u50 u51 u52 u53 u54 u55 u56 u57 u58 u59 u60 u61 u62 u63 u64 u65 u66 u67 u68 u69 u70 u71 u72 u73 u74 u75 u76 u77 u78 u79 u80 u81 : Value), a = { tmps := #[.func (.yield l) #[] #[], .pointer (some ⟨bx, 0, none⟩), u2, .pointer (some ⟨B, 0, none⟩), .pointer (some ⟨B + 1, 0, none⟩), .slice (some ⟨B + 2, 0, none⟩) N N, .int .i64 (i.1.length : Int), .int .i64 (i.2 : Int), u8, u9, u10, u11, u12, u13, u14, u15, u16, u17, u18, u19, u20, u21, u22, u23, u24, u25, u26, u27, u28, u29, u30, u31, u32, u33, u34, u35, u36, u37, u38, u39, u40, u41, u42, u43, u44, u45, u46, u47, u48, u49, u50, u51, u52, u53, u54, u55, u56, u57, u58, u59, u60, u61, u62, u63, u64, u65, u66, u67, u68, u69, u70, u71, u72, u73, u74, u75, u76, u77, u78, u79, u80, u81], defers := [] } ∧ Hid (i.1.length ≤ N ∧ (∀ d ∈ i.1, d < K) ∧ i.2 ≤ K ∧ all = pre ++ exR (okf fr) K N i.1 i.2 ∧ RelX N K Y B bx C fr (J D) D gf pre (stO i.1) (colI i.1) w)
/-- .. and back. -/
def JB (all : List (List Int)) (N K Y B bx l : Nat) (C : Array Value) (fr : Nat → Nat → Bool) (J : Nat → List (List Int) → World → Prop) (i : List Nat × Nat) (a : Act) (w : World) : Prop :=
  ∃ (D : Nat) (gf : Nat → Nat) (pre : List (List Int)) (u7 u2 u8 u9 u10 u11 u12 u13 u14 u15 u16 u17 u18 u19 u20 u21 u22 u23 u24 u25 u26 u27 u28 u29 u30 u31 u32 u33 u34 u35 u36 u37 u38 u39 u40 u41 u42 u43 u44 u45 u46 u47 u48 u49 u50 u51 u52 u53 u54 u55 u56 u57 u58 u59 u60 u61 u62 u63 u64 u65 u66 u67 u68 u69 u70 u71 u72 u73 u74 u75 u76 u77 u78 u79 u80 u81 : Value), a = { tmps := #[.func (.yield l) #[] #[], .pointer (some ⟨bx, 0, none⟩), u2, .pointer (some ⟨B, 0, none⟩), .pointer (some ⟨B + 1, 0, none⟩), .slice (some ⟨B + 2, 0, none⟩) N N, .int .i64 (i.1.length : Int), u7, u8, u9, u10, u11, u12, u13, u14, u15, u16, u17, u18, u19, u20, u21, u22, u23, u24, u25, u26, u27, u28, u29, u30, u31, u32, u33, u34, u35, u36, u37, u38, u39, u40, u41, u42, u43, u44, u45, u46, u47, u48, u49, u50, u51, u52, u53, u54, u55, u56, u57, u58, u59, u60, u61, u62, u63, u64, u65, u66, u67, u68, u69, u70, u71, u72, u73, u74, u75, u76, u77, u78, u79, u80, u81], defers := [] } ∧ Hid (i.1.length ≤ N ∧ (∀ d ∈ i.1, d < K) ∧ i.2 ≤ K ∧ all = pre ++ exB (okf fr) K N i.1 ∧ RelX N K Y B bx C fr (J D) D gf pre (stO i.1) (colI i.1) w)
/-- An extension, handed out in the search's own memory. -/
def EncX (N : Nat) (x : List Int) (B D : Nat) (W : World) (args : Array Value) : Prop := ∃ g : Nat, args = #[.slice (some ⟨g, 0, none⟩) N N] ∧ B ≤ g ∧ g < D ∧ Blk W g (icells x).toArray 2
end Go.Proofs.YtckffliiidgilaaDoor
/- The extensions' function: its walk. -/
namespace Go.Proofs.YtckffliiidgilaaDoor
set_option linter.unusedVariables false
set_option linter.unusedSimpArgs false
open Go Go.RowKit Go.Shelf
attribute [local go_sem] Oper.semAt_some
theorem lets_wide (m : Nat) {P : Program} : Lets Fence.wide m P := ⟨fun _ => trivial, fun h => (by cases h), fun f args w R h => callsIn_wide.2 h⟩
/-- While the free sets are laid. -/
structure RelW (K Y B bx N : Nat) (C : Array Value) (fr : Nat → Nat → Bool) (W : World) (gf : Nat → Nat) (c : Nat) (wr : World) : Prop where
  b : Below W.heap.size W wr
  x : Blk wr bx C 56
  f : Blk wr B (fcel gf Y c).toArray 102
  fs : ∀ c', c' < c → Blk wr (gf c') (bcl (fr c') Y Y).toArray 4 ∧ B + 3 ≤ gf c'
  t : Blk wr (B + 1) (tcel fun _ => 0).toArray 103
  cl : Blk wr (B + 2) (icells (List.replicate N 0)).toArray 2
theorem RelW.go {K Y B bx N : Nat} {C : Array Value} {fr : Nat → Nat → Bool} {W : World} {gf : Nat → Nat} {c g : Nat} {wr w1 : World} (h : RelW K Y B bx N C fr W gf c wr) (hb : Below wr.heap.size wr w1) (hg : Blk w1 g (bcl (fr c) Y Y).toArray 4) (hg2 : wr.heap.size ≤ g) (hB : B = W.heap.size) (hbx : bx < B) (hc : c < 4) :
    RelW K Y B bx N C fr W (setF gf c g) (c + 1) (w1.setCell ⟨B, c, none⟩ (.slice (some ⟨g, 0, none⟩) Y Y)) := by
  have hl := h.cl.lt
  refine ⟨(h.b.trans (hb.mono h.b.size)).setCell (by show W.heap.size ≤ B; omega) _, (h.x.below hb h.x.lt).other _ _ (by show bx ≠ B; omega), ?_, fun c' hc' => ?_, (h.t.below hb h.t.lt).other _ _ (by show B + 1 ≠ B; omega), (h.cl.below hb h.cl.lt).other _ _ (by show B + 2 ≠ B; omega)⟩
  · have h1 := (h.f.below hb h.f.lt).same c (.slice (some ⟨g, 0, none⟩) Y Y)
    rwa [fcel_set hc] at h1
  · by_cases e : c' = c
    · subst e; rw [setF_same]
      exact ⟨hg.other _ _ (by show g ≠ B; omega), by omega⟩
    · rw [setF_ne _ _ e]
      obtain ⟨h1, h2⟩ := h.fs c' (by omega)
      exact ⟨(h1.below hb h1.lt).other _ _ (by show gf c' ≠ B; omega), h2⟩
theorem RelW.done {K Y B bx N : Nat} {C : Array Value} {fr : Nat → Nat → Bool} {W : World} {gf : Nat → Nat} {wr : World} {J : Nat → List (List Int) → World → Prop} (h : RelW K Y B bx N C fr W gf K wr) (hB : B = W.heap.size) (hbx : bx < B) (hJ : ∀ D, StabD W.heap.size D (J D)) (h0 : ∀ D, J D [] W) :
    RelX N K Y B bx C fr (J wr.heap.size) wr.heap.size gf [] (stO []) (colI []) wr := by
  have hl := h.cl.lt
  refine ⟨hJ _ _ _ _ (h0 _) (Away.of_below h.b), h.x, h.f, fun c hc => ⟨(h.fs c hc).1, (h.fs c hc).2, (h.fs c hc).1.lt⟩, h.t, ⟨List.replicate N 0, by simp, h.cl, fun i hi => by simp [colI] at hi⟩, Nat.le_refl _, by omega, hbx⟩
theorem icells_rep (N : Nat) : zrow N = (icells (List.replicate N 0)).toArray := zrow_icells N
section
variable {N K Y B bx : Nat} {C : Array Value} {fr : Nat → Nat → Bool} {J : List (List Int) → World → Prop} {D : Nat} {gf : Nat → Nat} {pre : List (List Int)} {s : Nat → Nat} {cs : List Int} {wr : World}
theorem RelX.drew (h : RelX N K Y B bx C fr J D gf pre s cs wr) (hJ : StabD B D J) : RelX N K Y B bx C fr J D gf pre s cs wr.drew := h.below hJ (below_drewN (Below.refl _ _) 1)
theorem RelX.cT {c : Nat} (h : RelX N K Y B bx C fr J D gf pre s cs wr) (hc : c < 4) : wr.cell? ⟨B + 1, c, none⟩ = some (.int .u32 (s c : Int)) := h.t.cell (tcel_get hc)
theorem RelX.cF {c : Nat} (h : RelX N K Y B bx C fr J D gf pre s cs wr) (hc : c < K) (hK : K ≤ 4) : wr.cell? ⟨B, c, none⟩ = some (.slice (some ⟨gf c, 0, none⟩) Y Y) := by
  have := h.f.cell (fcel_get (gf := gf) (Y := Y) (j := K) (i := c) (by omega))
  rwa [if_pos hc] at this
theorem RelX.cE {c X : Nat} (h : RelX N K Y B bx C fr J D gf pre s cs wr) (hc : c < K) (hX : X < Y) : wr.cell? ⟨gf c, X, none⟩ = some (.bool (fr c X)) := by
  have := (h.fs c hc).1.cell (bcl_get (fr c) (M := Y) (j := Y) hX)
  rwa [decide_eq_true hX, Bool.true_and] at this
end
theorem adn_or_pow {T p : Nat} (h : T < 2 ^ p) (hp : p < 31) : adn (T ||| 2 ^ p) (2 ^ p) = T := by
  have h1 : 2 ^ p < 2 ^ 31 := Nat.pow_lt_pow_right (by omega) hp
  have h2 : (T ||| 2 ^ p) < 2 ^ 32 := Nat.or_lt_two_pow (by omega) (by omega)
  apply Nat.eq_of_testBit_eq
  intro j
  rw [adn_bit h2, Nat.testBit_or, Nat.testBit_two_pow]
  by_cases e : p = j
  · subst e; simp [Nat.testBit_lt_two_pow h]
  · simp [e]
theorem stO_cons (d : Nat) (ds : List Nat) : stO (d :: ds) = setF (stO ds) d (stO ds d ||| 2 ^ ds.length) := rfl
theorem jumps_ret {J : Nat → Act → World → Prop} {Q : Exit → Act → World → Prop} {a : Act} {w : World} (h : Q .ret a w) : jumpsTo J Q .ret a w := h
theorem stO_back (d : Nat) (ds : List Nat) : setF (stO (d :: ds)) d (stO ds d) = stO ds := by
  funext x
  by_cases e : x = d
  · subst e; rw [setF_same]
  · rw [setF_ne _ _ e, stO_cons, setF_ne _ _ e]
set_option maxRecDepth 100000 in
set_option maxHeartbeats 4000000 in
theorem iter84 (m N K : Nat) (bs : List Nat) (hb : Bys bs) (zs : List Int) (bl off cap bx : Nat) (w : World) (hl : zs.length = K) (n1 : 1 ≤ N) (hN : N ≤ 12) (k1 : 1 ≤ K) (hK : K ≤ 4) (h2 : no1 zs K) (hsz : szP zs K = true)
    (hX : Blk w bx (scl (N : Int) (K : Int) bs (some ⟨bl, off, none⟩) K cap).toArray 56) (hs : SlI w (some ⟨bl, off, none⟩) zs) (hbl : bl < w.heap.size) :
    GivesD m 84 #[.pointer (some ⟨bx, 0, none⟩)] (EncX N) [bx, bl] (exA bs N K zs) w := by
  intro l J Jx W hszW hbs hJ hY h0
  have HFR := hidd (fun c (hc : c < K) W h => frs85 N K c bs hb zs (some ⟨bl, off, none⟩) cap W h hl n1 (by omega) hK h2 hsz hc)
  have HS := hidd (size_s56 (n := (N : Int)) (k := (K : Int)) hb (some ⟨bl, off, none⟩) K cap)
  have hex := exA_f (bs := bs) (show N ≤ 17 by omega) h2
  have HSL := hidd (show ∀ W', Below W.heap.size W W' → SlI W' (some ⟨bl, off, none⟩) zs from fun W' hb' => by
    rcases hs with h | ⟨b', o', ha, hc⟩
    · exact .inl h
    · cases ha
      refine .inr ⟨bl, off, rfl, fun j hj => ?_⟩
      have := hc j hj
      simp only [World.cell?] at this ⊢
      rw [hb'.block _ (Nat.lt_of_lt_of_le hbl hszW), hbs bl (by simp)]; exact this)
  obtain ⟨Y, hYN⟩ : ∃ Y, Y = 2 ^ N := ⟨_, rfl⟩
  have hY12 : Y ≤ 4096 := by rw [hYN]; exact Nat.pow_le_pow_right (by decide) hN
  obtain ⟨fr, hfr⟩ : ∃ fr, fr = fre bs N zs := ⟨_, rfl⟩
  rw [← hfr] at hex
  obtain ⟨C, hC⟩ : ∃ C, C = (scl (N : Int) (K : Int) bs (some ⟨bl, off, none⟩) K cap).toArray := ⟨_, rfl⟩
  have hC0 := hidd (show C[0]? = some (.int .i64 (N : Int)) by rw [hC]; exact scl_fst 0 _ rfl)
  have hC1 := hidd (show C[1]? = some (.int .i64 (K : Int)) by rw [hC]; exact scl_fst 1 _ rfl)
  have HFR2 := hidd (fun c (hc : c < K) W h => (show Calls Tryd.prog 85 #[.agg C, .int .i64 (c : Int)] W fun e w' => ∃ g : Nat, e = .returned (.slice (some ⟨g, 0, none⟩) Y Y) ∧ W.heap.size ≤ g ∧ Blk w' g (bcl (fr c) Y Y).toArray 4 ∧ Below W.heap.size W w' by rw [hYN, hfr, hC]; exact HFR.out c hc W h))
  have hX' : Blk W bx C 56 := (hbs bx (by simp)).trans (by rw [hC]; exact hX)
  have hbx : bx < W.heap.size := hX'.lt
  rw [← hC] at HS
  obtain ⟨B, hB⟩ : ∃ B, B = W.heap.size := ⟨_, rfl⟩
  obtain ⟨all, hall⟩ : ∃ all, all = exA bs N K zs := ⟨_, rfl⟩
  rw [← hall] at hex hY ⊢
  have HEX := hidd hex
  have HY := hidd hY
  have HJ := hidd hJ
  have HYN := hidd hYN
  have hmk := make29 N (by omega)
  have HP0 := hidd (show RelW K Y B bx N C fr W (fun _ => 0) 0 (((W.alloc (.cells (fcel (fun _ => 0) 0 0).toArray 102)).alloc (.cells (tcel fun _ => 0).toArray 103)).alloc (.cells (zrow N) 2)) from by
    refine ⟨(((Below.refl _ _).alloc (Nat.le_refl _) _).alloc (by simp) _).alloc (by simp; omega) _, ((hX'.alloc _).alloc _).alloc _, ?_, fun c' hc' => by omega, ?_, ?_⟩
    · rw [hB]; exact ((Blk.new W (fcel (fun _ => 0) 0 0).toArray 102 _ rfl).alloc _).alloc _
    · rw [hB]; exact (Blk.new (W.alloc (.cells (fcel (fun _ => 0) 0 0).toArray 102)) (tcel fun _ => 0).toArray 103 _ (by simp)).alloc _
    · rw [hB, icells_rep]; exact Blk.new _ _ _ _ (by simp))
  have cX := (((hX'.alloc (.cells (fcel (fun _ => 0) 0 0).toArray 102)).alloc (.cells (tcel fun _ => 0).toArray 103))).cell hC0.out
  have cX2 := HP0.out.x.cell hC1.out
  have hz1 := zero102
  have hz2 := zero103
  have HB := hidd hB
  subst hB
  have HBX := hidd hbx
  have H0 := hidd h0
  clear hX hs hbs hY hJ hYN hfr hC hX' hex hb HFR hsz h2 hl hall h0
  refine callsIn_of_wp Tryd.func84 rfl trivial ?_ rfl
  simp only [Tryd.ntmps84, List.size_toArray, List.length_cons, List.length_nil, Nat.reduceAdd, Nat.reduceSub, Array.replicate_succ, Array.replicate_zero, List.push_toArray, List.append_toArray, List.nil_append, List.cons_append]
  gi_wp2_with fail
  refine wpIn_scope_two (ι := List Nat × Nat) (by rfl) (by rfl) (JF all N K Y W.heap.size bx l C fr J) (JB all N K Y W.heap.size bx l C fr J) (fun i => muO K N true i.1 i.2) (fun i => muO K N false i.1 i.2) ?back ?pass ?first
  case first =>
    intro HP
    have HPP := hidd HP
    clear HP
    gi_wp2_with fail
    gi_loopw [16] (fun e wr => ∃ c : Nat, c ≤ K ∧ e = .int .i64 (c : Int) ∧ Hid (∃ gf, RelW K Y W.heap.size bx N C fr W gf c wr)) (fun e _ => K - (intOf e).toNat)
    case atStart => exact ⟨0, Nat.zero_le _, rfl, ⟨_, HP0.out⟩⟩
    case round =>
      obtain ⟨c, hc, rfl, HR⟩ := hrel
      obtain ⟨gf, hgf⟩ := HR.out
      have HG := hidd hgf
      clear HR hgf
      obtain ⟨wo, rfl⟩ : ∃ wo : World, wo = wr := ⟨_, rfl⟩
      by_cases hlt : c < K
      · have hc4 : (c : Int) < 4 := by omega
        have HF := hidd (HFR2.out c hlt wo (HSL.out _ HG.out.b))
        gi_wp2_with (refine inLoadRow rfl 56 (.tmp 1) rfl bx rfl 56 _ _ HG.out.x Tryd.underlying56 rfl HS.out ?_)
        refine ⟨trivial, (callsIn_wide.2 HF.out).mono ?_⟩
        rintro e w1 ⟨g, rfl, hg1, hg2, hg3⟩
        have K2 := hidd (HG.out.go hg3 hg2 hg1 rfl HBX.out (by omega))
        have c1 := (HG.out.f.below hg3 HG.out.f.lt).cell (fcel_get (gf := gf) (Y := Y) (j := c) (i := c) (by omega))
        rw [if_neg (Nat.lt_irrefl c)] at c1
        have f1 := (HG.out.f.below hg3 HG.out.f.lt).fro c
        clear hg1 hg2 hg3
        gi_wp2_with fail
        go_roundw
        case rel => exact ⟨c + 1, by omega, by go_num, ⟨_, K2.out⟩⟩
        case measure => simp [intOf]; omega
      · have hck : c = K := by omega
        subst hck
        have HD := hidd (HG.out.done rfl HBX.out HJ.out H0.out)
        gi_wp2_with fail
        rename_i K3 hK3
        refine wpIn_label ?_
        refine hK3 _ _ ?_
        refine HPP.out ([], 0) _ _ ⟨wo.heap.size, gf, [], _, _, _, _, _, _, _, _, _, _, _, _, _, _, _, _, _, _, _, _, _, _, _, _, _, _, _, _, _, _, _, _, _, _, _, _, _, _, _, _, _, _, _, _, _, _, _, _, _, _, _, _, _, _, _, _, _, _, _, _, _, _, _, _, _, _, _, _, _, _, _, _, _, _, _, rfl, ⟨Nat.zero_le _, (fun d hd => by cases hd), Nat.zero_le _, HEX.out, HD.out⟩⟩
  case back =>
    rintro ⟨ds, c⟩ a wr ⟨D, gf, pre, u7, u2, u8, u9, u10, u11, u12, u13, u14, u15, u16, u17, u18, u19, u20, u21, u22, u23, u24, u25, u26, u27, u28, u29, u30, u31, u32, u33, u34, u35, u36, u37, u38, u39, u40, u41, u42, u43, u44, u45, u46, u47, u48, u49, u50, u51, u52, u53, u54, u55, u56, u57, u58, u59, u60, u61, u62, u63, u64, u65, u66, u67, u68, u69, u70, u71, u72, u73, u74, u75, u76, u77, u78, u79, u80, u81, rfl, HR⟩
    obtain ⟨wo, rfl⟩ : ∃ wo : World, wo = wr := ⟨_, rfl⟩
    dsimp only at HR ⊢
    have HA := hidd HR.out.2.2.2.1
    have HX := hidd HR.out.2.2.2.2
    cases ds with
    | nil =>
      have HJJ := hidd (show J D all wo from by rw [HA.out, show exB (okf fr) K N [] = [] from rfl, List.append_nil]; exact HX.out.j)
      have hls : ([] : List Nat).length = 0 := rfl
      clear HR HA
      gi_wp2_with fail
      refine jumps_ret ?_
      refine bodyPost_ret (results_none rfl _ _ _) rfl ?_
      exact ⟨⟨_, rfl⟩, D, by have := HX.out.hd; omega, HX.out.sz, .inl HJJ.out⟩
    | cons d ds =>
      have hlen : ds.length < N := by have := HR.out.1; simp at this; omega
      have hdK : d < K := HR.out.2.1 d (by simp)
      have hds : ∀ d ∈ ds, d < K := fun x hx => HR.out.2.1 x (List.mem_cons_of_mem _ hx)
      have HXL := hidd (show RelX N K Y W.heap.size bx C fr (J D) D gf pre (stO (d :: ds)) (colI ds ++ [(d : Int)]) wo from by rw [← colI_cons]; exact HX.out)
      have cL := HXL.out.last (by rw [colI_len]; exact hlen)
      rw [colI_len] at cL
      have hmu := hidd (muO_up (K := K) (N := N) (c := c) (d := d) (f := false) hlen HR.out.2.2.1 hds hdK)
      have hT : stO ds d < 2 ^ ds.length := stO_lt ds d
      have h17 : 2 ^ ds.length < 2 ^ 17 := Nat.pow_lt_pow_right (by omega) (by omega)
      obtain ⟨P1, hP1⟩ : ∃ P1, P1 = 2 ^ ds.length := ⟨_, rfl⟩
      have s1 : IntKind.u32.wrap (2 ^ ds.length) = (P1 : Int) := by rw [hP1]; rw [show ((2 : Int) ^ ds.length) = ((2 ^ ds.length : Nat) : Int) by simp]; exact u32_in (by omega) (by omega)
      have t1 : min ds.length 64 = ds.length := by omega
      obtain ⟨T, hTe⟩ : ∃ T, T = stO ds d := ⟨_, rfl⟩
      obtain ⟨X, hXe⟩ : ∃ X, X = stO (d :: ds) d := ⟨_, rfl⟩
      have hX2 : X = T ||| P1 := by rw [hXe, hTe, hP1]; rw [stO_cons, setF_same]
      have hX17 : X < 2 ^ 17 := by rw [hX2]; exact Nat.or_lt_two_pow (by omega) (by omega)
      have u1 := u32_andnot_nat X P1 (by omega) (by omega)
      have had : adn X P1 = T := by rw [hX2, hP1]; exact adn_or_pow (by rw [hTe]; exact hT) (by omega)
      rw [had] at u1
      have HST := hidd (show setF (stO (d :: ds)) d T = stO ds from by rw [hTe]; exact stO_back d ds)
      have HCT := hidd (fun w' (h : RelX N K Y W.heap.size bx C fr (J D) D gf pre (stO (d :: ds)) (colI ds ++ [(d : Int)]) w') => (show w'.cell? ⟨W.heap.size + 1, d, none⟩ = some (.int .u32 (X : Int)) ∧ w'.frozen? ⟨W.heap.size + 1, d, none⟩ = false from by
        rw [hXe]; exact ⟨h.cT (by omega), h.t.fro d⟩))
      have HBK := hidd (show ∀ w', RelX N K Y W.heap.size bx C fr (J D) D gf pre (stO (d :: ds)) (colI ds ++ [(d : Int)]) w' → RelX N K Y W.heap.size bx C fr (J D) D gf pre (stO ds) (colI ds) (w'.setCell ⟨W.heap.size + 1, d, none⟩ (.int .u32 (T : Int))) from fun w' h => by
        have := (h.setT (HJ.out D) (show d < 4 by omega) (v := T)).drop
        rwa [HST.out] at this)
      have HAL := hidd (show all = pre ++ exR (okf fr) K N ds (d + 1) from by rw [HA.out, exB_cons hlen])
      have hd4 : (d : Int) < 4 := by omega
      have hlN : (ds.length : Int) < (N : Int) := by omega
      have hls : (((d :: ds).length : Nat) : Int) = (ds.length : Int) + 1 := by simp
      have hn0 : ((ds.length : Int) + 1 == 0) = false := by rw [beq_eq_false_iff_ne]; omega
      have HLE := hidd (show ds.length ≤ N ∧ (∀ d ∈ ds, d < K) ∧ d + 1 ≤ K from ⟨by omega, hds, by omega⟩)
      rw [hls]
      clear hls HR HA HX hP1 hTe hXe hX2 hX17 hT h17 hds hdK had
      gi_wp2_with fail
      refine wpIn_region_tail_lit (lets_wide _) 7 (fun w' => RelX N K Y W.heap.size bx C fr (J D) D gf pre (stO (d :: ds)) (colI ds ++ [(d : Int)]) w') (by decide) (by kernel_rfl) (HXL.out.drew (HJ.out D)) (by kernel_rfl) (by kernel_rfl) (by kernel_rfl) (by kernel_rfl) (by kernel_rfl) ?_
      simp only [List.take_succ_cons, List.take_zero, List.drop_succ_cons, List.drop_zero, List.map_cons, List.map_nil, List.cons_append, List.nil_append, idle]
      refine qs rfl (fun KQ hKQ => ?_)
      apply Exists.intro
      refine ⟨fun w' hw' => ?_, ?_⟩
      · go_simp; exact rfl
      go_simp
      refine hKQ _ ?_
      clear hKQ KQ
      refine qs rfl (fun KQ hKQ => ?_)
      apply Exists.intro
      refine ⟨fun w' hw' => ?_, ?_⟩
      · go_simp; exact rfl
      go_simp
      refine hKQ _ ?_
      clear hKQ KQ
      refine qs rfl (fun KQ hKQ => ?_)
      apply Exists.intro
      refine ⟨fun w' hw' => ?_, ?_⟩
      · have e1 := (HCT.out w' hw').1; go_simp; exact rfl
      go_simp
      refine hKQ _ ?_
      clear hKQ KQ
      refine qs rfl (fun KQ hKQ => ?_)
      apply Exists.intro
      refine ⟨fun w' hw' => ?_, ?_⟩
      · go_simp; exact rfl
      go_simp
      refine hKQ _ ?_
      clear hKQ KQ
      refine qs rfl (fun KQ hKQ => ?_)
      apply Exists.intro
      refine ⟨fun w' hw' => ?_, ?_⟩
      · go_simp; exact rfl
      go_simp
      refine hKQ _ ?_
      clear hKQ KQ
      refine qs rfl (fun KQ hKQ => ?_)
      apply Exists.intro
      refine ⟨fun w' hw' => ?_, ?_⟩
      · go_simp; exact rfl
      go_simp
      refine hKQ _ ?_
      clear hKQ KQ
      refine qs rfl (fun KQ hKQ => ?_)
      apply Exists.intro
      refine ⟨fun w' hw' => ?_, ?_⟩
      · go_simp; exact rfl
      go_simp
      refine hKQ _ ?_
      clear hKQ KQ
      refine qs rfl (fun KQ hKQ => ?_)
      apply Exists.intro
      refine ⟨fun w' hw' => ?_, ?_⟩
      · go_simp; exact rfl
      go_simp
      refine hKQ _ ?_
      clear hKQ KQ
      refine wpQuiet_nil ?_
      intro w' hw'
      have HZ := hidd (HBK.out w' hw')
      have f1 := (HCT.out w' hw').2
      have e1 := (HCT.out w' hw').1
      clear hw'
      gi_wp2_with fail
      refine wpIn_goto ?_
      refine (?_ : (1 = 1 ∧ ∃ i', JF all N K Y W.heap.size bx l C fr J i' _ _ ∧ muO K N true i'.1 i'.2 < muO K N false (d :: ds) c))
      exact ⟨rfl, (ds, d + 1), ⟨D, gf, pre, _, _, _, _, _, _, _, _, _, _, _, _, _, _, _, _, _, _, _, _, _, _, _, _, _, _, _, _, _, _, _, _, _, _, _, _, _, _, _, _, _, _, _, _, _, _, _, _, _, _, _, _, _, _, _, _, _, _, _, _, _, _, _, _, _, _, _, _, _, _, _, _, _, _, _, rfl, ⟨HLE.out.1, HLE.out.2.1, HLE.out.2.2, HAL.out, HZ.out⟩⟩, hmu.out⟩
  case pass =>
    rintro ⟨ds, c0⟩ a wr ⟨D, gf, pre, u2, u8, u9, u10, u11, u12, u13, u14, u15, u16, u17, u18, u19, u20, u21, u22, u23, u24, u25, u26, u27, u28, u29, u30, u31, u32, u33, u34, u35, u36, u37, u38, u39, u40, u41, u42, u43, u44, u45, u46, u47, u48, u49, u50, u51, u52, u53, u54, u55, u56, u57, u58, u59, u60, u61, u62, u63, u64, u65, u66, u67, u68, u69, u70, u71, u72, u73, u74, u75, u76, u77, u78, u79, u80, u81, rfl, HR⟩ HB
    have HBK := hidd HB
    clear HB
    obtain ⟨wo, rfl⟩ : ∃ wo : World, wo = wr := ⟨_, rfl⟩
    dsimp only at HR HBK ⊢
    have HA := hidd HR.out.2.2.2.1
    have HX := hidd HR.out.2.2.2.2
    have HDS := hidd HR.out.2.1
    have c1 := HX.out.x.cell hC0.out
    have hlN := HR.out.1
    have hc0K := HR.out.2.2.1
    clear HR
    by_cases hfull : ds.length = N
    · have hEq : ((ds.length : Int) == (N : Int)) = true := by rw [beq_iff_eq]; omega
      have HAL := hidd (show all = pre ++ colI ds :: exB (okf fr) K N ds from by rw [HA.out, exR_full hfull])
      obtain ⟨fn, tmps, assign, body, hy, hRn⟩ := HY.out D pre (colI ds) (exB (okf fr) K N ds) #[.slice (some ⟨W.heap.size + 2, 0, none⟩) N N] wo (by have := HX.out.hd; omega) HX.out.sz HAL.out HX.out.j ⟨_, rfl, by omega, by have := HX.out.hd; omega, HX.out.full (by rw [colI_len]; exact hfull)⟩
      have HRR := hidd hRn
      have HFU := hidd hfull
      clear hRn hfull hlN
      gi_wp2_with fail
      refine HRR.out.mono ?_
      rintro e W3 ⟨hk3, ⟨rfl, hJ3⟩ | ⟨rfl, hx3⟩⟩
      · have K3 := hidd (HX.out.kept hk3 hJ3)
        have HAL2 := hidd (show all = (pre ++ [colI ds]) ++ exB (okf fr) K N ds from by rw [HAL.out]; simp)
        clear hJ3 hk3
        gi_wp2_with fail
        refine wpIn_goto ?_
        refine (?_ : ((0 = 1 ∧ ∃ i', JF all N K Y W.heap.size bx l C fr J i' _ _ ∧ muO K N true i'.1 i'.2 < muO K N true ds c0) ∨ (0 = 0 ∧ ∃ i', JB all N K Y W.heap.size bx l C fr J i' _ _ ∧ muO K N false i'.1 i'.2 < muO K N true ds c0)))
        refine .inr ⟨rfl, (ds, c0), ⟨D, gf, pre ++ [colI ds], _, _, _, _, _, _, _, _, _, _, _, _, _, _, _, _, _, _, _, _, _, _, _, _, _, _, _, _, _, _, _, _, _, _, _, _, _, _, _, _, _, _, _, _, _, _, _, _, _, _, _, _, _, _, _, _, _, _, _, _, _, _, _, _, _, _, _, _, _, _, _, _, _, _, _, _, rfl, ⟨Nat.le_of_eq HFU.out, HDS.out, hc0K, HAL2.out, K3.out⟩⟩, ?_⟩
        show muO K N false ds c0 < muO K N true ds c0
        unfold muO; simp
      · have X3 := hidd hx3
        have HSZ := hidd (show D ≤ W3.heap.size from Nat.le_trans HX.out.sz hk3.1)
        clear hx3 hk3
        gi_wp2_with fail
        refine jumps_ret ?_
        refine bodyPost_ret (results_none rfl _ _ _) rfl ?_
        exact ⟨⟨_, rfl⟩, D, by have := HX.out.hd; omega, HSZ.out, .inr ⟨_, _, _, HAL.out, X3.out⟩⟩
    · have hlen : ds.length < N := by omega
      have hEq : ((ds.length : Int) == (N : Int)) = false := by rw [beq_eq_false_iff_ne]; omega
      have HAL := hidd (show all = pre ++ (exT (okf fr) K N ds c0 ++ exB (okf fr) K N ds) from by rw [HA.out, exR_in hlen])
      clear hfull hlN HA
      gi_wp2_with fail
      gi_loopw [6, 7] (fun h e wr => h = .int .i64 (ds.length : Int) ∧ ∃ c : Nat, c0 ≤ c ∧ c ≤ K ∧ e = .int .i64 (c : Int) ∧ Hid (all = pre ++ (exT (okf fr) K N ds c ++ exB (okf fr) K N ds)) ∧ Hid (RelX N K Y W.heap.size bx C fr (J D) D gf pre (stO ds) (colI ds) wr)) (fun _ e _ => K - (intOf e).toNat)
      case atStart => exact ⟨rfl, c0, Nat.le_refl _, hc0K, rfl, HAL.out, HX.out⟩
      case round =>
        obtain ⟨rfl, c, hcc, hcK, rfl, HL, HXr⟩ := hrel
        obtain ⟨wi, rfl⟩ : ∃ wi : World, wi = wr := ⟨_, rfl⟩
        have c2 := HXr.out.x.cell hC1.out
        by_cases hlt : c < K
        · have hc4 : (c : Int) < 4 := by omega
          have hT : stO ds c < 2 ^ ds.length := stO_lt ds c
          have h17 : 2 ^ ds.length < 2 ^ N := Nat.pow_lt_pow_right (by omega) hlen
          rw [← HYN.out] at h17
          obtain ⟨P1, hP1⟩ : ∃ P1, P1 = 2 ^ ds.length := ⟨_, rfl⟩
          have s1 : IntKind.u32.wrap (2 ^ ds.length) = (P1 : Int) := by rw [hP1]; rw [show ((2 : Int) ^ ds.length) = ((2 ^ ds.length : Nat) : Int) by simp]; exact u32_in (by omega) (by omega)
          have t1 : min ds.length 64 = ds.length := by omega
          obtain ⟨T, hTe⟩ : ∃ T, T = stO ds c := ⟨_, rfl⟩
          obtain ⟨X, hXe⟩ : ∃ X, X = T ||| P1 := ⟨_, rfl⟩
          have hXY : X < Y := by rw [hXe, HYN.out]; exact Nat.or_lt_two_pow (by rw [← HYN.out]; omega) (by rw [← HYN.out]; omega)
          have u1 := u32_or_nat T P1 (by omega) (by omega)
          rw [← hXe] at u1
          obtain ⟨v, hv⟩ : ∃ v, v = fr c X := ⟨_, rfl⟩
          have hok : okf fr c ds.length (stO ds c) = v := by rw [hv, hXe, hTe, hP1]; rfl
          have HQ := hidd (fun w' (h : RelX N K Y W.heap.size bx C fr (J D) D gf pre (stO ds) (colI ds) w') => (show w'.cell? ⟨W.heap.size + 1, c, none⟩ = some (.int .u32 (T : Int)) ∧ w'.cell? ⟨W.heap.size, c, none⟩ = some (.slice (some ⟨gf c, 0, none⟩) Y Y) ∧ w'.cell? ⟨gf c, X, none⟩ = some (.bool v) ∧ w'.frozen? ⟨W.heap.size + 1, c, none⟩ = false from by
            rw [hTe, hv]; exact ⟨h.cT (by omega), h.cF hlt hK, h.cE hlt hXY, h.t.fro c⟩))
          have HSS := hidd (show setF (stO ds) c X = stO (c :: ds) from by rw [hXe, hTe, hP1]; rfl)
          have hXI : (X : Int) < (Y : Int) := by omega
          have hd1 := hidd (muO_down (K := K) (N := N) (ds := ds) hlen hcc)
          clear hXe hTe hP1 hv hT h17
          cases v with
          | true =>
            have HN := hidd (show all = pre ++ exR (okf fr) K N (c :: ds) 0 from by rw [HL.out, exT_yes hlt hok, ← exR_new (by simp; omega)])
            have HPT := hidd (fun w' (h : RelX N K Y W.heap.size bx C fr (J D) D gf pre (stO ds) (colI ds) w') => (show RelX N K Y W.heap.size bx C fr (J D) D gf pre (stO (c :: ds)) (colI ds) (w'.setCell ⟨W.heap.size + 1, c, none⟩ (.int .u32 (X : Int))) from by
              have := h.setT (HJ.out D) (show c < 4 by omega) (v := X)
              rwa [HSS.out] at this))
            have HPC := hidd (fun w' (h : RelX N K Y W.heap.size bx C fr (J D) D gf pre (stO (c :: ds)) (colI ds) w') => (show RelX N K Y W.heap.size bx C fr (J D) D gf pre (stO (c :: ds)) (colI (c :: ds)) (w'.setCell ⟨W.heap.size + 2, ds.length, none⟩ (.int .i64 (c : Int))) from by
              have := h.setC (HJ.out D) (x := (c : Int)) (by rw [colI_len]; exact hlen)
              rwa [colI_len, ← colI_cons] at this))
            have HPF := hidd (fun w' (h : RelX N K Y W.heap.size bx C fr (J D) D gf pre (stO (c :: ds)) (colI ds) w') => (show (∃ z, w'.cell? ⟨W.heap.size + 2, ds.length, none⟩ = some (.int .i64 z)) ∧ w'.frozen? ⟨W.heap.size + 2, ds.length, none⟩ = false from by
              obtain ⟨cl, h1, h2, h3⟩ := h.cl
              exact ⟨⟨_, h2.cell (icells_get (zs := cl) (j := ds.length) (by omega))⟩, h2.fro _⟩))
            have hlI : (ds.length : Int) < (N : Int) := by omega
            have hl17 : (ds.length : Int) ≤ 17 := by omega
            clear hok
            gi_wp2_with fail
            refine wpIn_region_tail_lit (lets_wide _) 10 (fun w' => RelX N K Y W.heap.size bx C fr (J D) D gf pre (stO ds) (colI ds) w') (by decide) (by kernel_rfl) (HXr.out.drew (HJ.out D)) (by kernel_rfl) (by kernel_rfl) (by kernel_rfl) (by kernel_rfl) (by kernel_rfl) ?_
            simp only [List.take_succ_cons, List.take_zero, List.drop_succ_cons, List.drop_zero, List.map_cons, List.map_nil, List.cons_append, List.nil_append, idle]
            refine qs rfl (fun KQ hKQ => ?_)
            apply Exists.intro
            refine ⟨fun w' hw' => ?_, ?_⟩
            · go_simp; exact rfl
            go_simp
            refine hKQ _ ?_
            clear hKQ KQ
            refine qs rfl (fun KQ hKQ => ?_)
            apply Exists.intro
            refine ⟨fun w' hw' => ?_, ?_⟩
            · go_simp; exact rfl
            go_simp
            refine hKQ _ ?_
            clear hKQ KQ
            refine qs rfl (fun KQ hKQ => ?_)
            apply Exists.intro
            refine ⟨fun w' hw' => ?_, ?_⟩
            · have e1 := (HQ.out w' hw').2.1; go_simp; exact rfl
            go_simp
            refine hKQ _ ?_
            clear hKQ KQ
            refine qs rfl (fun KQ hKQ => ?_)
            apply Exists.intro
            refine ⟨fun w' hw' => ?_, ?_⟩
            · go_simp; exact rfl
            go_simp
            refine hKQ _ ?_
            clear hKQ KQ
            refine qs rfl (fun KQ hKQ => ?_)
            apply Exists.intro
            refine ⟨fun w' hw' => ?_, ?_⟩
            · go_simp; exact rfl
            go_simp
            refine hKQ _ ?_
            clear hKQ KQ
            refine qs rfl (fun KQ hKQ => ?_)
            apply Exists.intro
            refine ⟨fun w' hw' => ?_, ?_⟩
            · have e1 := (HQ.out w' hw').1; go_simp; exact rfl
            go_simp
            refine hKQ _ ?_
            clear hKQ KQ
            refine qs rfl (fun KQ hKQ => ?_)
            apply Exists.intro
            refine ⟨fun w' hw' => ?_, ?_⟩
            · go_simp; exact rfl
            go_simp
            refine hKQ _ ?_
            clear hKQ KQ
            refine qs rfl (fun KQ hKQ => ?_)
            apply Exists.intro
            refine ⟨fun w' hw' => ?_, ?_⟩
            · go_simp; exact rfl
            go_simp
            refine hKQ _ ?_
            clear hKQ KQ
            refine qs rfl (fun KQ hKQ => ?_)
            apply Exists.intro
            refine ⟨fun w' hw' => ?_, ?_⟩
            · go_simp; exact rfl
            go_simp
            refine hKQ _ ?_
            clear hKQ KQ
            refine qs rfl (fun KQ hKQ => ?_)
            apply Exists.intro
            refine ⟨fun w' hw' => ?_, ?_⟩
            · go_simp; exact rfl
            go_simp
            refine hKQ _ ?_
            clear hKQ KQ
            refine qs rfl (fun KQ hKQ => ?_)
            apply Exists.intro
            refine ⟨fun w' hw' => ?_, ?_⟩
            · go_simp; exact rfl
            go_simp
            refine hKQ _ ?_
            clear hKQ KQ
            refine wpQuiet_nil ?_
            intro w' hw'
            have e1 := (HQ.out w' hw').2.2.1
            have HR2 := hidd hw'
            clear hw'
            gi_wp2_with fail
            refine wpIn_region_tail_lit (lets_wide _) 7 (fun w'' => RelX N K Y W.heap.size bx C fr (J D) D gf pre (stO ds) (colI ds) w'') (by decide) (by kernel_rfl) (HR2.out.drew (HJ.out D)) (by kernel_rfl) (by kernel_rfl) (by kernel_rfl) (by kernel_rfl) (by kernel_rfl) ?_
            simp only [List.take_succ_cons, List.take_zero, List.drop_succ_cons, List.drop_zero, List.map_cons, List.map_nil, List.cons_append, List.nil_append, idle]
            clear e1
            refine qs rfl (fun KQ hKQ => ?_)
            apply Exists.intro
            refine ⟨fun w' hw' => ?_, ?_⟩
            · go_simp; exact rfl
            go_simp
            refine hKQ _ ?_
            clear hKQ KQ
            refine qs rfl (fun KQ hKQ => ?_)
            apply Exists.intro
            refine ⟨fun w' hw' => ?_, ?_⟩
            · go_simp; exact rfl
            go_simp
            refine hKQ _ ?_
            clear hKQ KQ
            refine qs rfl (fun KQ hKQ => ?_)
            apply Exists.intro
            refine ⟨fun w' hw' => ?_, ?_⟩
            · have e1 := (HQ.out w' hw').1; go_simp; exact rfl
            go_simp
            refine hKQ _ ?_
            clear hKQ KQ
            refine qs rfl (fun KQ hKQ => ?_)
            apply Exists.intro
            refine ⟨fun w' hw' => ?_, ?_⟩
            · go_simp; exact rfl
            go_simp
            refine hKQ _ ?_
            clear hKQ KQ
            refine qs rfl (fun KQ hKQ => ?_)
            apply Exists.intro
            refine ⟨fun w' hw' => ?_, ?_⟩
            · go_simp; exact rfl
            go_simp
            refine hKQ _ ?_
            clear hKQ KQ
            refine qs rfl (fun KQ hKQ => ?_)
            apply Exists.intro
            refine ⟨fun w' hw' => ?_, ?_⟩
            · go_simp; exact rfl
            go_simp
            refine hKQ _ ?_
            clear hKQ KQ
            refine qs rfl (fun KQ hKQ => ?_)
            apply Exists.intro
            refine ⟨fun w' hw' => ?_, ?_⟩
            · go_simp; exact rfl
            go_simp
            refine hKQ _ ?_
            clear hKQ KQ
            refine qs rfl (fun KQ hKQ => ?_)
            apply Exists.intro
            refine ⟨fun w' hw' => ?_, ?_⟩
            · go_simp; exact rfl
            go_simp
            refine hKQ _ ?_
            clear hKQ KQ
            refine wpQuiet_nil ?_
            intro w' hw'
            have e1 := (HQ.out w' hw').1
            have f1 := (HQ.out w' hw').2.2.2
            have HR3 := hidd (HPT.out w' hw')
            obtain ⟨⟨z, e2⟩, f2⟩ := HPF.out _ (HPT.out w' hw')
            have HR4 := hidd (HPC.out _ (HPT.out w' hw'))
            clear hw'
            gi_wp2_with fail
            refine wpIn_goto ?_
            refine (?_ : ((1 = 1 ∧ ∃ i', JF all N K Y W.heap.size bx l C fr J i' _ _ ∧ muO K N true i'.1 i'.2 < muO K N true ds c0) ∨ (1 = 0 ∧ ∃ i', JB all N K Y W.heap.size bx l C fr J i' _ _ ∧ muO K N false i'.1 i'.2 < muO K N true ds c0)))
            exact .inl ⟨rfl, (c :: ds, 0), ⟨D, gf, pre, _, _, _, _, _, _, _, _, _, _, _, _, _, _, _, _, _, _, _, _, _, _, _, _, _, _, _, _, _, _, _, _, _, _, _, _, _, _, _, _, _, _, _, _, _, _, _, _, _, _, _, _, _, _, _, _, _, _, _, _, _, _, _, _, _, _, _, _, _, _, _, _, _, _, _, rfl, ⟨by simp; omega, (fun d hd => by rcases List.mem_cons.1 hd with rfl | h; exact hlt; exact HDS.out d h), Nat.zero_le _, HN.out, HR4.out⟩⟩, hd1.out⟩
          | false =>
            have HN := hidd (show all = pre ++ (exT (okf fr) K N ds (c + 1) ++ exB (okf fr) K N ds) from by rw [HL.out, exT_no hlt hok])
            clear hok
            gi_wp2_with fail
            refine wpIn_region_tail_lit (lets_wide _) 10 (fun w' => RelX N K Y W.heap.size bx C fr (J D) D gf pre (stO ds) (colI ds) w') (by decide) (by kernel_rfl) (HXr.out.drew (HJ.out D)) (by kernel_rfl) (by kernel_rfl) (by kernel_rfl) (by kernel_rfl) (by kernel_rfl) ?_
            simp only [List.take_succ_cons, List.take_zero, List.drop_succ_cons, List.drop_zero, List.map_cons, List.map_nil, List.cons_append, List.nil_append, idle]
            refine qs rfl (fun KQ hKQ => ?_)
            apply Exists.intro
            refine ⟨fun w' hw' => ?_, ?_⟩
            · go_simp; exact rfl
            go_simp
            refine hKQ _ ?_
            clear hKQ KQ
            refine qs rfl (fun KQ hKQ => ?_)
            apply Exists.intro
            refine ⟨fun w' hw' => ?_, ?_⟩
            · go_simp; exact rfl
            go_simp
            refine hKQ _ ?_
            clear hKQ KQ
            refine qs rfl (fun KQ hKQ => ?_)
            apply Exists.intro
            refine ⟨fun w' hw' => ?_, ?_⟩
            · have e1 := (HQ.out w' hw').2.1; go_simp; exact rfl
            go_simp
            refine hKQ _ ?_
            clear hKQ KQ
            refine qs rfl (fun KQ hKQ => ?_)
            apply Exists.intro
            refine ⟨fun w' hw' => ?_, ?_⟩
            · go_simp; exact rfl
            go_simp
            refine hKQ _ ?_
            clear hKQ KQ
            refine qs rfl (fun KQ hKQ => ?_)
            apply Exists.intro
            refine ⟨fun w' hw' => ?_, ?_⟩
            · go_simp; exact rfl
            go_simp
            refine hKQ _ ?_
            clear hKQ KQ
            refine qs rfl (fun KQ hKQ => ?_)
            apply Exists.intro
            refine ⟨fun w' hw' => ?_, ?_⟩
            · have e1 := (HQ.out w' hw').1; go_simp; exact rfl
            go_simp
            refine hKQ _ ?_
            clear hKQ KQ
            refine qs rfl (fun KQ hKQ => ?_)
            apply Exists.intro
            refine ⟨fun w' hw' => ?_, ?_⟩
            · go_simp; exact rfl
            go_simp
            refine hKQ _ ?_
            clear hKQ KQ
            refine qs rfl (fun KQ hKQ => ?_)
            apply Exists.intro
            refine ⟨fun w' hw' => ?_, ?_⟩
            · go_simp; exact rfl
            go_simp
            refine hKQ _ ?_
            clear hKQ KQ
            refine qs rfl (fun KQ hKQ => ?_)
            apply Exists.intro
            refine ⟨fun w' hw' => ?_, ?_⟩
            · go_simp; exact rfl
            go_simp
            refine hKQ _ ?_
            clear hKQ KQ
            refine qs rfl (fun KQ hKQ => ?_)
            apply Exists.intro
            refine ⟨fun w' hw' => ?_, ?_⟩
            · go_simp; exact rfl
            go_simp
            refine hKQ _ ?_
            clear hKQ KQ
            refine qs rfl (fun KQ hKQ => ?_)
            apply Exists.intro
            refine ⟨fun w' hw' => ?_, ?_⟩
            · go_simp; exact rfl
            go_simp
            refine hKQ _ ?_
            clear hKQ KQ
            refine wpQuiet_nil ?_
            intro w' hw'
            have e1 := (HQ.out w' hw').2.2.1
            have HR2 := hidd hw'
            clear hw'
            gi_wp2_with fail
            go_roundw
            case rel => exact ⟨rfl, c + 1, by omega, by omega, by go_num, HN.out, HR2.out⟩
            case measure => simp [intOf]; omega
        · have hck : c = K := by omega
          have HN := hidd (show all = pre ++ exB (okf fr) K N ds from by rw [HL.out, hck, exT_end, List.nil_append])
          have hlI : decide ((c : Int) < (K : Int)) = false := by simp; omega
          have hmu := hidd (muO_end (K := K) (N := N) (ds := ds) hcc)
          gi_wp2_with fail
          rename_i K3 hK3
          refine wpIn_label ?_
          refine hK3 _ _ ?_
          refine HBK.out (ds, c) _ _ ⟨D, gf, pre, _, _, _, _, _, _, _, _, _, _, _, _, _, _, _, _, _, _, _, _, _, _, _, _, _, _, _, _, _, _, _, _, _, _, _, _, _, _, _, _, _, _, _, _, _, _, _, _, _, _, _, _, _, _, _, _, _, _, _, _, _, _, _, _, _, _, _, _, _, _, _, _, _, _, _, _, rfl, ⟨Nat.le_of_lt hlen, HDS.out, hcK, HN.out, HXr.out⟩⟩ hmu.out
end Go.Proofs.YtckffliiidgilaaDoor
/- Ranges over a function of which each round keeps whatever the function has laid so far: what such a function promises, and the statement 'for .. range' over it. -/
namespace Go.Proofs.YtckffliiidgilaaDoor
set_option linter.unusedVariables false
set_option linter.unusedSimpArgs false
open Go Go.RowKit Go.Shelf
/-- What is said outlasts whatever happens at or above block B. -/
def Stab {β : Type} (B : Nat) (J : β → World → Prop) : Prop := ∀ s A A', J s A → Below B A A' → J s A'
/-- No variable, no list and no array turns. -/
def CKept (A A' : World) : Prop := ∀ (k : Nat) (C : Array Value) (t : TypeId) (fr : Nat × Nat), A.heap[k]? = some (Obj.cells C t fr) → A'.heap[k]? = some (Obj.cells C t fr)
theorem CKept.refl (A : World) : CKept A A := fun _ _ _ _ h => h
theorem CKept.trans {A B C : World} (h : CKept A B) (k : CKept B C) : CKept A C := fun i c t f e => k i c t f (h i c t f e)
theorem CKept.put {A : World} {l : Nat} {o : Obj} (hl : A.heap[l]? = some o) (ho : o.isCells = false) (o' : Obj) : CKept A (A.putObj l o') := by
  intro k C t fr h
  have hne : k ≠ l := by
    rintro rfl
    rw [h] at hl
    cases hl
    cases ho
  exact (World.putObj_heap_other hne).trans h
/-- The same of what outlasts only what leaves all variables alone. -/
def StabX {β : Type} (B : Nat) (J : β → World → Prop) : Prop := ∀ s A A', J s A → Below B A A' → CKept A A' → J s A'
theorem Stab.x {β : Type} {B : Nat} {J : β → World → Prop} (h : Stab B J) : StabX B J := fun s A A' a b _ => h s A A' a b
/-- The blocks from B on, and those that are named, lie as they lay. -/
def Kx (bs : List Nat) (B : Nat) (W W' : World) : Prop := W.heap.size ≤ W'.heap.size ∧ ∀ k, k < W.heap.size → B ≤ k ∨ k ∈ bs → W'.heap[k]? = W.heap[k]?
theorem Kx.refl (bs : List Nat) (B : Nat) (W : World) : Kx bs B W W := ⟨Nat.le_refl _, fun _ _ _ => rfl⟩
theorem Kx.trans {bs : List Nat} {B : Nat} {X Y Z : World} (h : Kx bs B X Y) (k : Kx bs B Y Z) : Kx bs B X Z :=
  ⟨Nat.le_trans h.1 k.1, fun i hi hb => (k.2 i (Nat.lt_of_lt_of_le hi h.1) hb).trans (h.2 i hi hb)⟩
theorem Kx.up {bs : List Nat} {B B' : Nat} {X Y : World} (h : Kx bs B X Y) (hB : B ≤ B') : Kx bs B' X Y := ⟨h.1, fun i hi hb => h.2 i hi (hb.imp (fun e => Nat.le_trans hB e) id)⟩
theorem Kx.of_below {bs : List Nat} {B : Nat} {X Y : World} (h : Below X.heap.size X Y) : Kx bs B X Y := ⟨h.size, fun i hi _ => h.block i hi⟩
theorem Kx.put {bs : List Nat} {B l : Nat} {X : World} (o : Obj) (h1 : l < B) (h2 : ¬ l ∈ bs) : Kx bs B X (X.putObj l o) :=
  ⟨by simp, fun i _ hb => World.putObj_heap_other (fun e => by subst e; rcases hb with hb | hb; omega; exact h2 hb)⟩
theorem below_put {B l : Nat} {X : World} (o : Obj) (h : B ≤ l) : Below B X (X.putObj l o) := ⟨rfl, rfl, rfl, by simp, fun k hk => World.putObj_heap_other (by omega)⟩
/-- What a function that hands out the elements of a list, one by one, promises: m is the depth of a round. -/
def Gives {α : Type} (m : Nat) (g : Nat) (lb : Array Value) (encs : α → Array Value) (bs : List Nat) (all : List α) (w : World) : Prop :=
  ∀ (l : Nat) (J Jx : List α → World → Prop) (W : World), w.heap.size ≤ W.heap.size → (∀ b, b ∈ bs → W.heap[b]? = w.heap[b]?) → Stab W.heap.size J → StabX W.heap.size Jx →
    (∀ pre x rest W1, all = pre ++ x :: rest → J pre W1 → YieldAt Fence.wide m Tryd.prog l (encs x) W1 fun e W' =>
      Kx bs W.heap.size W1 W' ∧ ((e = .returned (.bool true) ∧ J (pre ++ [x]) W') ∨ (e = .returned (.bool false) ∧ Jx (pre ++ [x]) W'))) →
    J [] W →
    CallsIn Fence.wide (m + 1) Tryd.prog g (#[.func (.yield l) #[] #[]] ++ lb) W fun e W' => (∃ v, e = .returned v) ∧ (J all W' ∨ ∃ pre x rest, all = pre ++ x :: rest ∧ Jx (pre ++ [x]) W')
/-- How a round ends. -/
def rndPost {α : Type} (bs : List Nat) (B : Nat) (I Ix : List α → World → Prop) (xs : List α) (W : World) : Exit → Act → World → Prop
  | .normal, _, W' => Kx bs B W W' ∧ I xs W'
  | .ret, _, W' => Kx bs B W W' ∧ Ix xs W'
  | _, _, _ => False
theorem range_gives {α : Type} {g : Operand} {ps : Array Tmp} {assign body : Code} {Q : Exit → Act → World → Prop} {a : Act} {w : World} {m gf : Nat} {lb : Array Value}
    (hg : a.eval g = .func (.func gf) #[] lb) (eg : ∀ args w, (callFunc gf args).run Tryd.prog w = .ok (.enter gf args) w)
    {encs : α → Array Value} {bs : List Nat} {all : List α} (hseq : Gives m gf lb encs bs all w) (hbs : ∀ b, b ∈ bs → b < w.heap.size) (hps : ∀ x, (encs x).size = ps.size)
    (I Ix : List α → World → Prop) (hI : Stab w.heap.size I) (hIx : StabX w.heap.size Ix) (h0 : I [] w)
    (Ax : α → Act → World → Prop) (hAx : ∀ x a' A l o o', Ax x a' A → A.heap[l]? = some o → o.isCells = false → Ax x a' (A.putObj l o'))
    (hassign : ∀ (l : Nat) pre x rest (W : World) (K : Act → World → Prop), all = pre ++ x :: rest → I pre W → w.heap.size ≤ W.heap.size → (∀ a' W', Below W.heap.size W W' → Ax x a' W' → K a' W') →
      assign.wpIn (Fence.wide.inRound l) m Tryd.prog (Exit.then K (fun _ _ _ => False)) { tmps := (ps.zip (encs x)).foldl (fun t (p, v) => t.setIfInBounds p v) a.tmps, defers := [] } W)
    (hbody : ∀ (l : Nat) pre x rest (a' : Act) (W : World), all = pre ++ x :: rest → w.heap.size ≤ W.heap.size → I pre W → Ax x a' W →
      body.wpIn (Fence.wide.inRound l) m Tryd.prog (rndPost bs w.heap.size I Ix (pre ++ [x]) W) a' W)
    (hdone : ∀ (D : Nat) (W : World), w.heap.size ≤ D → I all W → W.heap[D]? = some (.deferred (some [])) → Q .normal { a with defers := { target := .collected D, args := #[] } :: a.defers } W)
    (hstop : ∀ (D : Nat) pre x rest (W : World), w.heap.size ≤ D → all = pre ++ x :: rest → Ix (pre ++ [x]) W → W.heap[D]? = some (.deferred (some [])) →
      Code.ret.wpIn Fence.wide (m + 2) Tryd.prog Q { a with defers := { target := .collected D, args := #[] } :: a.defers } W) :
    (Code.rangeFunc g ps assign body).wpIn Fence.wide (m + 2) Tryd.prog Q a w := by
  refine wpIn_rangeFunc fun fn hfn => ?_
  have hlD : ¬ w.heap.size ∈ bs := fun h => by have := hbs _ h; omega
  have hlL : ¬ (w.heap.size + 1) ∈ bs := fun h => by have := hbs _ h; omega
  obtain ⟨st, hst⟩ : ∃ st : LoopState → Option Code → Loop, st = fun s p => { state := s, pending := p, fn, tmps := a.tmps, params := ps, assign, body, defers := w.heap.size } := ⟨_, rfl⟩
  obtain ⟨V, hV⟩ : ∃ V, V = (w.alloc (.deferred (some []))).alloc (.loop (st .ready none)) := ⟨_, rfl⟩
  have hVw : Below w.heap.size w V := by rw [hV]; exact ((Below.refl _ _).alloc (Nat.le_refl _) _).alloc (by simp) _
  have hVs : V.heap.size = w.heap.size + 2 := by rw [hV]; simp
  have hVl : V.heap[w.heap.size + 1]? = some (.loop (st .ready none)) := by
    rw [hV]; have := World.alloc_heap_new (w.alloc (.deferred (some []))) (.loop (st .ready none)); rwa [World.size_alloc] at this
  have hVd : V.heap[w.heap.size]? = some (.deferred (some [])) := by rw [hV]; exact (Below.heap_alloc _ _ _ (by simp)).trans (World.alloc_heap_new w _)
  -- the two blocks of the loop's own books
  obtain ⟨Bk, hBk⟩ : ∃ Bk : LoopState → Option Code → World → Prop, Bk = fun s p W => V.heap.size ≤ W.heap.size ∧ W.heap[w.heap.size + 1]? = some (.loop (st s p)) ∧ W.heap[w.heap.size]? = some (.deferred (some [])) := ⟨_, rfl⟩
  have bkBelow : ∀ s p A A', Bk s p A → Below V.heap.size A A' → Bk s p A' := fun s p A A' h hb => by
    rw [hBk] at h ⊢
    exact ⟨Nat.le_trans h.1 hb.size, (hb.block _ (by omega)).trans h.2.1, (hb.block _ (by omega)).trans h.2.2⟩
  have bkKx : ∀ s p A A', Bk s p A → Kx bs w.heap.size A A' → Bk s p A' := fun s p A A' h hb => by
    rw [hBk] at h ⊢
    exact ⟨Nat.le_trans h.1 hb.1, (hb.2 _ (by have := h.1; omega) (.inl (by omega))).trans h.2.1, (hb.2 _ (by have := h.1; omega) (.inl (Nat.le_refl _))).trans h.2.2⟩
  have bkPut : ∀ s p s' p' A, Bk s p A → Bk s' p' (A.putObj (w.heap.size + 1) (.loop (st s' p'))) := fun s p s' p' A h => by
    rw [hBk] at h ⊢
    exact ⟨by simpa using h.1, World.putObj_heap_same (by have := h.1; omega), (World.putObj_heap_other (by omega)).trans h.2.2⟩
  have xPut : ∀ {xs A} {r : Loop} (o : Obj), A.heap[w.heap.size + 1]? = some (.loop r) → Ix xs A → Ix xs (A.putObj (w.heap.size + 1) o) := fun o hl h => hIx _ _ _ h (below_put o (by omega)) (CKept.put hl rfl o)
  have iPut : ∀ {J : List α → World → Prop}, Stab w.heap.size J → ∀ {xs A} (o : Obj), J xs A → J xs (A.putObj (w.heap.size + 1) o) := fun hJ xs A o h => hJ xs A _ h (below_put o (by omega))
  refine ⟨w.heap.size + 1, [{ target := .collected w.heap.size, args := #[] }], V, { target := .fn (.func gf) lb, args := #[.func (.yield (w.heap.size + 1)) #[] #[]] }, V, gf,
    #[.func (.yield (w.heap.size + 1)) #[] #[]] ++ lb, V, ?_, ?_, ?_, ?_, fun _ => by omega, ?_⟩
  · rw [hV, hst]; exact run_enterLoop_outer _ _ _ _ _
  · simp only [resolve, hg]
    simp [go_sem]
  · intro f' hf'; exact trivial
  · simp [invoke, go_sem, eg]
  · refine (hseq (w.heap.size + 1) (fun xs W => I xs W ∧ Bk .ready none W) (fun xs W => Ix xs W ∧ Bk .done (some .ret) W) V hVw.size (fun b hb => hVw.block b (hbs b hb))
      (fun xs A A' h hb => ⟨hI xs A A' h.1 (hb.mono hVw.size), bkBelow _ _ _ _ h.2 hb⟩) (fun xs A A' h hb hc => ⟨hIx xs A A' h.1 (hb.mono hVw.size) hc, bkBelow _ _ _ _ h.2 hb⟩) ?_ ⟨hI _ _ _ h0 hVw, by rw [hBk]; exact ⟨Nat.le_refl _, hVl, hVd⟩⟩).mono ?_
    · rintro pre x rest W1 hall ⟨hi1, hb1⟩
      have hl1 : W1.heap[w.heap.size + 1]? = some (.loop (st .ready none)) := by rw [hBk] at hb1; exact hb1.2.1
      have hs1 : V.heap.size ≤ W1.heap.size := by rw [hBk] at hb1; exact hb1.1
      have hy := run_yield (P := Tryd.prog) (args := encs x) hl1 (by rw [hst]; exact hps x)
      rw [hst] at hy
      refine ⟨fn, _, assign, body, hy, roundIn_of_wpIn hfn (hassign _ pre x rest W1 _ hall hi1 (by omega) ?_)⟩
      intro a2 W2 hw2 hax
      have hb2 := bkBelow _ _ _ _ hb1 (hw2.mono hs1)
      have hi2 := hI _ _ _ hi1 (hw2.mono (show w.heap.size ≤ W1.heap.size by omega))
      have hl2 : W2.heap[w.heap.size + 1]? = some (.loop (st .ready none)) := by rw [hBk] at hb2; exact hb2.2.1
      have hbeg := run_beginRound (P := Tryd.prog) hl2 (by rw [hst])
      have hbusy : ({ st .ready none with state := .busy } : Loop) = st .busy none := by rw [hst]
      rw [hbusy] at hbeg
      refine ⟨_, hbeg, ?_⟩
      refine wpIn_mono (hbody _ pre x rest a2 _ hall (by have := hw2.size; simp; omega) (iPut hI _ hi2) (hAx x a2 W2 _ _ _ hax hl2 rfl)) ?_
      have hb3 := bkPut _ _ .busy none _ hb2
      have kx1 : Kx bs V.heap.size W1 (W2.putObj (w.heap.size + 1) (.loop (st .busy none))) := (Kx.of_below hw2).trans (Kx.put _ (by omega) hlL)
      have over : ∀ (jump : Option Code) (W3 : World), Kx bs w.heap.size (W2.putObj (w.heap.size + 1) (.loop (st .busy none))) W3 →
          ∃ W4, (Instr.endRound (w.heap.size + 1) jump).run Tryd.prog W3 = .ok (.bool jump.isNone) W4 ∧ W4 = W3.putObj (w.heap.size + 1) (.loop (st (if jump.isNone then .ready else .done) jump)) ∧
            Kx bs V.heap.size W1 W4 ∧ Bk (if jump.isNone then .ready else .done) jump W4 ∧ W3.heap[w.heap.size + 1]? = some (.loop (st .busy none)) := fun jump W3 h3 => by
        have hb4 := bkKx _ _ _ _ hb3 h3
        have hl4 : W3.heap[w.heap.size + 1]? = some (.loop (st .busy none)) := by rw [hBk] at hb4; exact hb4.2.1
        have hend := run_endRound (P := Tryd.prog) jump hl4
        have hrec : ({ st .busy none with state := if jump.isNone then .ready else .done, pending := jump } : Loop) = st (if jump.isNone then .ready else .done) jump := by rw [hst]
        rw [hrec] at hend
        exact ⟨_, hend, rfl, (kx1.trans (h3.up hVw.size)).trans (Kx.put _ (by omega) hlL), bkPut _ _ _ _ _ hb4, hl4⟩
      rintro e a3 W3 hp
      cases e with
      | normal =>
        obtain ⟨W4, h1, h2, h3, h4, h5⟩ := over none W3 hp.1
        exact ⟨_, W4, h1, h3, .inl ⟨rfl, by rw [h2]; exact iPut hI _ hp.2, h4⟩⟩
      | ret =>
        obtain ⟨W4, h1, h2, h3, h4, h5⟩ := over (some .ret) W3 hp.1
        exact ⟨_, W4, h1, h3, .inr ⟨rfl, by rw [h2]; exact xPut _ h5 hp.2, h4⟩⟩
      | exit id => exact hp.elim
      | goto t => exact hp.elim
      | panic ch => exact hp.elim
      | outgrown => exact hp.elim
    · rintro e W2 ⟨⟨v, rfl⟩, h2⟩
      rcases h2 with ⟨hi, hb⟩ | ⟨pre, x, rest, hall, hi, hb⟩
      · rw [hBk] at hb
        have hend := run_endLoop (P := Tryd.prog) hb.2.1 (by rw [hst]; simp)
        rw [hst] at hend
        exact ⟨none, _, hend, hdone _ _ (Nat.le_refl _) (iPut hI _ hi) ((World.putObj_heap_other (by omega)).trans hb.2.2)⟩
      · rw [hBk] at hb
        have hend := run_endLoop (P := Tryd.prog) hb.2.1 (by rw [hst]; simp)
        rw [hst] at hend
        exact ⟨some .ret, _, hend, hstop _ pre x rest _ (Nat.le_refl _) hall (xPut _ hb.2.1 hi) ((World.putObj_heap_other (by omega)).trans hb.2.2)⟩
end Go.Proofs.YtckffliiidgilaaDoor
/- The function that hands out all faults of a part: its promise. -/
namespace Go.Proofs.YtckffliiidgilaaDoor
set_option linter.unusedVariables false
set_option linter.unusedSimpArgs false
open Go Go.RowKit Go.Shelf
attribute [local go_sem] Oper.semAt_some
theorem round_any {n n' l l' : Nat} {f : FuncId} {tmps : Array Value} {assign body : Code} {w : World} {R : Ending → World → Prop} (h : RoundIn Fence.wide n Tryd.prog l f tmps assign body w R) : RoundIn (Fence.wide.inRound l') n' Tryd.prog l f tmps assign body w R :=
  ⟨trivial, fun c cs _ => h.2 c cs (fun d hd => by cases hd)⟩
/-- A mark among the deferred calls. -/
def mk (D : Nat) : Deferred := { target := .collected D, args := #[] }
/-- The blocks of marks, each of them empty. -/
def Mks (B : Nat) (Ds : List Nat) (W : World) : Prop := Ds.Nodup ∧ ∀ D, D ∈ Ds → B ≤ D ∧ W.heap[D]? = some (.deferred (some []))
theorem Mks.nil (B : Nat) (W : World) : Mks B [] W := ⟨List.nodup_nil, fun D h => by cases h⟩
theorem Mks.lt {B : Nat} {Ds : List Nat} {W : World} (h : Mks B Ds W) {D : Nat} (hD : D ∈ Ds) : D < W.heap.size := (Array.getElem?_eq_some_iff.1 (h.2 D hD).2).1
theorem Mks.below {B C : Nat} {Ds : List Nat} {W W' : World} (h : Mks B Ds W) (hC : ∀ D, D ∈ Ds → D < C) (hb : Below C W W') : Mks B Ds W' := ⟨h.1, fun D hD => ⟨(h.2 D hD).1, (hb.block D (hC D hD)).trans (h.2 D hD).2⟩⟩
theorem Mks.kx {B : Nat} {bs Ds : List Nat} {W W' : World} (h : Mks B Ds W) (hk : Kx bs B W W') : Mks B Ds W' := ⟨h.1, fun D hD => ⟨(h.2 D hD).1, (hk.2 D (h.lt hD) (.inl (h.2 D hD).1)).trans (h.2 D hD).2⟩⟩
theorem Mks.cons {B D : Nat} {Ds : List Nat} {W : World} (h : Mks B Ds W) (hB : B ≤ D) (hn : ¬ D ∈ Ds) (hD : W.heap[D]? = some (.deferred (some []))) : Mks B (D :: Ds) W :=
  ⟨List.nodup_cons.2 ⟨hn, h.1⟩, fun E hE => by
    rcases List.mem_cons.1 hE with rfl | hE
    · exact ⟨hB, hD⟩
    · exact h.2 E hE⟩
/-- A function without results leaves: its marks are taken one by one. -/
theorem leave_marks {n : Nat} {fn : Func} {tmps : Array Value} {R : Ending → World → Prop} {B : Nat} {v : Value} : ∀ (Ds : List Nat) (W : World), Mks B Ds W →
    (∀ W', Below B W W' → CKept W W' → (results fn tmps).run Tryd.prog W' = .ok v W' ∧ R (.returned v) W') → LeavesInM Fence.wide n Tryd.prog fn tmps R (Ds.map mk) .returning W
  | [], W, _, h => ⟨v, (h W (Below.refl _ _) (CKept.refl _)).1, (h W (Below.refl _ _) (CKept.refl _)).2⟩
  | D :: Ds, W, hm, h => by
    have hD := hm.2 D (by simp)
    have hn := List.nodup_cons.1 hm.1
    refine ⟨by simp, .inl ⟨D, _, rfl, run_takeDeferred hD.2, ?_⟩⟩
    refine leave_marks Ds _ ⟨hn.2, fun E hE => ⟨(hm.2 E (by simp [hE])).1, ?_⟩⟩ (fun W' hb hc => h W' ((below_put _ hD.1).trans hb) ((CKept.put hD.2 rfl _).trans hc))
    exact (World.putObj_heap_other (fun e => hn.1 (by rw [← e]; exact hE))).trans (hm.2 E (by simp [hE])).2
end Go.Proofs.YtckffliiidgilaaDoor
/- Lists of lists that a call of the model's search lays. -/
namespace Go.Proofs.YtckffliiidgilaaDoor
set_option linter.unusedVariables false
set_option linter.unusedSimpArgs false
open Go Go.RowKit Go.Shelf
/-- A list of lists in memory of the call's own; it is never nil. -/
def LLb (R : Nat) (w : World) (B : Nat) (v : Value) (L : List (List Int)) : Prop :=
  v ≠ .slice none 0 0 ∧ ∃ xs, w.ownsRow B 25 1 v L.length xs ∧ ∀ (i : Nat) (zs : List Int), L[i]? = some zs → ∃ a cap, xs[i]? = some (Value.slice a zs.length cap) ∧ OwnL w R a zs
theorem LLb.below {R : Nat} {w w' : World} {B : Nat} {v : Value} {L : List (List Int)} (h : LLb R w B v L) (hb : Below w.heap.size w w') : LLb R w' B v L := by
  obtain ⟨hv, xs, h1, h2⟩ := h
  refine ⟨hv, xs, own_below h1 hb (Nat.le_refl _), fun i zs hi => ?_⟩
  obtain ⟨a, cap, h3, h4⟩ := h2 i zs hi
  exact ⟨a, cap, h3, h4.below hb (Nat.le_refl _)⟩
theorem LLb.base {R : Nat} {w : World} {B B' : Nat} {v : Value} {L : List (List Int)} (h : LLb R w B v L) (hB : B' ≤ B) : LLb R w B' v L := by
  obtain ⟨hv, xs, h1, h2⟩ := h
  exact ⟨hv, xs, own_base h1 hB, h2⟩
theorem LLb.row {R : Nat} {w : World} {B : Nat} {v : Value} {L : List (List Int)} (h : LLb R w B v L) : ∀ r, v.ownBlock = some r → B ≤ r ∧ ∃ C, Blk w r C 25 := by
  obtain ⟨hv, xs, ⟨hxl, h | ⟨g, cap, cur, hv2, hg, hc, _⟩⟩, _⟩ := h
  · exact absurd h.1 hv
  · intro r hr; rw [hv2] at hr; cases hr; exact ⟨hg, cur, hc⟩
theorem LLb.at {R : Nat} {w : World} {B : Nat} {v : Value} {L : List (List Int)} (h : LLb R w B v L) : ∃ g cap xs, v = .slice (some ⟨g, 0, none⟩) L.length cap ∧ B ≤ g ∧ g < w.heap.size ∧ w.ownsRow B 25 1 v L.length xs ∧ xs.length = L.length ∧ (∀ j u, xs[j]? = some u → w.cell? ⟨g, j, none⟩ = some u) ∧
    ∀ (i : Nat) (zs : List Int), L[i]? = some zs → ∃ a cap, xs[i]? = some (Value.slice a zs.length cap) ∧ OwnL w R a zs := by
  obtain ⟨hv, xs, ⟨hxl, h | ⟨g, cap, cur, hv2, hg, hc, hn, hm, hs, ht⟩⟩, h2⟩ := h
  · exact absurd h.1 hv
  · have hb : Blk w g cur 25 := hc
    refine ⟨g, cap, xs, hv2, hg, hb.lt, ⟨hxl, .inr ⟨g, cap, cur, hv2, hg, hc, hn, hm, hs, ht⟩⟩, by omega, fun j u hu => ?_, h2⟩
    refine hb.cell ?_
    have hj := (List.getElem?_eq_some_iff.1 hu).1
    rw [← ht, List.getElem?_take, if_pos (by omega)] at hu
    simpa using hu
/-- One list of lists behind another. -/
theorem LLb.app {R : Nat} {W Y : World} {B : Nat} {v v' : Value} {L L2 : List (List Int)} {xs xs2 : List Value}
    (hx : ∀ (i : Nat) (zs : List Int), L[i]? = some zs → ∃ a cap, xs[i]? = some (Value.slice a zs.length cap) ∧ OwnL W R a zs) (hxl : xs.length = L.length)
    (hx2 : ∀ (i : Nat) (zs : List Int), L2[i]? = some zs → ∃ a cap, xs2[i]? = some (Value.slice a zs.length cap) ∧ OwnL W R a zs)
    (hr : ∀ r, v.ownBlock = some r → ∃ C, Blk W r C 25) (hg : W.grownBy Y v.ownBlock) (hv' : v' ≠ .slice none 0 0)
    (hown : Y.ownsRow B 25 1 v' (L.length + L2.length) (xs ++ xs2)) : LLb R Y B v' (L ++ L2) := by
  refine ⟨hv', xs ++ xs2, by rw [List.length_append]; exact hown, fun i zs hi => ?_⟩
  by_cases hl : i < L.length
  · rw [List.getElem?_append_left hl] at hi
    obtain ⟨a, c, h1, h2⟩ := hx i zs hi
    exact ⟨a, c, by rw [List.getElem?_append_left (by omega)]; exact h1, h2.grown hg hr⟩
  · rw [List.getElem?_append_right (by omega)] at hi
    obtain ⟨a, c, h1, h2⟩ := hx2 _ zs hi
    exact ⟨a, c, by rw [List.getElem?_append_right (by omega), hxl]; exact h1, h2.grown hg hr⟩
theorem LLb.empty {R : Nat} {w : World} {B : Nat} (hB : B ≤ w.heap.size) : LLb R (w.alloc (.cells #[] 25)) B (.slice (some ⟨w.heap.size, 0, none⟩) 0 0) [] :=
  ⟨by simp, [], ⟨rfl, .inr ⟨w.heap.size, 0, #[], rfl, hB, Blk.new _ _ _ _ rfl, Nat.le_refl _, by simp [maxLen], rfl, rfl⟩⟩, fun i zs h => by simp at h⟩
theorem LLb.one {R : Nat} {w : World} {B : Nat} {b : Option Addr} {cs : List Int} {cap : Nat} (hB : B ≤ w.heap.size) (h : OwnL w R b cs) : LLb R (w.alloc (.cells #[.slice b cs.length cap] 25)) B (.slice (some ⟨w.heap.size, 0, none⟩) 1 1) [cs] := by
  refine ⟨by simp, [.slice b cs.length cap], ⟨rfl, .inr ⟨w.heap.size, 1, _, rfl, hB, Blk.new _ _ _ _ rfl, Nat.le_refl _, by simp [maxLen], rfl, rfl⟩⟩, fun i zs hi => ?_⟩
  cases i with
  | zero =>
    simp at hi
    subst hi
    exact ⟨b, cap, rfl, h.below ((Below.refl w.heap.size w).alloc (Nat.le_refl _) _) (Nat.le_refl _)⟩
  | succ i => simp at hi
/-- The world behind an append to a row of the call's own. -/
theorem Below.onRow {B : Nat} {w X Y : World} {v : Value} (h : Below B w X) (hB : B ≤ X.heap.size) (hg : X.grownBy Y v.ownBlock) (hr : ∀ r, v.ownBlock = some r → B ≤ r) : Below B w Y :=
  h.trans ⟨hg.os, hg.tape, hg.output, hg.size, fun k hk => hg.block k (by omega) (by intro e; have := hr k e.symm; omega)⟩
theorem OwnL.base0 {w : World} {B : Nat} {a : Option Addr} {zs : List Int} (h : OwnL w B a zs) : OwnL w 0 a zs := by
  rcases h with h | ⟨g, C, h1, h2⟩
  · exact .inl h
  · exact .inr ⟨g, C, Nat.zero_le _, h2⟩
theorem OwnL.cells {w : World} {B g : Nat} {zs : List Int} (h : OwnL w B (some ⟨g, 0, none⟩) zs) (j : Nat) (hj : j < zs.length) : w.cell? ⟨g, j, none⟩ = some (.int .i64 (zs.getD j 0)) := by
  rcases h with h | ⟨g', C, h1, h2, h3, h4, h5⟩
  · rw [h] at hj; simp at hj
  · cases h2
    exact h3.cell (h5 j hj)
theorem OwnL.baseR {w : World} {B R : Nat} {a : Option Addr} {zs : List Int} (h : OwnL w B a zs) (hR : R ≤ B) : OwnL w R a zs := by
  rcases h with h | ⟨g, C, h1, h2⟩
  · exact .inl h
  · exact .inr ⟨g, C, Nat.le_trans hR h1, h2⟩
set_option maxRecDepth 100000 in
set_option maxHeartbeats 4000000 in
theorem own63g (zs : List Int) (g cap : Nat) (w : World) (hc : ∀ j, j < zs.length → w.cell? ⟨g, j, none⟩ = some (.int .i64 (zs.getD j 0))) (hl : zs.length ≤ 1000) :
    Calls Tryd.prog 102 #[.slice (some ⟨g, 0, none⟩) zs.length cap] w fun e w' => ∃ g' c', e = .returned (.slice (some ⟨g', 0, none⟩) zs.length c') ∧ w'.ownsRow w.heap.size 2 1 (.slice (some ⟨g', 0, none⟩) zs.length c') zs.length (icells zs) ∧ Below w.heap.size w w' := by
  obtain ⟨t0, hi2, hz0, hz1, hz3⟩ := info_parts info2
  have HIF := hidd (And.intro hi2 (And.intro hz0 (And.intro hz1 hz3)))
  have HCC := hidd hc
  have HL := hidd (icells_len zs)
  clear hi2 hz0 hz1 hz3 hc
  go_enter Tryd.func102, Tryd.ntmps102
  go_wp2_with (at_builtin; refine wpList_append_own _ rfl _ _ 25 rfl w.heap.size 2 t0 (.int .i64 0) 1 8 Tryd.underlying25 HIF.out.1 HIF.out.2.1 HIF.out.2.2.1 HIF.out.2.2.2 rfl (by decide) _ 0 [] rfl ⟨rfl, .inr ⟨w.heap.size, 0, #[], rfl, Nat.le_refl _, Blk.new _ _ _ _ rfl, Nat.le_refl _, by simp [maxLen], rfl, rfl⟩⟩ ⟨g, 0, none⟩ zs.length cap (icells zs) rfl ?c1 ?c2 ?c3 ?c4 ?c5 ?c6 ?_)
  case c1 => rw [HL.out]; omega
  case c2 =>
    intro j u hu
    have hj : j < zs.length := by have := (List.getElem?_eq_some_iff.1 hu).1; rw [HL.out] at this; exact this
    rw [Addr.add_mid, Nat.zero_add]
    rw [cell_below (HCC.out j hj) ((Below.refl w.heap.size w).alloc (Nat.le_refl _) _)]
    have := icells_get hj
    rw [List.getElem?_toArray] at this
    rw [← hu, this]
  case c3 => intro u hu; obtain ⟨z, _, rfl⟩ := List.mem_map.1 hu; rfl
  case c4 => unfold maxLen; omega
  case c5 => omega
  case c6 => simp
  intro v' w3 hown hgrow hnil
  have hne : v' ≠ .slice none 0 0 := hnil
  obtain ⟨h1, h2 | ⟨g', c', cur, hv, h3⟩⟩ := hown
  · exact absurd h2.1 hne
  · subst hv
    have hb : Below w.heap.size w w3 := Below.onRow (v := .slice (some ⟨w.heap.size, 0, none⟩) 0 0) ((Below.refl w.heap.size w).alloc (Nat.le_refl _) _) (by simp) hgrow (fun r hr => by cases hr; exact Nat.le_refl _)
    have HF := hidd (show w3.ownsRow w.heap.size 2 1 (.slice (some ⟨g', 0, none⟩) zs.length c') zs.length (icells zs) ∧ Below w.heap.size w w3 from ⟨⟨h1, .inr ⟨g', c', cur, rfl, h3⟩⟩, hb⟩)
    clear hb h1 h3 hne hgrow hnil
    go_wp2_with fail
    go_ret
    exact ⟨g', c', rfl, HF.out.1, HF.out.2⟩
end Go.Proofs.YtckffliiidgilaaDoor
/- l05Search: the model's search for extensions. -/
namespace Go.Proofs.YtckffliiidgilaaDoor
set_option linter.unusedVariables false
set_option linter.unusedSimpArgs false
open Go Go.RowKit Go.Shelf
/-- The memory that a call of the search is handed. -/
structure Ex (R N K : Nat) (zs : List Int) (bl off gs gb : Nat) (s : Nat → Nat) (cs : List Int) (w : World) : Prop where
  zc : ∀ j, j < K → w.cell? ⟨bl, off + j, none⟩ = some (.int .i64 (zs.getD j 0))
  st : BgL w (some ⟨gs, 0, none⟩) (dgL K s)
  co : OwnL w R (some ⟨gb, 0, none⟩) cs
  rb : R ≤ w.heap.size
theorem Ex.below {R N K : Nat} {zs : List Int} {bl off gs gb : Nat} {s : Nat → Nat} {cs : List Int} {w w' : World} (h : Ex R N K zs bl off gs gb s cs w) {B : Nat} (hb : Below B w w') (hB : w.heap.size ≤ B) : Ex R N K zs bl off gs gb s cs w' :=
  ⟨fun j hj => cell_below (h.zc j hj) (hb.mono hB), h.st.below hb hB, h.co.below hb hB, Nat.le_trans h.rb (hb.mono hB).size⟩
def ExCall (R : Nat) (bs : List Nat) (N K : Nat) (zs : List Int) (bl off cap r : Nat) : Prop :=
  ∀ (s : Nat → Nat) (cs : List Int) (gs css gb cb M : Nat) (w : World), Ex R N K zs bl off gs gb s cs w → (∀ c, c < K → s c < 2 ^ (N - r)) → cs.length + r = N → 1 ≤ M → M ≤ 1048576 →
    Calls Tryd.prog 83 #[.agg (ccells (N : Int) (K : Int) bs).toArray, .slice (some ⟨bl, off, none⟩) K cap, .slice (some ⟨gb, 0, none⟩) cs.length cb, .slice (some ⟨gs, 0, none⟩) K css, .int .i64 (M : Int)] w fun e w' =>
      ∃ v, e = .returned v ∧ LLb R w' w.heap.size v ((exL (okx bs N zs) K N r s cs).take M) ∧ Below w.heap.size w w'
theorem slices_one {R : Nat} {w : World} {L : List (List Int)} {xs : List Value} (hl : xs.length = L.length) (h : ∀ (i : Nat) (zs : List Int), L[i]? = some zs → ∃ a cap, xs[i]? = some (Value.slice a zs.length cap) ∧ OwnL w R a zs) : ∀ u ∈ xs, u.oneCell' = true := by
  intro u hu
  obtain ⟨i, hi, rfl⟩ := List.getElem_of_mem hu
  obtain ⟨a, cap, h1, _⟩ := h i L[i] (List.getElem?_eq_getElem (by omega))
  rw [List.getElem?_eq_getElem hi] at h1
  rw [Option.some.inj h1]
  rfl
set_option maxRecDepth 100000 in
set_option maxHeartbeats 4000000 in
theorem exs_leaf (R N K : Nat) (bs : List Nat) (hb : Bys bs) (zs : List Int) (bl off cap : Nat) (hN12 : N ≤ 17) : ExCall R bs N K zs bl off cap 0 := by
  intro s cs gs css gb cb M w hE hs hl hM1 hM
  have HS := hidd (size_c26 (N : Int) (K : Int) hb)
  have hres : (exL (okx bs N zs) K N 0 s cs).take M = [cs] := by
    rw [exL]
    obtain ⟨m, rfl⟩ : ∃ m, M = m + 1 := ⟨M - 1, by omega⟩
    simp
  rw [hres]
  have HLL := hidd (LLb.one (w := w.alloc (.cells (ccells (N : Int) (K : Int) bs).toArray 28)) (B := w.heap.size) (b := some ⟨gb, 0, none⟩) (cs := cs) (cap := cb) (by simp) (hE.co.below ((Below.refl w.heap.size w).alloc (Nat.le_refl _) _) (Nat.le_refl _)))
  have c0 := (Blk.new w (ccells (N : Int) (K : Int) bs).toArray 28 _ rfl).cell (j := 0) (show _ = some (Value.int .i64 (N : Int)) from rfl)
  have hcl : cs.length = N := by omega
  rw [hcl, show (w.alloc (.cells (ccells (N : Int) (K : Int) bs).toArray 28)).heap.size = w.heap.size + 1 by simp] at HLL
  rw [hcl]
  have hnn : ((N : Int) == (N : Int)) = true := by simp
  have hNw : IntKind.i64.wrap (N : Int) = (N : Int) := IntWalk.i64_in _ (by omega)
  clear hE hs hl hres hcl
  go_enter Tryd.func83, Tryd.ntmps83
  go_wp2_with fail
  go_ret
  exact ⟨_, rfl, HLL.out, ((Below.refl w.heap.size w).alloc (Nat.le_refl _) _).alloc (by simp) _⟩
set_option maxRecDepth 100000 in
set_option maxHeartbeats 8000000 in
theorem exs_step (R N K : Nat) (bs : List Nat) (hb : Bys bs) (zs : List Int) (bl off cap : Nat) (n1 : 1 ≤ N) (hN12 : N ≤ 12) (hK1 : 1 ≤ K) (hK : K ≤ 4) (h2 : no1 zs K) (hsz : szP zs K = true) (r : Nat) (hr : r + 1 ≤ N) (IH : ExCall R bs N K zs bl off cap r) : ExCall R bs N K zs bl off cap (r + 1) := by
  intro s cs gs css gb cb M w hE hs hl hM1 hM
  obtain ⟨t0, hi2, hz0, hz1, hz3⟩ := info_parts info2
  have HI2 := hidd (And.intro hi2 (And.intro hz0 (And.intro hz1 hz3)))
  obtain ⟨t5, hi25, hy0, hy1, hy3⟩ := info_parts info25
  have HI25 := hidd (And.intro hi25 (And.intro hy0 (And.intro hy1 hy3)))
  clear hi2 hz0 hz1 hz3 hi25 hy0 hy1 hy3
  have HIH := hidd IH
  have HS := hidd (size_c26 (N : Int) (K : Int) hb)
  have HSL := hidd (show (Tryd.prog.info? 28).map (·.size) = some (ccells (N : Int) (K : Int) bs).length from size_l28 _ _ hb)
  have HC0 := hidd (show (ccells (N : Int) (K : Int) bs).toArray[0]? = some (.int .i64 (N : Int)) from rfl)
  have HC1 := hidd (show (ccells (N : Int) (K : Int) bs).toArray[1]? = some (.int .i64 (K : Int)) from rfl)
  have HB := hidd hb
  obtain ⟨n, hn⟩ : ∃ n, n = cs.length := ⟨_, rfl⟩
  have hnr : N - (r + 1) = n := by omega
  have hnN : n < N := by omega
  have hr1 : N - r = n + 1 := by omega
  have hnn : ((n : Int) == (N : Int)) = false := by rw [beq_eq_false_iff_ne]; omega
  obtain ⟨T, hT⟩ : ∃ T, T = (exL (okx bs N zs) K N (r + 1) s cs).take M := ⟨_, rfl⟩
  obtain ⟨O, hO⟩ : ∃ O : Nat → List (List Int), O = fun c => (pfE (okx bs N zs) K N r s cs c).take M := ⟨_, rfl⟩
  have HO0 := hidd (show O 0 = [] by rw [hO]; show (pfE _ _ _ _ _ _ 0).take M = []; rw [pfE_0]; simp)
  have HON := hidd (fun c (h : okx bs N zs c n (s c) = false) => (show O (c + 1) = O c by rw [hO]; show (pfE _ _ _ _ _ _ (c + 1)).take M = _; rw [pfE_no (by rw [hnr]; exact h)]))
  have HOL := hidd (fun c => (show (O c).length ≤ M by rw [hO]; show ((pfE _ _ _ _ _ _ c).take M).length ≤ M; rw [List.length_take]; omega))
  have HOY := hidd (fun c (h : okx bs N zs c n (s c) = true) (hlm : (O c).length < M) => (show O (c + 1) = O c ++ (exL (okx bs N zs) K N r (setF s c (s c ||| 2 ^ n)) (cs ++ [(c : Int)])).take (M - (O c).length) by
    have hp : O c = pfE (okx bs N zs) K N r s cs c := by
      rw [hO] at hlm ⊢
      have h3 : ((pfE (okx bs N zs) K N r s cs c).take M).length < M := hlm
      show (pfE (okx bs N zs) K N r s cs c).take M = _
      refine List.take_of_length_le ?_
      rw [List.length_take] at h3
      omega
    have h4 : O (c + 1) = (pfE (okx bs N zs) K N r s cs (c + 1)).take M := by rw [hO]
    rw [h4, pfE_yes (by rw [hnr]; exact h), List.take_append, hp, hnr]
    congr 1
    refine List.take_of_length_le ?_
    rw [hp] at hlm
    omega))
  have HOK := hidd (show O K = T by rw [hO, hT]; show (pfE _ _ _ _ _ _ K).take M = _; rw [pfE_K])
  have HOM := hidd (fun c (hc : c ≤ K) (h : M ≤ (O c).length) => (show O c = T by
    have h3 : M ≤ ((pfE (okx bs N zs) K N r s cs c).take M).length := by rw [hO] at h; exact h
    rw [List.length_take] at h3
    rw [hO, hT]; exact pfE_full hc (by omega)))
  have HCL := hidd (fun (c : Nat) => (show (cs ++ [(c : Int)]).length = n + 1 by rw [List.length_append, ← hn]; rfl))
  have HCR := hidd (show n + 1 + r = N by omega)
  have HIC := hidd (fun (c : Nat) => (show icells cs ++ [.int .i64 (c : Int)] = icells (cs ++ [(c : Int)]) by rw [icells_app]; rfl))
  rw [← hT, ← hn]
  have HSZ := hidd (fun c (hc : c < K) => inB_bd (szP_get hsz hc))
  have HN1 := hidd h2
  have HSS := hidd (fun c (hc : c < K) => (show s c < 2 ^ n by have := hs c hc; rwa [hnr] at this))
  have HCS := hidd (fun W (h : Ex R N K zs bl off gs gb s cs W) c (hc : c < K) => (show W.cell? ⟨gs, c, none⟩ = some (.int .i64 (s c : Int)) from h.st.cell (by rw [dgL_len]; exact hc) (by rw [dgL_get hc])))
  have HOC := hidd (fun W (h : Ex R N K zs bl off gs gb s cs W) => (show Calls Tryd.prog 102 #[.slice (some ⟨gb, 0, none⟩) n cb] W fun e w' => ∃ g' c', e = .returned (.slice (some ⟨g', 0, none⟩) n c') ∧ w'.ownsRow W.heap.size 2 1 (.slice (some ⟨g', 0, none⟩) n c') n (icells cs) ∧ Below W.heap.size W w' by
    have h1 := own63g cs gb cb W (fun j hj => h.co.cells j hj) (by omega)
    rw [← hn] at h1
    exact h1))
  have hB00 := (Below.refl w.heap.size w).alloc (Nat.le_refl _) (.cells (ccells (N : Int) (K : Int) bs).toArray 28)
  have G := hidd (show Blk (w.alloc (.cells (ccells (N : Int) (K : Int) bs).toArray 28)) w.heap.size (ccells (N : Int) (K : Int) bs).toArray 28 ∧ Ex R N K zs bl off gs gb s cs (w.alloc (.cells (ccells (N : Int) (K : Int) bs).toArray 28)) ∧ Below w.heap.size w (w.alloc (.cells (ccells (N : Int) (K : Int) bs).toArray 28)) ∧ (w.alloc (.cells (ccells (N : Int) (K : Int) bs).toArray 28)).heap.size = w.heap.size + 1 from
    ⟨Blk.new _ _ _ _ rfl, hE.below hB00 (Nat.le_refl _), hB00, by simp⟩)
  obtain ⟨W0, hW0⟩ : ∃ W0, W0 = w.alloc (.cells (ccells (N : Int) (K : Int) bs).toArray 28) := ⟨_, rfl⟩
  rw [← hW0] at G
  have HNC := hidd hn
  obtain ⟨B0, hB0⟩ : ∃ B0, B0 = W0.heap.size := ⟨_, rfl⟩
  have HB0 := hidd hB0
  have HBK := hidd (fun W (h : Below B0 W0 W) => (And.intro (G.out.1.below h (by rw [HB0.out]; exact G.out.1.lt)) (And.intro (G.out.2.1.below h (Nat.le_of_eq HB0.out.symm)) (G.out.2.2.1.trans (h.mono (by rw [HB0.out, G.out.2.2.2]; omega))))))
  have hNw : IntKind.i64.wrap (n : Int) = (n : Int) := IntWalk.i64_in _ (by omega)
  have c0 := G.out.1.cell HC0.out
  clear hE hs hl hT hO hn hnr IH hsz h2 hb hB00 hB0
  go_enter Tryd.func83, Tryd.ntmps83
  go_upto_region 1 with fail
  rw [← hW0]
  clear hW0
  go_upto_region 5 with fail
  have HLE := hidd (show LLb R (W0.alloc (.cells #[] 25)) B0 (.slice (some ⟨W0.heap.size, 0, none⟩) 0 0) (O 0) ∧ Below B0 W0 (W0.alloc (.cells #[] 25)) from by
    rw [HO0.out, HB0.out]; exact ⟨LLb.empty (Nat.le_refl _), (Below.refl _ _).alloc (Nat.le_refl _) _⟩)
  clear c0
  go_wp2_with fail
  go_loopw [12, 13] (fun v e wr => ∃ c g0 cap0 : Nat, c ≤ K ∧ v = .slice (some ⟨g0, 0, none⟩) (O c).length cap0 ∧ e = .int .i64 (c : Int) ∧ Hid (LLb R wr B0 (.slice (some ⟨g0, 0, none⟩) (O c).length cap0) (O c) ∧ Below B0 W0 wr)) (fun _ e _ => K - (intOf e).toNat)
  case atStart => exact ⟨0, W0.heap.size, 0, Nat.zero_le _, by rw [HO0.out]; rfl, rfl, by rw [HO0.out]; have := HLE.out.1; rw [HO0.out] at this; exact this, HLE.out.2⟩
  case round =>
  obtain ⟨c, g0, cap0, hc, rfl, rfl, HK⟩ := hrel
  have c1 := (HBK.out wr HK.out.2).1.cell HC1.out
  obtain ⟨ln, hln⟩ : ∃ ln, ln = (O c).length := ⟨_, rfl⟩
  have hlnM : ln ≤ M := by rw [hln]; exact HOL.out c
  rw [← hln] at HK ⊢
  have HLN := hidd hln
  clear hln
  by_cases hlt : c < K
  · have hltI : decide ((c : Int) < (K : Int)) = true := by simp; omega
    by_cases hlm : ln < M
    · have hlmI : decide ((ln : Int) < (M : Int)) = true := by simp; omega
      have hz := HSZ.out c hlt
      have hz2 := HN1.out c hlt
      have hsc := HSS.out c hlt
      obtain ⟨m, hm⟩ : ∃ m : Nat, zs.getD c 0 = (m : Int) + 2 := ⟨(zs.getD c 0).toNat - 2, by omega⟩
      have hm17 : m ≤ 15 := by omega
      have hok : okx bs N zs c n (s c) = !hasK (rwN bs (c : Int) N) N m (s c &&& rwN bs (c : Int) N n) := by unfold okx; rw [hm]; congr 2
      have hxr := (HBK.out wr HK.out.2).2.1
      have cz := hxr.zc c hlt
      rw [hm] at cz
      have cs0 := HCS.out wr hxr c hlt
      have HCZ := hidd (fun W (h : Below wr.heap.size wr W) => cell_below cz h)
      have HCT := hidd (fun W (h : Below wr.heap.size wr W) => cell_below cs0 h)
      have HAR := hidd (fun W => around63 (N : Int) (K : Int) bs HB.out (n : Int) (c : Int) W (by omega) (by omega) (by omega) (by omega))
      obtain ⟨rw', hrw⟩ : ∃ rw', rw' = rwN bs (c : Int) N n := ⟨_, rfl⟩
      rw [Int.toNat_natCast, show arK (nbB bs (n : Int) (c : Int)) N = rwN bs (c : Int) N n from rfl, ← hrw] at HAR
      rw [← hrw] at hok
      obtain ⟨sc, hsce⟩ : ∃ sc, sc = s c := ⟨_, rfl⟩
      rw [← hsce] at hok hsc HCT
      have hs17 : sc < 2 ^ 12 := Nat.lt_of_lt_of_le hsc (Nat.pow_le_pow_right (by decide) (by omega))
      clear hsc
      have hr17 : rw' < 2 ^ 17 := by rw [hrw]; unfold rwN; exact Nat.lt_of_lt_of_le (arK_lt _ _) (Nat.pow_le_pow_right (by decide) (by omega))
      have hand := i64_and_nat sc rw' (by omega) (by omega)
      have hA17 : sc &&& rw' < 2 ^ 17 := Nat.lt_of_le_of_lt Nat.and_le_left (by omega)
      obtain ⟨A, hA⟩ : ∃ A, A = sc &&& rw' := ⟨_, rfl⟩
      rw [← hA] at hand hA17 hok
      have HCQ := hidd (fun W => clq69 N (K : Int) (c : Int) bs HB.out n1 (by omega) m (by omega) A hA17 W)
      obtain ⟨x, hx⟩ : ∃ x, x = hasK (rwN bs (c : Int) N) N m A := ⟨_, rfl⟩
      rw [← hx] at HCQ hok
      have hlt2 : decide ((m : Int) + 2 < 2) = false := by simp; omega
      have hmw : IntKind.i64.wrap (m : Int) = (m : Int) := IntWalk.i64_in _ (by omega)
      have HOKX := hidd hok
      have HSE := hidd hsce
      have HBW := hidd (HBK.out wr HK.out.2).1
      clear hsce hxr
      clear cz cs0 hm hz hz2 hrw hA hx hok
      go_wp2_with fail
      refine wp_region_quiet_at (fun w' => Below wr.heap.size wr w') rfl (by kernel_rfl) ((Below.refl _ _).drew) ?_
      refine qs rfl (fun KQ hKQ => ?_)
      apply Exists.intro
      refine ⟨fun w' hw' => ?_, ?_⟩
      · go_simp; exact rfl
      go_simp
      refine hKQ _ ?_
      clear hKQ KQ
      refine qs rfl (fun KQ hKQ => ?_)
      apply Exists.intro
      refine ⟨fun w' hw' => ?_, ?_⟩
      · go_simp; exact rfl
      go_simp
      refine hKQ _ ?_
      clear hKQ KQ
      refine qs rfl (fun KQ hKQ => ?_)
      apply Exists.intro
      refine ⟨fun w' hw' => ?_, ?_⟩
      · go_simp; exact rfl
      go_simp
      refine hKQ _ ?_
      clear hKQ KQ
      refine qs rfl (fun KQ hKQ => ?_)
      apply Exists.intro
      refine ⟨fun w' hw' => ?_, ?_⟩
      · have e1 := HCZ.out w' hw'; go_simp; exact rfl
      go_simp
      refine hKQ _ ?_
      clear hKQ KQ
      refine qs rfl (fun KQ hKQ => ?_)
      apply Exists.intro
      refine ⟨fun w' hw' => ?_, ?_⟩
      · go_simp; exact rfl
      go_simp
      refine hKQ _ ?_
      clear hKQ KQ
      refine qs rfl (fun KQ hKQ => ?_)
      apply Exists.intro
      refine ⟨fun w' hw' => ?_, ?_⟩
      · go_simp; exact rfl
      go_simp
      refine hKQ _ ?_
      clear hKQ KQ
      go_big_quiet_want
      rename_i KQ hKQ
      apply Exists.intro
      refine ⟨fun w' hw' => ?_, ?_⟩
      · exact quietRow 28 (.tmp 5) rfl w.heap.size rfl 28 _ _ (HBW.out.below hw' HBW.out.lt) Tryd.underlying28 rfl HS.out
      go_simp
      refine hKQ _ ?_
      clear hKQ KQ
      go_big_quiet_want
      rename_i KQ hKQ
      apply Exists.intro
      refine ⟨fun w' hw' => ?_, ?_⟩
      · go_simp; exact rfl
      go_simp
      refine hKQ _ ?_
      clear hKQ KQ
      go_big_quiet_want
      rename_i KQ hKQ
      apply Exists.intro
      refine ⟨fun w' hw' => ?_, ?_⟩
      · go_simp; exact rfl
      go_simp
      refine hKQ _ ?_
      clear hKQ KQ
      go_big_quiet_want
      rename_i KQ hKQ
      apply Exists.intro
      refine ⟨fun w' hw' => ?_, ?_⟩
      · go_simp; exact rfl
      go_simp
      refine hKQ _ ?_
      clear hKQ KQ
      go_big_quiet_want
      rename_i KQ hKQ
      apply Exists.intro
      refine ⟨fun w' hw' => ?_, ?_⟩
      · go_simp; exact rfl
      go_simp
      refine hKQ _ ?_
      clear hKQ KQ
      go_big_quiet_want
      rename_i KQ hKQ
      apply Exists.intro
      refine ⟨fun w' hw' => ?_, ?_⟩
      · have e1 := HCT.out w' hw'; go_simp; exact rfl
      go_simp
      refine hKQ _ ?_
      clear hKQ KQ
      go_big_quiet_want
      rename_i KQ hKQ
      apply Exists.intro
      refine ⟨fun w' hw' => ?_, ?_⟩
      · exact quietRow 28 (.tmp 5) rfl w.heap.size rfl 28 _ _ (HBW.out.below hw' HBW.out.lt) Tryd.underlying28 rfl HS.out
      go_simp
      refine hKQ _ ?_
      clear hKQ KQ
      go_big_quiet_want
      rename_i KQ hKQ
      apply Exists.intro
      refine ⟨fun w' hw' => ?_, ?_⟩
      · go_simp; exact rfl
      go_simp
      refine hKQ _ ?_
      clear hKQ KQ
      go_big_quiet_want
      rename_i KQ hKQ
      apply Exists.intro
      refine ⟨fun w' hw' => ?_, ?_⟩
      · go_simp; exact rfl
      go_simp
      refine hKQ _ ?_
      clear hKQ KQ
      go_big_quiet_want
      rename_i KQ hKQ
      apply Exists.intro
      refine ⟨fun w' hw' => ?_, ?_⟩
      · go_simp; exact (HAR.out _).mono fun _ _ h => ⟨h.1, hw'.trans (h.2.mono hw'.size)⟩
      go_simp
      refine hKQ _ ?_
      clear hKQ KQ
      go_big_quiet_want
      rename_i KQ hKQ
      apply Exists.intro
      refine ⟨fun w' hw' => ?_, ?_⟩
      · go_simp; exact rfl
      go_simp
      refine hKQ _ ?_
      clear hKQ KQ
      go_big_quiet_want
      rename_i KQ hKQ
      apply Exists.intro
      refine ⟨fun w' hw' => ?_, ?_⟩
      · go_simp; exact rfl
      go_simp
      refine hKQ _ ?_
      clear hKQ KQ
      go_big_quiet_want
      rename_i KQ hKQ
      apply Exists.intro
      refine ⟨fun w' hw' => ?_, ?_⟩
      · go_simp; exact rfl
      go_simp
      refine hKQ _ ?_
      clear hKQ KQ
      go_big_quiet_want
      rename_i KQ hKQ
      apply Exists.intro
      refine ⟨fun w' hw' => ?_, ?_⟩
      · go_simp; exact rfl
      go_simp
      refine hKQ _ ?_
      clear hKQ KQ
      go_big_quiet_want
      rename_i KQ hKQ
      apply Exists.intro
      refine ⟨fun w' hw' => ?_, ?_⟩
      · have e1 := HCZ.out w' hw'; go_simp; exact rfl
      go_simp
      refine hKQ _ ?_
      clear hKQ KQ
      go_big_quiet_want
      rename_i KQ hKQ
      apply Exists.intro
      refine ⟨fun w' hw' => ?_, ?_⟩
      · go_simp; exact rfl
      go_simp
      refine hKQ _ ?_
      clear hKQ KQ
      go_big_quiet_want
      rename_i KQ hKQ
      apply Exists.intro
      refine ⟨fun w' hw' => ?_, ?_⟩
      · go_simp; exact (HCQ.out _).mono fun _ _ h => ⟨h.1, hw'.trans (h.2.mono hw'.size)⟩
      go_simp
      refine hKQ _ ?_
      clear hKQ KQ
      refine qs rfl (fun KQ hKQ => ?_)
      apply Exists.intro
      refine ⟨fun w' hw' => ?_, ?_⟩
      · go_simp; exact rfl
      go_simp
      refine hKQ _ ?_
      clear hKQ KQ
      refine wpQuiet_nil ?_
      intro w' hw'
      have HW := hidd (show LLb R w' B0 (.slice (some ⟨g0, 0, none⟩) ln cap0) (O c) ∧ Below B0 W0 w' from
        ⟨HK.out.1.below hw', HK.out.2.trans (hw'.mono (by have := HK.out.2.size; have := HB0.out; omega))⟩)
      clear hw'
      cases x with
      | true =>
        have hon := HON.out c (by rw [← HSE.out]; exact HOKX.out)
        have H3 := hidd (show ln = (O (c + 1)).length ∧ LLb R w' B0 (.slice (some ⟨g0, 0, none⟩) ln cap0) (O (c + 1)) ∧ Below B0 W0 w' by rw [hon]; exact ⟨HLN.out, HW.out⟩)
        clear hon
        go_wp2_with fail
        go_roundw
        case rel => exact ⟨c + 1, g0, cap0, by omega, by rw [← H3.out.1], by go_num, by rw [← H3.out.1]; exact H3.out.2.1, H3.out.2.2⟩
        case measure => simp [intOf]; omega
      | false =>
        have hoy := HOY.out c (by rw [← HSE.out]; exact HOKX.out) (by rw [← HLN.out]; exact hlm)
        rw [← HSE.out, ← HLN.out] at hoy
        have HOY1 := hidd hoy
        clear hoy
        have hxw := (HBK.out w' HW.out.2).2.1
        have HOW := hidd (own63 (dgL K s) (some ⟨gs, 0, none⟩) css w' hxw.st (by rw [dgL_len]; omega))
        rw [dgL_len] at HOW
        clear hxw
        go_wp2_with fail
        refine HOW.out.mono ?_
        rintro e w5 ⟨a5, c5, rfl, ho5, hb5⟩
        obtain ⟨a6, c6, hv6, hOO⟩ := own_list (zs := dgL K s) (by rw [dgL_len]; exact ho5)
        rw [dgL_len] at hv6
        cases hv6
        rcases hOO with hOO | ⟨g, C5, hgB, rfl, hC5, hl5, hc5⟩
        · have := dgL_len K s; rw [hOO] at this; simp at this; omega
        have hB5 : BgL w5 (some ⟨g, 0, none⟩) (dgL K s) := ⟨g, C5, rfl, hC5, hl5, hc5⟩
        have cO := hB5.cell (j := c) (x := (sc : Int)) (by rw [dgL_len]; exact hlt) (by rw [dgL_get hlt, HSE.out])
        have fO := hB5.fro c
        obtain ⟨V, hV⟩ : ∃ V, V = sc ||| 2 ^ n := ⟨_, rfl⟩
        rw [← hV] at HOY1
        have hor : bits .or .i64 (sc : Int) (wrap64 (2 ^ n)) = (V : Int) := by rw [hV]; exact or_bit sc n (by omega) (by omega)
        have hB6 := hB5.put hlt V
        have hb6 : Below w'.heap.size w' (w5.setCell ⟨g, c, none⟩ (.int .i64 (V : Int))) := hb5.setCell (by exact hgB) _
        have HVS := hidd (fun c' (hc' : c' < K) => (show setF s c V c' < 2 ^ (N - r) by
          rw [hr1]
          have h22 : 2 ^ n < 2 ^ (n + 1) := Nat.pow_lt_pow_right (by omega) (by omega)
          by_cases e : c' = c
          · subst e
            rw [setF_same, hV]
            exact Nat.or_lt_two_pow (by rw [HSE.out]; exact Nat.lt_trans (HSS.out c' hc') h22) h22
          · rw [setF_ne _ _ e]; exact Nat.lt_trans (HSS.out c' hc') h22))
        have hszW : B0 ≤ w'.heap.size := by have := HW.out.2.size; have := HB0.out; omega
        have H6 := hidd (show LLb R (w5.setCell ⟨g, c, none⟩ (.int .i64 (V : Int))) B0 (.slice (some ⟨g0, 0, none⟩) ln cap0) (O c) ∧ Below B0 W0 (w5.setCell ⟨g, c, none⟩ (.int .i64 (V : Int))) ∧ BgL (w5.setCell ⟨g, c, none⟩ (.int .i64 (V : Int))) (some ⟨g, 0, none⟩) (dgL K (setF s c V)) from
          ⟨HW.out.1.below hb6, HW.out.2.trans (hb6.mono hszW), hB6⟩)
        have hu : IntKind.u64.wrap (n : Int) = (n : Int) := by unfold IntKind.wrap; simp [IntKind.signed, IntKind.bits]; omega
        have hmn : min n 64 = n := by omega
        clear hgB hb5 hb6 hB6 hB5 ho5 hC5 hl5 hc5 hszW hV
        clear hand hA17 hs17 hr17 hlt2 hmw hm17 c1 hnn
        go_upto_region 11 with fail
        clear cO fO hor hu hmn
        obtain ⟨w6, hw6⟩ : ∃ w6, w6 = w5.setCell ⟨g, c, none⟩ (.int .i64 (V : Int)) := ⟨_, rfl⟩
        rw [← hw6] at H6 ⊢
        clear hw6
        have hsub : IntKind.i64.wrap ((M : Int) - (ln : Int)) = ((M - ln : Nat) : Int) := by rw [IntWalk.i64_in _ (by omega)]; omega
        have hsub2 : wrap64 ((M : Int) - (ln : Int)) = ((M - ln : Nat) : Int) := by rw [IntWalk.wrap64_in _ ⟨by omega, by omega⟩]; omega
        obtain ⟨M2, hM2⟩ : ∃ M2, M2 = M - ln := ⟨_, rfl⟩
        rw [← hM2] at hsub hsub2 HOY1
        have hM21 : 1 ≤ M2 := by omega
        have hM22 : ln + M2 = M := by omega
        clear hM2
        have HSB := hidd (fun W (h : Below w6.heap.size w6 W) => (show LLb R W B0 (.slice (some ⟨g0, 0, none⟩) ln cap0) (O c) ∧ Below B0 W0 W ∧ BgL W (some ⟨g, 0, none⟩) (dgL K (setF s c V)) ∧ Ex R N K zs bl off gs gb s cs W ∧ Blk W w.heap.size (ccells (N : Int) (K : Int) bs).toArray 28 from by
          have h1 := H6.out.2.1.trans (h.mono (by have := H6.out.2.1.size; have := HB0.out; omega))
          exact ⟨H6.out.1.below h, h1, H6.out.2.2.below h (Nat.le_refl _), (HBK.out W h1).2.1, (HBK.out W h1).1⟩))
        have HRG := hidd (fun (W : World) (h : Blk W w.heap.size (ccells (N : Int) (K : Int) bs).toArray 28) => h.range 0 (ccells (N : Int) (K : Int) bs) (fun i v hv => by rw [Nat.zero_add]; simpa using hv))
        refine wp_region_held_drew (S := (fun W => Blk W w.heap.size (ccells (N : Int) (K : Int) bs).toArray 28)) (by kernel_rfl) ?_ (fun hHeld => ?_)
        · exact (HSB.out _ ((Below.refl _ _))).2.2.2.2
        refine wpAnyH_take (i := 0) (oi := _) (v := ?_) rfl (by kernel_rfl) (by kernel_rfl) (by kernel_rfl) (fun _ _ _ h => h) (Or.inl ⟨by rfl, ?_⟩) (by assumption) ?_
        rotate_left
        · intro wX hSw; (try dsimp only at hSw); go_simp; first | done | with_reducible rfl
        simp only [List.getElem_toArray, List.getElem_cons_succ, List.getElem_cons_zero, Act.put, List.setIfInBounds_toArray, List.set_cons_zero, List.set_cons_succ]
        refine wpAnyH_take (i := 1) (oi := _) (v := _) rfl (by kernel_rfl) (by kernel_rfl) (by kernel_rfl) (fun _ _ _ h => h) (yieldsIf_load_mid (by rfl) _ _ rfl _ _ rfl _ _ (HRG.out) Tryd.underlying28 rfl (HSL.out)) (by assumption) ?_
        simp only [List.getElem_toArray, List.getElem_cons_succ, List.getElem_cons_zero, Act.put, List.setIfInBounds_toArray, List.set_cons_zero, List.set_cons_succ]
        refine wpAnyH_take (i := 2) (oi := _) (v := ?_) rfl (by kernel_rfl) (by kernel_rfl) (by kernel_rfl) (fun _ _ _ h => h) (Or.inl ⟨by rfl, ?_⟩) (by assumption) ?_
        rotate_left
        · intro wX hSw; (try dsimp only at hSw); go_simp; first | done | with_reducible rfl
        simp only [List.getElem_toArray, List.getElem_cons_succ, List.getElem_cons_zero, Act.put, List.setIfInBounds_toArray, List.set_cons_zero, List.set_cons_succ]
        refine wpAnyH_take (i := 3) (oi := _) (v := ?_) rfl (by kernel_rfl) (by kernel_rfl) (by kernel_rfl) (fun _ _ _ h => h) (Or.inl ⟨by rfl, ?_⟩) (by assumption) ?_
        rotate_left
        · intro wX hSw; (try dsimp only at hSw); go_simp; first | done | with_reducible rfl
        simp only [List.getElem_toArray, List.getElem_cons_succ, List.getElem_cons_zero, Act.put, List.setIfInBounds_toArray, List.set_cons_zero, List.set_cons_succ]
        refine wpAnyH_take (i := 5) (oi := _) (v := ?_) rfl (by kernel_rfl) (by kernel_rfl) (by kernel_rfl) (fun _ _ _ h => h) (Or.inl ⟨by rfl, ?_⟩) (by assumption) ?_
        rotate_left
        · intro wX hSw; (try dsimp only at hSw); go_simp; first | done | with_reducible rfl
        simp only [List.getElem_toArray, List.getElem_cons_succ, List.getElem_cons_zero, Act.put, List.setIfInBounds_toArray, List.set_cons_zero, List.set_cons_succ]
        refine wpAnyH_take (i := 8) (oi := _) (v := ?_) rfl (by kernel_rfl) (by kernel_rfl) (by kernel_rfl) (fun _ _ _ h => h) (Or.inl ⟨by rfl, ?_⟩) (by assumption) ?_
        rotate_left
        · intro wX hSw; (try dsimp only at hSw); go_simp; first | done | with_reducible rfl
        simp only [List.getElem_toArray, List.getElem_cons_succ, List.getElem_cons_zero, Act.put, List.setIfInBounds_toArray, List.set_cons_zero, List.set_cons_succ]
        refine wpAnyH_take (i := 9) (oi := _) (v := ?_) rfl (by kernel_rfl) (by kernel_rfl) (by kernel_rfl) (fun _ _ _ h => h) (Or.inl ⟨by rfl, ?_⟩) (by assumption) ?_
        rotate_left
        · intro wX hSw; (try dsimp only at hSw); go_simp; first | done | with_reducible rfl
        simp only [List.getElem_toArray, List.getElem_cons_succ, List.getElem_cons_zero, Act.put, List.setIfInBounds_toArray, List.set_cons_zero, List.set_cons_succ]
        refine wpAnyH_take (i := 10) (oi := _) (v := ?_) rfl (by kernel_rfl) (by kernel_rfl) (by kernel_rfl) (fun _ _ _ h => h) (Or.inl ⟨by rfl, ?_⟩) (by assumption) ?_
        rotate_left
        · intro wX hSw; (try dsimp only at hSw); go_simp; first | done | with_reducible rfl
        simp only [List.getElem_toArray, List.getElem_cons_succ, List.getElem_cons_zero, Act.put, List.setIfInBounds_toArray, List.set_cons_zero, List.set_cons_succ]
        refine wpAnyH_take (i := 11) (oi := _) (v := ?_) rfl (by kernel_rfl) (by kernel_rfl) (by kernel_rfl) (fun _ _ _ h => h) (Or.inl ⟨by rfl, ?_⟩) (by assumption) ?_
        rotate_left
        · intro wX hSw; (try dsimp only at hSw); go_simp; first | done | with_reducible rfl
        simp only [List.getElem_toArray, List.getElem_cons_succ, List.getElem_cons_zero, Act.put, List.setIfInBounds_toArray, List.set_cons_zero, List.set_cons_succ]
        refine wpAnyH_take (i := 12) (oi := _) (v := ?_) rfl (by kernel_rfl) (by kernel_rfl) (by kernel_rfl) (fun _ _ _ h => h) (Or.inl ⟨by rfl, ?_⟩) (by assumption) ?_
        rotate_left
        · intro wX hSw; (try dsimp only at hSw); go_simp; first | done | with_reducible rfl
        simp only [List.getElem_toArray, List.getElem_cons_succ, List.getElem_cons_zero, Act.put, List.setIfInBounds_toArray, List.set_cons_zero, List.set_cons_succ]
        refine wpAnyH_ready (rs := [4, 6]) (by kernel_rfl) (by simp) (AllReadyH.cons (o := _) rfl (fun KQ hKQ => ?_) (AllReadyH.cons (o := _) rfl (fun KQ hKQ => ?_) AllReadyH.nil))
        · go_simp
          refine (HOC.out _ (HSB.out _ ((Below.refl w6.heap.size w6).drew)).2.2.2.1).mono ?_
          rintro e W1 ⟨g1, c1, rfl, ho1, hb1⟩
          have hbX : Below w6.heap.size w6 W1 := ((Below.refl w6.heap.size w6).drew).trans hb1
          have HKX := hidd (show Below w6.heap.size w6 (W1.alloc (.cells #[.int .i64 (c : Int)] 2)) ∧ (W1.alloc (.cells #[.int .i64 (c : Int)] 2)).ownsRow w6.heap.size 2 1 (.slice (some ⟨g1, 0, none⟩) n c1) n (icells cs) ∧ Blk (W1.alloc (.cells #[.int .i64 (c : Int)] 2)) W1.heap.size #[.int .i64 (c : Int)] 2 from
            ⟨hbX.alloc hbX.size _, (own_base ho1 (Nat.le_refl _)).alloc _, Blk.new _ _ _ _ rfl⟩)
          clear ho1 hb1
          go_wp2_with fail
          refine hKQ.out _ _ ?_ (fun hNext => ?_)
          · exact (HSB.out _ hbX).2.2.2.2
          clear hKQ KQ hHeld
          have hHeld := hNext
          clear hNext
          refine wpAnyH_ready (rs := [6]) (by kernel_rfl) (by simp) (AllReadyH.cons (o := _) rfl (fun KQ hKQ => ?_) AllReadyH.nil)
          go_simp
          refine hKQ.out _ _ ?_ (fun hNext => ?_)
          · exact (HSB.out _ (hbX.alloc hbX.size _)).2.2.2.2
          clear hKQ KQ hHeld
          have hHeld := hNext
          clear hNext
          have hKX := HKX.out
          clear HKX hbX
          obtain ⟨ad, had⟩ : ∃ ad, ad = W1.heap.size := ⟨_, rfl⟩
          rw [← had] at hKX ⊢
          obtain ⟨WX, hWX⟩ : ∃ WX, WX = W1.alloc (.cells #[.int .i64 (c : Int)] 2) := ⟨_, rfl⟩
          rw [← hWX] at hKX hHeld ⊢
          clear hWX had
          have KX := hidd (show Below w6.heap.size w6 WX ∧ WX.ownsRow w6.heap.size 2 1 (.slice (some ⟨g1, 0, none⟩) n c1) n (icells cs) ∧ Blk WX ad #[.int .i64 (c : Int)] 2 from hKX)
          clear hKX
          have hsz := KX.out.1.size
          refine wpAnyH_ready (rs := [7]) (by kernel_rfl) (by simp) (AllReadyH.cons (o := _) rfl (fun KQ hKQ => ?_) AllReadyH.nil)
          rw [if_pos (by rfl)]
          refine wp_append_own _ _ _ 25 rfl w6.heap.size 2 t0 (.int .i64 0) 1 8 Tryd.underlying25 HI2.out.1 HI2.out.2.1 HI2.out.2.2.1 HI2.out.2.2.2 rfl (by decide) _ n (icells cs) rfl KX.out.2.1 ⟨ad, 0, none⟩ 1 1 [.int .i64 (c : Int)] rfl rfl ?c1 ?c2 ?c3 ?c4 ?c5 ?_
          case c1 => intro i u hi; rw [Addr.add_mid]; cases i with
            | zero => exact KX.out.2.2.cell (by simpa using hi)
            | succ i => simp at hi
          case c2 => intro u hu; simp at hu; subst hu; rfl
          case c3 => unfold maxLen; omega
          case c4 => omega
          case c5 => omega
          intro v' w3 hown' hgrow _
          have hb3 : Below w6.heap.size w6 w3 := Below.onRow KX.out.1 hsz hgrow (fun r hr => by
            rcases KX.out.2.1.2 with ⟨h1, _⟩ | ⟨g', cap', cur', h1, h2, _⟩
            · rw [h1] at hr; cases hr
            · rw [h1] at hr; cases hr; exact h2)
          rw [HIC.out c, ← HCL.out c] at hown'
          obtain ⟨a3, c3, hv3, ho3⟩ := own_list hown'
          rw [HCL.out c] at hv3
          subst hv3
          have hx3 : ∃ g3, a3 = some ⟨g3, 0, none⟩ := by
            rcases ho3 with h | ⟨g3, _, _, h, _⟩
            · simp at h
            · exact ⟨g3, h⟩
          obtain ⟨g3, rfl⟩ := hx3
          have hk3 := HSB.out w3 hb3
          have hE3 : Ex R N K zs bl off g g3 (setF s c V) (cs ++ [(c : Int)]) w3 := ⟨hk3.2.2.2.1.zc, hk3.2.2.1, ho3.baseR (HSB.out w6 (Below.refl _ _)).2.2.2.1.rb, hk3.2.2.2.1.rb⟩
          have hG := HIH.out (setF s c V) (cs ++ [(c : Int)]) g c5 g3 c3 M2 w3 hE3 HVS.out (by rw [HCL.out c]; exact HCR.out) hM21 (by omega)
          rw [HCL.out c] at hG
          have HG := hidd hG
          have K3 := hidd hb3
          clear hE3 ho3 hown' hgrow hG
          refine hKQ.out _ _ ?_ (fun hNext => ?_)
          · exact hk3.2.2.2.2
          clear hKQ KQ hHeld
          have hHeld := hNext
          clear hNext
          clear hk3 hb3
          simp only [List.getElem_toArray, List.getElem_cons_succ, List.getElem_cons_zero, Act.put, List.setIfInBounds_toArray, List.set_cons_zero, List.set_cons_succ]
          refine wpAnyH_ready (rs := [13]) (by kernel_rfl) (by simp) (AllReadyH.cons (o := _) rfl (fun KQ hKQ => ?_) AllReadyH.nil)
          go_simp
          refine HG.out.mono ?_
          rintro e w4 ⟨v4, rfl, hL4, hb4⟩
          have hb64 : Below w6.heap.size w6 w4 := K3.out.trans (hb4.mono K3.out.size)
          have hk4 := HSB.out w4 hb64
          obtain ⟨g4, cap4, xs4, rfl, hg4, hgl4, how4, hxl4, hxc4, hxe4⟩ := hL4.at
          obtain ⟨g1', cap1', xs1, hv1, hg1', hgl1, how1, hxl1, hxc1, hxe1⟩ := hk4.1.at
          have HR1 := hidd hk4.1.row
          obtain ⟨L4, hL4e⟩ : ∃ L4, L4 = (exL (okx bs N zs) K N r (setF s c V) (cs ++ [(c : Int)])).take M2 := ⟨_, rfl⟩
          have hl4 : L4.length ≤ M2 := by rw [hL4e, List.length_take]; omega
          rw [← hL4e] at how4 hxl4 hxe4 HOY1 ⊢
          have H4 := hidd (And.intro hk4.2.1 (And.intro how1 (And.intro hxl1 (And.intro hxe1 (And.intro hxl4 (And.intro hxc4 hxe4))))))
          clear hL4 hb64 hb4 hv1 how1 hxl1 hxc1 hxe1 how4 hxl4 hxc4 hxe4 hL4e
          go_wp2_with fail
          refine hKQ.out _ _ ?_ (fun hNext => ?_)
          · exact hk4.2.2.2.2
          clear hKQ KQ hHeld
          have hHeld := hNext
          clear hNext
          clear hk4
          rw [← HLN.out] at H4
          refine wpAnyH_ready (rs := [14]) (by kernel_rfl) (by simp) (AllReadyH.cons (o := _) rfl (fun KQ hKQ => ?_) AllReadyH.nil)
          rw [if_pos (by rfl)]
          refine wp_append_own _ _ _ 39 rfl B0 25 t5 (.slice none 0 0) 1 24 Tryd.underlying39 HI25.out.1 HI25.out.2.1 HI25.out.2.2.1 HI25.out.2.2.2 rfl (by decide) _ ln xs1 rfl H4.out.2.1 ⟨g4, 0, none⟩ L4.length cap4 xs4 rfl ?d1 ?d2 ?d3 ?d4 ?d5 ?d6 ?_
          case d1 => rw [H4.out.2.2.2.2.1]; omega
          case d2 => intro i u hi; rw [Addr.add_mid, Nat.zero_add]; exact H4.out.2.2.2.2.2.1 i u hi
          case d3 => exact slices_one H4.out.2.2.2.2.1 H4.out.2.2.2.2.2.2
          case d4 => unfold maxLen; omega
          case d5 => omega
          case d6 => have := H4.out.1.size; have := HB0.out; omega
          intro v' w7 hown7 hgrow7 hnil7
          have hne7 : v' ≠ .slice none 0 0 := fun e => by have := (hnil7.1 e).1; cases this
          have hb7 : Below B0 W0 w7 := Below.onRow H4.out.1 (by have := H4.out.1.size; have := HB0.out; omega) hgrow7 (fun r hr => (HR1.out r hr).1)
          have hL7 : LLb R w7 B0 v' (O c ++ L4) := LLb.app H4.out.2.2.2.1 (by rw [H4.out.2.2.1, HLN.out]) H4.out.2.2.2.2.2.2 (fun r hr => (HR1.out r hr).2) hgrow7 hne7 (by rw [← HLN.out]; exact hown7)
          rw [← HOY1.out] at hL7
          obtain ⟨g7, cap7, _, rfl, _⟩ := hL7.at
          have H7 := hidd (And.intro hL7 hb7)
          have hB7 := (HBK.out w7 hb7).1
          clear hL7 hb7 hne7 hnil7 hgrow7 hown7
          refine hKQ.out _ _ ?_ (fun hNext => ?_)
          · exact hB7
          clear hKQ KQ hHeld
          have hHeld := hNext
          clear hNext
          clear hB7
          simp only [List.getElem_toArray, List.getElem_cons_succ, List.getElem_cons_zero, Act.put, List.setIfInBounds_toArray, List.set_cons_zero, List.set_cons_succ]
          refine wpAnyH_ready (rs := [15]) (by kernel_rfl) (by simp) (AllReadyH.cons (o := _) rfl (fun KQ hKQ => ?_) AllReadyH.nil)
          go_simp
          refine hKQ.out _ _ ?_ (fun hNext => ?_)
          · exact hHeld
          clear hKQ KQ hHeld
          refine wpAnyH_done (by kernel_rfl) ?_ _
          clear hNext
          go_wp2_with fail
          go_roundw
          case rel => exact ⟨c + 1, g7, cap7, by omega, rfl, by go_num, H7.out⟩
          case measure => simp [intOf]; omega
        · go_simp
          refine hKQ.out _ _ ?_ (fun hNext => ?_)
          · exact (HSB.out _ (((Below.refl w6.heap.size w6).drew).alloc (Nat.le_refl _) _)).2.2.2.2
          clear hKQ KQ hHeld
          have hHeld := hNext
          clear hNext
          refine wpAnyH_ready (rs := [4]) (by kernel_rfl) (by simp) (AllReadyH.cons (o := _) rfl (fun KQ hKQ => ?_) AllReadyH.nil)
          go_simp
          have hbY : Below w6.heap.size w6 (w6.drew.alloc (.cells #[.int .i64 (c : Int)] 2)) := (((Below.refl w6.heap.size w6).drew).alloc (Nat.le_refl _) (.cells #[.int .i64 (c : Int)] 2))
          refine (HOC.out _ (HSB.out _ hbY).2.2.2.1).mono ?_
          rintro e WX ⟨g1, c1, rfl, ho1, hb1⟩
          have hbX : Below w6.heap.size w6 WX := hbY.trans (hb1.mono hbY.size)
          have KX := hidd (show Below w6.heap.size w6 WX ∧ WX.ownsRow w6.heap.size 2 1 (.slice (some ⟨g1, 0, none⟩) n c1) n (icells cs) ∧ Blk WX w6.heap.size #[.int .i64 (c : Int)] 2 from
            ⟨hbX, own_base ho1 hbY.size, (Blk.new w6.drew #[.int .i64 (c : Int)] 2 _ rfl).below hb1 (by simp)⟩)
          clear ho1 hb1 hbY
          go_wp2_with fail
          refine hKQ.out _ _ ?_ (fun hNext => ?_)
          · exact (HSB.out _ hbX).2.2.2.2
          clear hKQ KQ hHeld
          have hHeld := hNext
          clear hNext
          clear hbX
          have hsz := KX.out.1.size
          refine wpAnyH_ready (rs := [7]) (by kernel_rfl) (by simp) (AllReadyH.cons (o := _) rfl (fun KQ hKQ => ?_) AllReadyH.nil)
          rw [if_pos (by rfl)]
          refine wp_append_own _ _ _ 25 rfl w6.heap.size 2 t0 (.int .i64 0) 1 8 Tryd.underlying25 HI2.out.1 HI2.out.2.1 HI2.out.2.2.1 HI2.out.2.2.2 rfl (by decide) _ n (icells cs) rfl KX.out.2.1 ⟨w6.heap.size, 0, none⟩ 1 1 [.int .i64 (c : Int)] rfl rfl ?c1 ?c2 ?c3 ?c4 ?c5 ?_
          case c1 => intro i u hi; rw [Addr.add_mid]; cases i with
            | zero => exact KX.out.2.2.cell (by simpa using hi)
            | succ i => simp at hi
          case c2 => intro u hu; simp at hu; subst hu; rfl
          case c3 => unfold maxLen; omega
          case c4 => omega
          case c5 => omega
          intro v' w3 hown' hgrow _
          have hb3 : Below w6.heap.size w6 w3 := Below.onRow KX.out.1 hsz hgrow (fun r hr => by
            rcases KX.out.2.1.2 with ⟨h1, _⟩ | ⟨g', cap', cur', h1, h2, _⟩
            · rw [h1] at hr; cases hr
            · rw [h1] at hr; cases hr; exact h2)
          rw [HIC.out c, ← HCL.out c] at hown'
          obtain ⟨a3, c3, hv3, ho3⟩ := own_list hown'
          rw [HCL.out c] at hv3
          subst hv3
          have hx3 : ∃ g3, a3 = some ⟨g3, 0, none⟩ := by
            rcases ho3 with h | ⟨g3, _, _, h, _⟩
            · simp at h
            · exact ⟨g3, h⟩
          obtain ⟨g3, rfl⟩ := hx3
          have hk3 := HSB.out w3 hb3
          have hE3 : Ex R N K zs bl off g g3 (setF s c V) (cs ++ [(c : Int)]) w3 := ⟨hk3.2.2.2.1.zc, hk3.2.2.1, ho3.baseR (HSB.out w6 (Below.refl _ _)).2.2.2.1.rb, hk3.2.2.2.1.rb⟩
          have hG := HIH.out (setF s c V) (cs ++ [(c : Int)]) g c5 g3 c3 M2 w3 hE3 HVS.out (by rw [HCL.out c]; exact HCR.out) hM21 (by omega)
          rw [HCL.out c] at hG
          have HG := hidd hG
          have K3 := hidd hb3
          clear hE3 ho3 hown' hgrow hG
          refine hKQ.out _ _ ?_ (fun hNext => ?_)
          · exact hk3.2.2.2.2
          clear hKQ KQ hHeld
          have hHeld := hNext
          clear hNext
          clear hk3 hb3
          simp only [List.getElem_toArray, List.getElem_cons_succ, List.getElem_cons_zero, Act.put, List.setIfInBounds_toArray, List.set_cons_zero, List.set_cons_succ]
          refine wpAnyH_ready (rs := [13]) (by kernel_rfl) (by simp) (AllReadyH.cons (o := _) rfl (fun KQ hKQ => ?_) AllReadyH.nil)
          go_simp
          refine HG.out.mono ?_
          rintro e w4 ⟨v4, rfl, hL4, hb4⟩
          have hb64 : Below w6.heap.size w6 w4 := K3.out.trans (hb4.mono K3.out.size)
          have hk4 := HSB.out w4 hb64
          obtain ⟨g4, cap4, xs4, rfl, hg4, hgl4, how4, hxl4, hxc4, hxe4⟩ := hL4.at
          obtain ⟨g1', cap1', xs1, hv1, hg1', hgl1, how1, hxl1, hxc1, hxe1⟩ := hk4.1.at
          have HR1 := hidd hk4.1.row
          obtain ⟨L4, hL4e⟩ : ∃ L4, L4 = (exL (okx bs N zs) K N r (setF s c V) (cs ++ [(c : Int)])).take M2 := ⟨_, rfl⟩
          have hl4 : L4.length ≤ M2 := by rw [hL4e, List.length_take]; omega
          rw [← hL4e] at how4 hxl4 hxe4 HOY1 ⊢
          have H4 := hidd (And.intro hk4.2.1 (And.intro how1 (And.intro hxl1 (And.intro hxe1 (And.intro hxl4 (And.intro hxc4 hxe4))))))
          clear hL4 hb64 hb4 hv1 how1 hxl1 hxc1 hxe1 how4 hxl4 hxc4 hxe4 hL4e
          go_wp2_with fail
          refine hKQ.out _ _ ?_ (fun hNext => ?_)
          · exact hk4.2.2.2.2
          clear hKQ KQ hHeld
          have hHeld := hNext
          clear hNext
          clear hk4
          rw [← HLN.out] at H4
          refine wpAnyH_ready (rs := [14]) (by kernel_rfl) (by simp) (AllReadyH.cons (o := _) rfl (fun KQ hKQ => ?_) AllReadyH.nil)
          rw [if_pos (by rfl)]
          refine wp_append_own _ _ _ 39 rfl B0 25 t5 (.slice none 0 0) 1 24 Tryd.underlying39 HI25.out.1 HI25.out.2.1 HI25.out.2.2.1 HI25.out.2.2.2 rfl (by decide) _ ln xs1 rfl H4.out.2.1 ⟨g4, 0, none⟩ L4.length cap4 xs4 rfl ?d1 ?d2 ?d3 ?d4 ?d5 ?d6 ?_
          case d1 => rw [H4.out.2.2.2.2.1]; omega
          case d2 => intro i u hi; rw [Addr.add_mid, Nat.zero_add]; exact H4.out.2.2.2.2.2.1 i u hi
          case d3 => exact slices_one H4.out.2.2.2.2.1 H4.out.2.2.2.2.2.2
          case d4 => unfold maxLen; omega
          case d5 => omega
          case d6 => have := H4.out.1.size; have := HB0.out; omega
          intro v' w7 hown7 hgrow7 hnil7
          have hne7 : v' ≠ .slice none 0 0 := fun e => by have := (hnil7.1 e).1; cases this
          have hb7 : Below B0 W0 w7 := Below.onRow H4.out.1 (by have := H4.out.1.size; have := HB0.out; omega) hgrow7 (fun r hr => (HR1.out r hr).1)
          have hL7 : LLb R w7 B0 v' (O c ++ L4) := LLb.app H4.out.2.2.2.1 (by rw [H4.out.2.2.1, HLN.out]) H4.out.2.2.2.2.2.2 (fun r hr => (HR1.out r hr).2) hgrow7 hne7 (by rw [← HLN.out]; exact hown7)
          rw [← HOY1.out] at hL7
          obtain ⟨g7, cap7, _, rfl, _⟩ := hL7.at
          have H7 := hidd (And.intro hL7 hb7)
          have hB7 := (HBK.out w7 hb7).1
          clear hL7 hb7 hne7 hnil7 hgrow7 hown7
          refine hKQ.out _ _ ?_ (fun hNext => ?_)
          · exact hB7
          clear hKQ KQ hHeld
          have hHeld := hNext
          clear hNext
          clear hB7
          simp only [List.getElem_toArray, List.getElem_cons_succ, List.getElem_cons_zero, Act.put, List.setIfInBounds_toArray, List.set_cons_zero, List.set_cons_succ]
          refine wpAnyH_ready (rs := [15]) (by kernel_rfl) (by simp) (AllReadyH.cons (o := _) rfl (fun KQ hKQ => ?_) AllReadyH.nil)
          go_simp
          refine hKQ.out _ _ ?_ (fun hNext => ?_)
          · exact hHeld
          clear hKQ KQ hHeld
          refine wpAnyH_done (by kernel_rfl) ?_ _
          clear hNext
          go_wp2_with fail
          go_roundw
          case rel => exact ⟨c + 1, g7, cap7, by omega, rfl, by go_num, H7.out⟩
          case measure => simp [intOf]; omega
    · have hlmI : decide ((ln : Int) < (M : Int)) = false := by simp; omega
      have H3 := hidd (show ln = T.length ∧ LLb R wr B0 (.slice (some ⟨g0, 0, none⟩) ln cap0) T ∧ Below B0 W0 wr by
        rw [← HOM.out c hc (by rw [← HLN.out]; omega)]; exact ⟨HLN.out, HK.out⟩)
      have HF := hidd (show LLb R wr w.heap.size (.slice (some ⟨g0, 0, none⟩) ln cap0) T ∧ Below w.heap.size w wr from
        ⟨H3.out.2.1.base (by rw [HB0.out, G.out.2.2.2]; omega), (HBK.out wr H3.out.2.2).2.2⟩)
      go_wp2_with fail
      go_ret
      exact ⟨_, rfl, HF.out⟩
  · have hce : c = K := by omega
    have H3 := hidd (show LLb R wr B0 (.slice (some ⟨g0, 0, none⟩) ln cap0) T ∧ Below B0 W0 wr by
      rw [← HOK.out, ← hce]; exact HK.out)
    have HF := hidd (show LLb R wr w.heap.size (.slice (some ⟨g0, 0, none⟩) ln cap0) T ∧ Below w.heap.size w wr from
      ⟨H3.out.1.base (by rw [HB0.out, G.out.2.2.2]; omega), (HBK.out wr H3.out.2).2.2⟩)
    subst hce
    have hltI : decide ((c : Int) < (c : Int)) = false := by simp
    go_wp2_with fail
    go_ret
    exact ⟨_, rfl, HF.out⟩
end Go.Proofs.YtckffliiidgilaaDoor
/- l05All: the model's list of extensions. -/
namespace Go.Proofs.YtckffliiidgilaaDoor
set_option linter.unusedVariables false
set_option linter.unusedSimpArgs false
open Go Go.RowKit Go.Shelf
theorem exs83 (R N K : Nat) (bs : List Nat) (hb : Bys bs) (zs : List Int) (bl off cap : Nat) (n1 : 1 ≤ N) (hN12 : N ≤ 12) (hK1 : 1 ≤ K) (hK : K ≤ 4) (h2 : no1 zs K) (hsz : szP zs K = true) : ∀ r, r ≤ N → ExCall R bs N K zs bl off cap r
  | 0, _ => exs_leaf R N K bs hb zs bl off cap (by omega)
  | r + 1, h => exs_step R N K bs hb zs bl off cap n1 hN12 hK1 hK h2 hsz r h (exs83 R N K bs hb zs bl off cap n1 hN12 hK1 hK h2 hsz r (by omega))
theorem bgl_zero {w : World} {K : Nat} : BgL (w.alloc (.cells (zrow K) 2)) (some ⟨w.heap.size, 0, none⟩) (dgL K fun _ => 0) := by
  refine ⟨w.heap.size, zrow K, rfl, Blk.new _ _ _ _ rfl, ?_, fun j hj => ?_⟩
  · rw [dgL_len, zrow_size]; exact Nat.le_refl _
  · rw [dgL_len] at hj
    have h1 := icells_get (zs := dgL K fun _ => 0) (j := j) (by rw [dgL_len]; exact hj)
    rw [zrow_dg]
    simpa using h1
set_option maxRecDepth 100000 in
set_option maxHeartbeats 4000000 in
theorem all54 (N K M : Nat) (bs : List Nat) (hb : Bys bs) (zs : List Int) (a : Option Addr) (cap : Nat) (hl : zs.length = K) (n1 : 1 ≤ N) (hN12 : N ≤ 12) (hK1 : 1 ≤ K) (hK : K ≤ 4) (h2 : no1 zs K) (hsz : szP zs K = true) (hM1 : 1 ≤ M) (hM : M ≤ 1048576) (w : World) (hs : SlI w a zs) :
    Calls Tryd.prog 54 #[.agg (ccells (N : Int) (K : Int) bs).toArray, .slice a K cap, .int .i64 (M : Int)] w fun e w' => ∃ v, e = .returned v ∧ LLb w.heap.size w' w.heap.size v ((exA bs N K zs).take M) ∧ Below w.heap.size w w' := by
  rcases hs with hz | ⟨bl, off, rfl, hc⟩
  · rw [hz] at hl; simp at hl; omega
  have HC := hidd (fun W (h : Below w.heap.size w W) j (hj : j < K) => (show W.cell? ⟨bl, off + j, none⟩ = some (.int .i64 (zs.getD j 0)) from cell_below (hc j (by omega)) h))
  have HEX := hidd (fun (gs css gb cb : Nat) W (h : Ex w.heap.size N K zs bl off gs gb (fun _ => 0) [] W) => exs83 w.heap.size N K bs hb zs bl off cap n1 hN12 hK1 hK h2 hsz N (Nat.le_refl _) (fun _ => 0) [] gs css gb cb M W h (fun _ _ => Nat.two_pow_pos _) (by simp) hM1 hM)
  rw [show exL (okx bs N zs) K N N (fun _ => 0) [] = exA bs N K zs from rfl, List.length_nil] at HEX
  obtain ⟨T, hT⟩ : ∃ T, T = (exA bs N K zs).take M := ⟨_, rfl⟩
  rw [← hT] at HEX ⊢
  have HS := hidd (size_c26 (N : Int) (K : Int) hb)
  have HSL := hidd (show (Tryd.prog.info? 28).map (·.size) = some (ccells (N : Int) (K : Int) bs).length from size_l28 _ _ hb)
  have HC1 := hidd (show (ccells (N : Int) (K : Int) bs).toArray[1]? = some (.int .i64 (K : Int)) from rfl)
  have HN1 := hidd h2
  have hmk2 := make29 K (by omega)
  have G := hidd (show Blk (w.alloc (.cells (ccells (N : Int) (K : Int) bs).toArray 28)) w.heap.size (ccells (N : Int) (K : Int) bs).toArray 28 ∧ Below w.heap.size w (w.alloc (.cells (ccells (N : Int) (K : Int) bs).toArray 28)) from
    ⟨Blk.new _ _ _ _ rfl, (Below.refl _ _).alloc (Nat.le_refl _) _⟩)
  obtain ⟨W2, hW2⟩ : ∃ W2, W2 = w.alloc (.cells (ccells (N : Int) (K : Int) bs).toArray 28) := ⟨_, rfl⟩
  rw [← hW2] at G
  have HRG := hidd (fun (W : World) (h : Blk W w.heap.size (ccells (N : Int) (K : Int) bs).toArray 28) => h.range 0 (ccells (N : Int) (K : Int) bs) (fun i v hv => by rw [Nat.zero_add]; simpa using hv))
  have HCX := hidd (fun (W : World) (h : Blk W w.heap.size (ccells (N : Int) (K : Int) bs).toArray 28) => h.cell HC1.out)
  have HSB := hidd (fun W (h : Below W2.heap.size W2 W) => (And.intro (G.out.1.below h G.out.1.lt) (G.out.2.trans (h.mono G.out.2.size))))
  clear hT h2 hsz hb hc hl
  go_enter Tryd.func54, Tryd.ntmps54
  go_upto_region 1 with fail
  rw [← hW2]
  clear hW2
  go_wp2_with fail
  go_loopw [7] (fun e wr => ∃ d : Nat, d ≤ K ∧ e = .int .i64 (d : Int) ∧ W2 = wr) (fun e _ => K - (intOf e).toNat)
  case atStart => exact ⟨0, Nat.zero_le _, rfl, rfl⟩
  case round =>
  obtain ⟨d, hd, rfl, hww⟩ := hrel
  obtain rfl : W2 = wr := hww
  by_cases hlt : d < K
  · have hltI : decide ((d : Int) < (K : Int)) = true := by simp; omega
    have cz := HC.out W2 G.out.2 d hlt
    obtain ⟨z, hz⟩ : ∃ z, z = zs.getD d 0 := ⟨_, rfl⟩
    have hne : (z == 1) = false := by rw [beq_eq_false_iff_ne, hz]; have := HN1.out d hlt; omega
    rw [← hz] at cz
    clear hz
    go_wp2_with fail
    go_roundw
    case rel => exact ⟨d + 1, by omega, by go_num, trivial⟩
    case measure => simp [intOf]; omega
  · have hltI : decide ((d : Int) < (K : Int)) = false := by simp; omega
    go_wp2_with fail
    refine wp_region_held_drew (S := (fun W => Blk W w.heap.size (ccells (N : Int) (K : Int) bs).toArray 28)) (by kernel_rfl) ?_ (fun hHeld => ?_)
    · exact G.out.1
    refine wpAnyH_take (i := 0) (oi := _) (v := _) rfl (by kernel_rfl) (by kernel_rfl) (by kernel_rfl) (fun _ _ _ h => h) (yieldsIf_load_mid (by rfl) _ _ rfl _ _ rfl _ _ (HRG.out) Tryd.underlying28 rfl (HSL.out)) (by assumption) ?_
    simp only [List.getElem_toArray, List.getElem_cons_succ, List.getElem_cons_zero, Act.put, List.setIfInBounds_toArray, List.set_cons_zero, List.set_cons_succ]
    refine wpAnyH_take (i := 1) (oi := _) (v := ?_) rfl (by kernel_rfl) (by kernel_rfl) (by kernel_rfl) (fun _ _ _ h => h) (Or.inl ⟨by rfl, ?_⟩) (by assumption) ?_
    rotate_left
    · intro wX hSw; (try dsimp only at hSw); go_simp; first | done | with_reducible rfl
    simp only [List.getElem_toArray, List.getElem_cons_succ, List.getElem_cons_zero, Act.put, List.setIfInBounds_toArray, List.set_cons_zero, List.set_cons_succ]
    refine wpAnyH_take (i := 3) (oi := _) (v := ?_) rfl (by kernel_rfl) (by kernel_rfl) (by kernel_rfl) (fun _ _ _ h => h) (Or.inl ⟨by rfl, ?_⟩) (by assumption) ?_
    rotate_left
    · intro wX hSw; (try dsimp only at hSw); go_simp; first | done | with_reducible rfl
    simp only [List.getElem_toArray, List.getElem_cons_succ, List.getElem_cons_zero, Act.put, List.setIfInBounds_toArray, List.set_cons_zero, List.set_cons_succ]
    refine wpAnyH_take (i := 4) (oi := _) (v := ?_) rfl (by kernel_rfl) (by kernel_rfl) (by kernel_rfl) (fun _ _ _ h => h) (Or.inl ⟨by rfl, ?_⟩) (by assumption) ?_
    rotate_left
    · intro wX hSw; have e1 := HCX.out wX hSw; go_simp; first | done | with_reducible rfl
    simp only [List.getElem_toArray, List.getElem_cons_succ, List.getElem_cons_zero, Act.put, List.setIfInBounds_toArray, List.set_cons_zero, List.set_cons_succ]
    refine wpAnyH_take (i := 6) (oi := _) (v := ?_) rfl (by kernel_rfl) (by kernel_rfl) (by kernel_rfl) (fun _ _ _ h => h) (Or.inl ⟨by rfl, ?_⟩) (by assumption) ?_
    rotate_left
    · intro wX hSw; (try dsimp only at hSw); go_simp; first | done | with_reducible rfl
    simp only [List.getElem_toArray, List.getElem_cons_succ, List.getElem_cons_zero, Act.put, List.setIfInBounds_toArray, List.set_cons_zero, List.set_cons_succ]
    refine wpAnyH_ready (rs := [2, 5]) (by kernel_rfl) (by simp) (AllReadyH.cons (o := _) rfl (fun KQ hKQ => ?_) (AllReadyH.cons (o := _) rfl (fun KQ hKQ => ?_) AllReadyH.nil))
    · go_simp
      have hb1 : Below W2.heap.size W2 (W2.drew.alloc (.cells #[] 2)) := ((Below.refl W2.heap.size W2).drew).alloc (Nat.le_refl _) _
      refine hKQ.out _ _ ?_ (fun hNext => ?_)
      · exact (HSB.out _ hb1).1
      clear hKQ KQ hHeld
      have hHeld := hNext
      clear hNext
      refine wpAnyH_ready (rs := [5]) (by kernel_rfl) (by simp) (AllReadyH.cons (o := _) rfl (fun KQ hKQ => ?_) AllReadyH.nil)
      go_simp
      have hb2 : Below W2.heap.size W2 ((W2.drew.alloc (.cells #[] 2)).alloc (.cells (zrow K) 2)) := hb1.alloc hb1.size _
      refine hKQ.out _ _ ?_ (fun hNext => ?_)
      · exact (HSB.out _ hb2).1
      clear hKQ KQ hHeld
      have hHeld := hNext
      clear hNext
      have hKX : Below W2.heap.size W2 ((W2.drew.alloc (.cells #[] 2)).alloc (.cells (zrow K) 2)) ∧ Ex w.heap.size N K zs bl off (W2.heap.size + 1) W2.heap.size (fun _ => 0) [] ((W2.drew.alloc (.cells #[] 2)).alloc (.cells (zrow K) 2)) := ⟨hb2, fun j hj => HC.out _ (HSB.out _ hb2).2 j hj, by have := bgl_zero (w := W2.drew.alloc (.cells #[] 2)) (K := K); simpa using this, .inl rfl, (HSB.out _ hb2).2.size⟩
      clear hb1 hb2
      have KX := hidd hKX
      clear hKX
      refine wpAnyH_ready (rs := [7]) (by kernel_rfl) (by simp) (AllReadyH.cons (o := _) rfl (fun KQ hKQ => ?_) AllReadyH.nil)
      go_simp
      refine (HEX.out _ K _ 0 _ KX.out.2).mono ?_
      rintro e w4 ⟨v4, rfl, hL4, hb4⟩
      have H4 := hidd (show LLb w.heap.size w4 w.heap.size v4 T ∧ Below w.heap.size w w4 from ⟨hL4.base (HSB.out _ KX.out.1).2.size, (HSB.out _ KX.out.1).2.trans (hb4.mono (HSB.out _ KX.out.1).2.size)⟩)
      have hk4 := (HSB.out _ KX.out.1).1.below hb4 (HSB.out _ KX.out.1).1.lt
      clear hL4 hb4
      go_wp2_with fail
      refine hKQ.out _ _ ?_ (fun hNext => ?_)
      · exact hk4
      clear hKQ KQ hHeld
      have hHeld := hNext
      clear hNext
      clear hk4
      refine wpAnyH_ready (rs := [8]) (by kernel_rfl) (by simp) (AllReadyH.cons (o := _) rfl (fun KQ hKQ => ?_) AllReadyH.nil)
      go_simp
      refine hKQ.out _ _ ?_ (fun hNext => ?_)
      · exact hHeld
      clear hKQ KQ hHeld
      refine wpAnyH_done (by kernel_rfl) ?_ _
      clear hNext
      go_wp2_with fail
      go_ret
      exact ⟨_, rfl, H4.out⟩
    · go_simp
      have hb1 : Below W2.heap.size W2 (W2.drew.alloc (.cells (zrow K) 2)) := ((Below.refl W2.heap.size W2).drew).alloc (Nat.le_refl _) _
      refine hKQ.out _ _ ?_ (fun hNext => ?_)
      · exact (HSB.out _ hb1).1
      clear hKQ KQ hHeld
      have hHeld := hNext
      clear hNext
      refine wpAnyH_ready (rs := [2]) (by kernel_rfl) (by simp) (AllReadyH.cons (o := _) rfl (fun KQ hKQ => ?_) AllReadyH.nil)
      go_simp
      have hb2 : Below W2.heap.size W2 ((W2.drew.alloc (.cells (zrow K) 2)).alloc (.cells #[] 2)) := hb1.alloc hb1.size _
      refine hKQ.out _ _ ?_ (fun hNext => ?_)
      · exact (HSB.out _ hb2).1
      clear hKQ KQ hHeld
      have hHeld := hNext
      clear hNext
      have hKX : Below W2.heap.size W2 ((W2.drew.alloc (.cells (zrow K) 2)).alloc (.cells #[] 2)) ∧ Ex w.heap.size N K zs bl off W2.heap.size (W2.heap.size + 1) (fun _ => 0) [] ((W2.drew.alloc (.cells (zrow K) 2)).alloc (.cells #[] 2)) := ⟨hb2, fun j hj => HC.out _ (HSB.out _ hb2).2 j hj, (bgl_zero (w := W2.drew) (K := K)).below ((Below.refl _ _).alloc (Nat.le_refl _) _) (Nat.le_refl _), .inl rfl, (HSB.out _ hb2).2.size⟩
      clear hb1 hb2
      have KX := hidd hKX
      clear hKX
      refine wpAnyH_ready (rs := [7]) (by kernel_rfl) (by simp) (AllReadyH.cons (o := _) rfl (fun KQ hKQ => ?_) AllReadyH.nil)
      go_simp
      refine (HEX.out _ K _ 0 _ KX.out.2).mono ?_
      rintro e w4 ⟨v4, rfl, hL4, hb4⟩
      have H4 := hidd (show LLb w.heap.size w4 w.heap.size v4 T ∧ Below w.heap.size w w4 from ⟨hL4.base (HSB.out _ KX.out.1).2.size, (HSB.out _ KX.out.1).2.trans (hb4.mono (HSB.out _ KX.out.1).2.size)⟩)
      have hk4 := (HSB.out _ KX.out.1).1.below hb4 (HSB.out _ KX.out.1).1.lt
      clear hL4 hb4
      go_wp2_with fail
      refine hKQ.out _ _ ?_ (fun hNext => ?_)
      · exact hk4
      clear hKQ KQ hHeld
      have hHeld := hNext
      clear hNext
      clear hk4
      refine wpAnyH_ready (rs := [8]) (by kernel_rfl) (by simp) (AllReadyH.cons (o := _) rfl (fun KQ hKQ => ?_) AllReadyH.nil)
      go_simp
      refine hKQ.out _ _ ?_ (fun hNext => ?_)
      · exact hHeld
      clear hKQ KQ hHeld
      refine wpAnyH_done (by kernel_rfl) ?_ _
      clear hNext
      go_wp2_with fail
      go_ret
      exact ⟨_, rfl, H4.out⟩
end Go.Proofs.YtckffliiidgilaaDoor
