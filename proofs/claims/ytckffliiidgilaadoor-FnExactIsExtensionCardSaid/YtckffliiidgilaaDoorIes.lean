/- IsExtension: the model. -/
import Derived.Test.YtckffliiidgilaaDoorIex
import Derived.Test.YtckffliiidgilaaDoorLsp
namespace Go.Proofs.YtckffliiidgilaaDoor
set_option linter.unusedVariables false
set_option linter.unusedSimpArgs false
open Go Go.RowKit Go.Shelf
set_option maxRecDepth 100000 in
set_option maxHeartbeats 4000000 in
theorem spec13 (n k : Int) (bs : List Nat) (hb : Bys bs) (zs : List Int) (a : Option Addr) (cap : Nat) (cs : List Int) (b : Option Addr) (capb : Nat) (w : World) (hs : SlI w a zs) (hl : zs.length ≤ 1048576) (hs2 : SlI w b cs) (hl2 : cs.length ≤ 1048576) :
    Calls Tryd.prog 13 #[.agg (ccells n k bs).toArray, .slice a zs.length cap, .slice b cs.length capb] w fun e w' => e = .returned (.tuple #[.bool (ieV n k bs zs cs), .int .i64 (ieC n k bs zs cs)]) ∧ Below w.heap.size w w' := by
  have HS := hidd (size_c26 n k hb)
  have HSL := hidd hs
  have HSL2 := hidd hs2
  have HCO := hidd (fun W h => code42 n k bs hb zs a cap W h hl)
  have HC0 := hidd (show (ccells n k bs).toArray[0]? = some (.int .i64 n) from rfl)
  have HC1 := hidd (show (ccells n k bs).toArray[1]? = some (.int .i64 k) from rfl)
  have hwl : IntKind.i64.wrap (cs.length : Int) = cs.length := IntWalk.i64_in _ (by omega)
  have HG := hidd (And.intro (Blk.new w (ccells n k bs).toArray 28 _ rfl) ((Below.refl w.heap.size w).alloc (Nat.le_refl _) (.cells (ccells n k bs).toArray 28)))
  obtain ⟨W0, hW0⟩ : ∃ W0, W0 = w.alloc (.cells (ccells n k bs).toArray 28) := ⟨_, rfl⟩
  rw [← hW0] at HG
  clear hs hs2
  by_cases hc0 : szCode n k bs zs = 0
  · obtain ⟨hi, ho⟩ := szCode_ok hc0
    obtain ⟨n1, n2, k1, k2⟩ := isCol_bd hi
    obtain ⟨hlk, hsp⟩ := szOk_bd ho
    rw [hc0] at HCO
    have HAL := hidd (fun W h => all50 cs b capb k W h (by omega) (by omega) (by omega))
    by_cases hln : (cs.length : Int) = n
    · have hne : ((cs.length : Int) != n) = false := by rw [bne_eq_false_iff_eq]; exact hln
      cases ha : allB cs k with
      | false =>
        have hL : isListB cs n k = false := by unfold isListB; rw [ha]; simp
        have hc : ieC n k bs zs cs = 2 := by
          unfold ieC
          rw [if_neg, hL]
          · rfl
          · cases h2 : avP n.toNat bs zs k.toNat with
            | false => rw [eaC_5 hc0 h2]; omega
            | true =>
              by_cases h3 : (16 : Int) < n
              · rw [eaC_3 hc0 h2 h3]; omega
              · rw [eaC_0 hc0 h2 h3]; omega
        rw [ieV_bad hc (by omega), hc]
        have HA := hidd ha
        clear hc hL ha hc0 hi ho hlk hsp
        go_enter Tryd.func13, Tryd.ntmps13
        go_upto_region 1 with fail
        rw [← hW0]
        clear hW0
        go_wp2_with (refine wpList_load_row rfl 28 (.tmp 3) rfl w.heap.size rfl 28 _ (0,0) _ HG.out.1 Tryd.underlying28 rfl HS.out ?_)
        refine (HCO.out _ (HSL.out.below HG.out.2 (Nat.le_refl _))).mono ?_
        rintro e w1 ⟨rfl, hb1⟩
        have g1 := HG.out.1.below hb1 HG.out.1.lt
        have c0 := g1.cell HC0.out
        have c1 := g1.cell HC1.out
        have G := hidd (HG.out.2.trans (hb1.mono HG.out.2.size))
        clear hb1 g1
        go_wp2_with (go_at_call 43; refine (HAL.out _ (HSL2.out.below G.out (Nat.le_refl _))).mono ?_; rintro e w' ⟨rfl, rfl⟩; rw [HA.out])
        go_ret2
        exact ⟨rfl, G.out⟩
      | true =>
        have HA := hidd ha
        have hL : isListB cs n k = true := by unfold isListB; rw [ha, decide_eq_true hln]; rfl
        obtain ⟨N, rfl⟩ := Int.eq_ofNat_of_zero_le (show 0 ≤ n by omega)
        obtain ⟨K, rfl⟩ := Int.eq_ofNat_of_zero_le (show 0 ≤ k by omega)
        have hlK : zs.length = K := by omega
        have HAV := hidd (fun W h => avoids44 N K bs hb zs a cap W h hlK (by omega) (by omega) (by omega) (by rw [← hlK]; exact hsp))
        cases hav : avP N bs zs K with
        | false =>
          have hea : eaC 16 (N : Int) (K : Int) bs zs = 5 := eaC_5 hc0 hav
          have hc : ieC (N : Int) (K : Int) bs zs cs = 5 := by unfold ieC; rw [hea, if_neg (by omega), hL, if_pos rfl]
          rw [ieV_bad hc (by omega), hc]
          have HV := hidd hav
          rw [hlK] at HCO ⊢
          clear hc hL ha hc0 hi ho hlk hsp hea hav hlK hl
          go_enter Tryd.func13, Tryd.ntmps13
          go_upto_region 1 with fail
          rw [← hW0]
          clear hW0
          go_wp2_with (refine wpList_load_row rfl 28 (.tmp 3) rfl w.heap.size rfl 28 _ (0,0) _ HG.out.1 Tryd.underlying28 rfl HS.out ?_)
          refine (HCO.out _ (HSL.out.below HG.out.2 (Nat.le_refl _))).mono ?_
          rintro e w1 ⟨rfl, hb1⟩
          have g1 := HG.out.1.below hb1 HG.out.1.lt
          have c0 := g1.cell HC0.out
          have c1 := g1.cell HC1.out
          have G := hidd (And.intro (HG.out.2.trans (hb1.mono HG.out.2.size)) g1)
          clear hb1 g1
          go_wp2_with (first
            | (go_at_call 43; refine (HAL.out _ (HSL2.out.below G.out.1 (Nat.le_refl _))).mono ?_; rintro e w' ⟨rfl, rfl⟩; rw [HA.out])
            | (refine wpList_load_if rfl 28 (.tmp 3) rfl w.heap.size rfl 28 _ _ G.out.2 Tryd.underlying28 rfl HS.out ?_)
            | (go_at_call 44; refine (HAV.out _ (HSL.out.below G.out.1 (Nat.le_refl _))).mono ?_; rintro e w2 ⟨rfl, hb2⟩; rw [HV.out]))
          go_ret2
          exact ⟨rfl, G.out.1.trans (hb2.mono G.out.1.size)⟩
        | true =>
          have HV := hidd hav
          by_cases h17 : N = 17
          · have H17 := hidd (show ((N : Int) == 17) = true by rw [beq_iff_eq]; omega)
            have hea : eaC 16 (N : Int) (K : Int) bs zs = 3 := eaC_3 hc0 hav (by omega)
            have hc : ieC (N : Int) (K : Int) bs zs cs = 3 := by unfold ieC; rw [hea, if_neg (by omega), hL, if_pos rfl]
            rw [ieV_bad hc (by omega), hc]
            rw [hlK] at HCO ⊢
            clear hc hL ha hc0 hi ho hlk hsp hea hav hlK hl h17
            go_enter Tryd.func13, Tryd.ntmps13
            go_upto_region 1 with fail
            rw [← hW0]
            clear hW0
            go_wp2_with (refine wpList_load_row rfl 28 (.tmp 3) rfl w.heap.size rfl 28 _ (0,0) _ HG.out.1 Tryd.underlying28 rfl HS.out ?_)
            refine (HCO.out _ (HSL.out.below HG.out.2 (Nat.le_refl _))).mono ?_
            rintro e w1 ⟨rfl, hb1⟩
            have g1 := HG.out.1.below hb1 HG.out.1.lt
            have c0 := g1.cell HC0.out
            have c1 := g1.cell HC1.out
            have G := hidd (And.intro (HG.out.2.trans (hb1.mono HG.out.2.size)) g1)
            clear hb1 g1
            have h17I := H17.out
            go_wp2_with (first
              | (go_at_call 43; refine (HAL.out _ (HSL2.out.below G.out.1 (Nat.le_refl _))).mono ?_; rintro e w' ⟨rfl, rfl⟩; rw [HA.out])
              | (refine wpList_load_if rfl 28 (.tmp 3) rfl w.heap.size rfl 28 _ _ G.out.2 Tryd.underlying28 rfl HS.out ?_)
              | (go_at_call 44; refine (HAV.out _ (HSL.out.below G.out.1 (Nat.le_refl _))).mono ?_; rintro e w2 ⟨rfl, hb2⟩; rw [HV.out]; have c0' := (G.out.2.below hb2 G.out.2.lt).cell HC0.out))
            go_ret2
            exact ⟨rfl, G.out.1.trans (hb2.mono G.out.1.size)⟩
          · have hea : eaC 16 (N : Int) (K : Int) bs zs = 0 := eaC_0 hc0 hav (by omega)
            have hc : ieC (N : Int) (K : Int) bs zs cs = 0 := by unfold ieC; rw [hea, if_neg (by omega), hL, if_pos rfl]
            have hcp : codeP (N : Int) (K : Int) bs cs = 0 := codeP_0 hi hln ha (by omega)
            have hv : ieV (N : Int) (K : Int) bs zs cs = avP (N + 1) (putK bs (edg (N : Int)).toNat cs cs.length) zs K := by unfold ieV; rw [hc]; rfl
            rw [hv, hc]
            have h17I : ((N : Int) == 17) = false := by rw [beq_eq_false_iff_ne]; omega
            have hpb := put_col hb hcp
            have HPU := hidd (fun W h => put71 (N : Int) (K : Int) bs hb cs b capb W h (by omega) (by omega) hln (fun j hj => by
              have h1 := allB_get ha hj
              omega))
            obtain ⟨pb, hpe⟩ : ∃ pb, pb = putK bs (edg (N : Int)).toNat cs cs.length := ⟨_, rfl⟩
            rw [← hpe] at HPU hpb ⊢
            have HA2 := hidd (fun W h => avoids44 (N + 1) K pb hpb zs a cap W h hlK (by omega) (by omega) (by omega) (by rw [← hlK]; exact hsp))
            rw [show ((N + 1 : Nat) : Int) = (N : Int) + 1 by omega] at HA2
            obtain ⟨v, hve⟩ : ∃ v, v = avP (N + 1) pb zs K := ⟨_, rfl⟩
            rw [← hve] at HA2 ⊢
            obtain ⟨D2, hD2⟩ : ∃ D2, D2 = (ccells ((N : Int) + 1) (K : Int) pb).toArray := ⟨_, rfl⟩
            rw [← hD2] at HPU HA2
            rw [hlK] at HCO ⊢
            clear hc hL ha hc0 hi ho hlk hsp hea hav hlK hl hcp hv hpe hve hD2 hpb
            go_enter Tryd.func13, Tryd.ntmps13
            go_upto_region 1 with fail
            rw [← hW0]
            clear hW0
            go_wp2_with (refine wpList_load_row rfl 28 (.tmp 3) rfl w.heap.size rfl 28 _ (0,0) _ HG.out.1 Tryd.underlying28 rfl HS.out ?_)
            refine (HCO.out _ (HSL.out.below HG.out.2 (Nat.le_refl _))).mono ?_
            rintro e w1 ⟨rfl, hb1⟩
            have g1 := HG.out.1.below hb1 HG.out.1.lt
            have c0 := g1.cell HC0.out
            have c1 := g1.cell HC1.out
            have G := hidd (And.intro (HG.out.2.trans (hb1.mono HG.out.2.size)) g1)
            clear hb1 g1
            go_wp2_with (first
              | (go_at_call 43; refine (HAL.out _ (HSL2.out.below G.out.1 (Nat.le_refl _))).mono ?_; rintro e w' ⟨rfl, rfl⟩; rw [HA.out])
              | (refine wpList_load_if rfl 28 (.tmp 3) rfl w.heap.size rfl 28 _ _ G.out.2 Tryd.underlying28 rfl HS.out ?_)
              | (go_at_call 44; refine (HAV.out _ (HSL.out.below G.out.1 (Nat.le_refl _))).mono ?_; rintro e w2 ⟨rfl, hb2⟩; rw [HV.out]; have c0' := (G.out.2.below hb2 G.out.2.lt).cell HC0.out)
              | (refine wpList_load_row rfl 28 (.tmp 3) rfl w.heap.size rfl 28 _ (0,0) _ (G.out.2.below hb2 G.out.2.lt) Tryd.underlying28 rfl HS.out ?_))
            have L := hidd (And.intro (G.out.2.below hb2 G.out.2.lt) (G.out.1.trans (hb2.mono G.out.1.size)))
            clear hb2
            refine (HPU.out _ (HSL2.out.below L.out.2 (Nat.le_refl _))).mono ?_
            rintro e w3 ⟨rfl, hb3⟩
            have L2 := hidd (L.out.2.trans (hb3.mono L.out.2.size))
            clear hb3
            go_wp2_with fail
            refine (HA2.out _ (HSL.out.below L2.out (Nat.le_refl _))).mono ?_
            rintro e w4 ⟨rfl, hb4⟩
            have L3 := hidd (L2.out.trans (hb4.mono L2.out.size))
            clear hb4
            go_wp2_with fail
            go_ret2
            exact ⟨rfl, L3.out⟩
    · have hne : ((cs.length : Int) != n) = true := by rw [bne_iff_ne]; exact hln
      have hL : isListB cs n k = false := by unfold isListB; rw [decide_eq_false hln]; rfl
      have hc : ieC n k bs zs cs = 2 := by
        unfold ieC
        rw [if_neg, hL]
        · rfl
        · cases h2 : avP n.toNat bs zs k.toNat with
          | false => rw [eaC_5 hc0 h2]; omega
          | true =>
            by_cases h3 : (16 : Int) < n
            · rw [eaC_3 hc0 h2 h3]; omega
            · rw [eaC_0 hc0 h2 h3]; omega
      rw [ieV_bad hc (by omega), hc]
      clear hc hL hc0 hi ho hlk hsp
      go_enter Tryd.func13, Tryd.ntmps13
      go_upto_region 1 with fail
      rw [← hW0]
      clear hW0
      go_wp2_with (refine wpList_load_row rfl 28 (.tmp 3) rfl w.heap.size rfl 28 _ (0,0) _ HG.out.1 Tryd.underlying28 rfl HS.out ?_)
      refine (HCO.out _ (HSL.out.below HG.out.2 (Nat.le_refl _))).mono ?_
      rintro e w1 ⟨rfl, hb1⟩
      have g1 := HG.out.1.below hb1 HG.out.1.lt
      have c0 := g1.cell HC0.out
      have c1 := g1.cell HC1.out
      have G := hidd (And.intro (HG.out.2.trans (hb1.mono HG.out.2.size)) g1)
      clear hb1 g1
      go_wp2_with fail
      go_ret2
      exact ⟨rfl, G.out.1⟩
  · have hea := eaC_bad (lim := 16) hc0
    have hc : ieC n k bs zs cs = szCode n k bs zs := by
      unfold ieC
      rw [hea]
      by_cases h1 : szCode n k bs zs = 1
      · rw [if_pos h1, h1]
      · rw [if_neg h1]
        split
        · rfl
        · have : isCol n k bs = true := by
            cases hi : isCol n k bs with
            | true => rfl
            | false => exact absurd (szCode_1 hi) h1
          cases ho : szOk k zs with
          | true => exact absurd (szCode_0 this ho) hc0
          | false => rw [szCode_2 this ho]
    rw [ieV_bad hc hc0, hc]
    obtain ⟨cd, hcd⟩ : ∃ cd, cd = szCode n k bs zs := ⟨_, rfl⟩
    rw [← hcd] at HCO hc0 ⊢
    have hz : (cd == 0) = false := by rw [beq_eq_false_iff_ne]; exact hc0
    have hz2 : (cd != 0) = true := by rw [bne_iff_ne]; exact hc0
    clear hc hea hcd hc0
    go_enter Tryd.func13, Tryd.ntmps13
    go_upto_region 1 with fail
    rw [← hW0]
    clear hW0
    go_wp2_with (refine wpList_load_row rfl 28 (.tmp 3) rfl w.heap.size rfl 28 _ (0,0) _ HG.out.1 Tryd.underlying28 rfl HS.out ?_)
    refine (HCO.out _ (HSL.out.below HG.out.2 (Nat.le_refl _))).mono ?_
    rintro e w1 ⟨rfl, hb1⟩
    have g1 := HG.out.1.below hb1 HG.out.1.lt
    have c0 := g1.cell HC0.out
    have c1 := g1.cell HC1.out
    have G := hidd (And.intro (HG.out.2.trans (hb1.mono HG.out.2.size)) g1)
    clear hb1 g1
    go_wp2_with fail
    go_ret2
    exact ⟨rfl, G.out.1⟩
end Go.Proofs.YtckffliiidgilaaDoor
