/- IsClosed: what it answers; the program and its model. -/
import Derived.Test.YtckffliiidgilaaDoorExa
import Derived.Test.YtckffliiidgilaaDoorCnx
import Derived.Test.YtckffliiidgilaaDoorIex
namespace Go.Proofs.YtckffliiidgilaaDoor
set_option linter.unusedVariables false
set_option linter.unusedSimpArgs false
open Go Go.RowKit Go.Extern.Stop Go.Stop Go.Extern
def iclC (n k : Int) (bs : List Nat) (zs : List Int) : Int := if szCode n k bs zs = 0 then (if 12 < n then 3 else 0) else szCode n k bs zs
def iclV (n k : Int) (bs : List Nat) (zs : List Int) : Bool := decide (iclC n k bs zs = 0) && (avP n.toNat bs zs k.toNat && decide (cnS bs n.toNat k.toNat zs (n.toNat + 1) = 0))
theorem iclC_bad {n k : Int} {bs : List Nat} {zs : List Int} (h : szCode n k bs zs ≠ 0) : iclC n k bs zs = szCode n k bs zs := by unfold iclC; rw [if_neg h]
theorem iclC_3 {n k : Int} {bs : List Nat} {zs : List Int} (h : szCode n k bs zs = 0) (h3 : 12 < n) : iclC n k bs zs = 3 := by unfold iclC; rw [if_pos h, if_pos h3]
theorem iclC_0 {n k : Int} {bs : List Nat} {zs : List Int} (h : szCode n k bs zs = 0) (h3 : ¬ 12 < n) : iclC n k bs zs = 0 := by unfold iclC; rw [if_pos h, if_neg h3]
theorem iclV_bad {n k : Int} {bs : List Nat} {zs : List Int} (h : iclC n k bs zs ≠ 0) : iclV n k bs zs = false := by unfold iclV; rw [decide_eq_false h]; rfl
theorem one_zero {L : List (List Int)} : (((L.take 1).length : Int) == 0) = decide (L.length = 0) := by
  cases L with
  | nil => rfl
  | cons x L => simp
set_option maxRecDepth 100000 in
set_option maxHeartbeats 4000000 in
theorem spec31 (n k : Int) (bs : List Nat) (hb : Bys bs) (zs : List Int) (a : Option Addr) (cap : Nat) (w : World) (hs : SlI w a zs) (hl : zs.length ≤ 1048576) :
    Calls Tryd.prog 31 #[.agg (ccells n k bs).toArray, .slice a zs.length cap] w fun e w' => e = .returned (.tuple #[.bool (iclV n k bs zs), .int .i64 (iclC n k bs zs)]) ∧ Below w.heap.size w w' := by
  have HS := hidd (size_c26 n k hb)
  have HSL := hidd hs
  have HC0 := hidd (show (ccells n k bs).toArray[0]? = some (.int .i64 n) from rfl)
  have HCO := hidd (fun W h => code42 n k bs hb zs a cap W h hl)
  have HG := hidd (And.intro (Blk.new w (ccells n k bs).toArray 28 _ rfl) ((Below.refl w.heap.size w).alloc (Nat.le_refl _) (.cells (ccells n k bs).toArray 28)))
  obtain ⟨W0, hW0⟩ : ∃ W0, W0 = w.alloc (.cells (ccells n k bs).toArray 28) := ⟨_, rfl⟩
  rw [← hW0] at HG
  by_cases hc0 : szCode n k bs zs = 0
  · rw [hc0] at HCO
    by_cases h12 : (12 : Int) < n
    · rw [iclV_bad (by rw [iclC_3 hc0 h12]; omega), iclC_3 hc0 h12]
      have hgt : decide (n > 12) = true := decide_eq_true h12
      have hgt2 : decide (12 < n) = true := decide_eq_true h12
      clear hs hl hc0
      go_enter Tryd.func31, Tryd.ntmps31
      go_upto_region 1 with fail
      rw [← hW0]
      clear hW0
      go_wp2_with (refine wpList_load_row rfl 28 (.tmp 2) rfl w.heap.size rfl 28 _ (0,0) _ HG.out.1 Tryd.underlying28 rfl HS.out ?_)
      refine (HCO.out _ (HSL.out.below HG.out.2 (Nat.le_refl _))).mono ?_
      rintro e w1 ⟨rfl, hb1⟩
      have c0 := (HG.out.1.below hb1 HG.out.1.lt).cell HC0.out
      have G := hidd (HG.out.2.trans (hb1.mono HG.out.2.size))
      clear hb1
      go_wp2_with fail
      go_ret2
      exact ⟨rfl, G.out⟩
    · obtain ⟨hi, ho⟩ := szCode_ok hc0
      obtain ⟨n1, n2, k1, k2⟩ := isCol_bd hi
      obtain ⟨hlk, hsp⟩ := szOk_bd ho
      obtain ⟨N, rfl⟩ := Int.eq_ofNat_of_zero_le (show 0 ≤ n by omega)
      obtain ⟨K, rfl⟩ := Int.eq_ofNat_of_zero_le (show 0 ≤ k by omega)
      have hlK : zs.length = K := by omega
      rw [hlK] at hsp
      have hcode : iclC (N : Int) (K : Int) bs zs = 0 := iclC_0 hc0 h12
      have hv : iclV (N : Int) (K : Int) bs zs = (avP N bs zs K && decide (cnS bs N K zs (N + 1) = 0)) := by unfold iclV; rw [hcode]; rfl
      have HAV := hidd (fun W h => avoids44 N K bs hb zs a cap W h hlK (by omega) (by omega) (by omega) hsp)
      have hgt : decide ((N : Int) > 12) = false := decide_eq_false h12
      have hgt2 : decide (12 < (N : Int)) = false := decide_eq_false h12
      have hgt3 : decide (12 < N) = false := decide_eq_false (by omega)
      rw [hv, hcode, hlK]
      rw [hlK] at HCO
      cases hav : avP N bs zs K with
      | false =>
        rw [hav] at HAV
        clear hs hl hc0 hi ho hlk hsp hcode hv hav
        go_enter Tryd.func31, Tryd.ntmps31
        go_upto_region 1 with fail
        rw [← hW0]
        clear hW0
        go_wp2_with (refine wpList_load_row rfl 28 (.tmp 2) rfl w.heap.size rfl 28 _ (0,0) _ HG.out.1 Tryd.underlying28 rfl HS.out ?_)
        refine (HCO.out _ (HSL.out.below HG.out.2 (Nat.le_refl _))).mono ?_
        rintro e w1 ⟨rfl, hb1⟩
        have g1 := HG.out.1.below hb1 HG.out.1.lt
        have c0 := g1.cell HC0.out
        have G := hidd (And.intro (HG.out.2.trans (hb1.mono HG.out.2.size)) g1)
        clear hb1 g1
        go_wp2_with (first
          | (refine wpList_load_row rfl 28 (.tmp 2) rfl w.heap.size rfl 28 _ (0,0) _ G.out.2 Tryd.underlying28 rfl HS.out ?_)
          | (go_at_call 44; refine (HAV.out _ (HSL.out.below G.out.1 (Nat.le_refl _))).mono ?_; rintro e w2 ⟨rfl, hb2⟩; have G2 := hidd (G.out.1.trans (hb2.mono G.out.1.size)); clear hb2))
        go_ret2
        exact ⟨rfl, G2.out⟩
      | true =>
        rw [hav] at HAV
        have h2 := no1_of_av (by omega) hsp hav
        have HAL := hidd (fun W h => all54 N K 1 bs hb zs a cap hlK (by omega) (by omega) (by omega) (by omega) h2 hsp (by omega) (by omega) W h)
        have hz := one_zero (L := exA bs N K zs)
        rw [exA_len (by omega) (by omega) h2] at hz
        obtain ⟨L, hL⟩ : ∃ L, L = (exA bs N K zs).take 1 := ⟨_, rfl⟩
        rw [← hL] at HAL hz
        obtain ⟨x, hx⟩ : ∃ x, x = decide (cnS bs N K zs (N + 1) = 0) := ⟨_, rfl⟩
        rw [← hx] at hz ⊢
        obtain ⟨ln, hln⟩ : ∃ ln, ln = L.length := ⟨_, rfl⟩
        rw [← hln] at hz
        have HLN := hidd hln
        clear hs hl hc0 hi ho hlk hsp hcode hv hav h2 hL hx hln
        go_enter Tryd.func31, Tryd.ntmps31
        go_upto_region 1 with fail
        rw [← hW0]
        clear hW0
        go_wp2_with (refine wpList_load_row rfl 28 (.tmp 2) rfl w.heap.size rfl 28 _ (0,0) _ HG.out.1 Tryd.underlying28 rfl HS.out ?_)
        refine (HCO.out _ (HSL.out.below HG.out.2 (Nat.le_refl _))).mono ?_
        rintro e w1 ⟨rfl, hb1⟩
        have g1 := HG.out.1.below hb1 HG.out.1.lt
        have c0 := g1.cell HC0.out
        have G := hidd (And.intro (HG.out.2.trans (hb1.mono HG.out.2.size)) g1)
        clear hb1 g1
        go_wp2_with (first
          | (refine wpList_load_row rfl 28 (.tmp 2) rfl w.heap.size rfl 28 _ (0,0) _ G.out.2 Tryd.underlying28 rfl HS.out ?_)
          | (go_at_call 44; refine (HAV.out _ (HSL.out.below G.out.1 (Nat.le_refl _))).mono ?_; rintro e w2 ⟨rfl, hb2⟩; have G2 := hidd (And.intro (G.out.1.trans (hb2.mono G.out.1.size)) (G.out.2.below hb2 G.out.2.lt)); clear hb2)
          | (refine wpList_load_if rfl 28 (.tmp 2) rfl w.heap.size rfl 28 _ _ G2.out.2 Tryd.underlying28 rfl HS.out ?_)
          | (go_at_call 54; refine (HAL.out _ (HSL.out.below G2.out.1 (Nat.le_refl _))).mono ?_; rintro e w3 ⟨v3, rfl, hL3, hb3⟩; obtain ⟨g3, cap3, _, rfl, _⟩ := hL3.at; rw [← HLN.out]; have G3 := hidd (G2.out.1.trans (hb3.mono G2.out.1.size)); clear hb3 hL3))
        go_ret2
        exact ⟨rfl, G3.out⟩
  · rw [iclV_bad (by rw [iclC_bad hc0]; exact hc0), iclC_bad hc0]
    obtain ⟨cd, hcd⟩ : ∃ cd, cd = szCode n k bs zs := ⟨_, rfl⟩
    rw [← hcd] at HCO hc0 ⊢
    have hz : (cd == 0) = false := by rw [beq_eq_false_iff_ne]; exact hc0
    have hz2 : (cd != 0) = true := by rw [bne_iff_ne]; exact hc0
    clear hs hcd hc0
    go_enter Tryd.func31, Tryd.ntmps31
    go_upto_region 1 with fail
    rw [← hW0]
    clear hW0
    go_wp2_with (refine wpList_load_row rfl 28 (.tmp 2) rfl w.heap.size rfl 28 _ (0,0) _ HG.out.1 Tryd.underlying28 rfl HS.out ?_)
    refine (HCO.out _ (HSL.out.below HG.out.2 (Nat.le_refl _))).mono ?_
    rintro e w1 ⟨rfl, hb1⟩
    have G := hidd (HG.out.2.trans (hb1.mono HG.out.2.size))
    clear hb1
    go_wp2_with fail
    go_ret2
    exact ⟨rfl, G.out⟩
set_option maxRecDepth 100000 in
set_option maxHeartbeats 4000000 in
theorem impl32 (n k : Int) (bs : List Nat) (hb : Bys bs) (zs : List Int) (a : Option Addr) (cap : Nat) (e0 : Addr) (w : World) (hs : SlI w a zs) (hl : zs.length ≤ 1048576) (hE : Er w e0) :
    Calls Tryd.prog 32 #[.agg (ccells n k bs).toArray, .slice a zs.length cap] w fun e w' => e = .returned (.tuple #[.bool (iclV n k bs zs), .int .i64 (iclC n k bs zs)]) ∧ Below w.heap.size w w' := by
  have Hz := zero56
  have HS := hidd (size_c26 n k hb)
  have HSL := hidd hs
  have HE := hidd hE
  have HEN := hidd (fun W h hE => enter58 n k bs hb zs a cap e0 W h hl hE)
  have HC0 := hidd (show (ccells n k bs).toArray[0]? = some (.int .i64 n) from rfl)
  have HG := hidd (And.intro (Blk.new w (ccells n k bs).toArray 28 _ rfl) ((Below.refl w.heap.size w).alloc (Nat.le_refl _) (.cells (ccells n k bs).toArray 28)))
  obtain ⟨W0, hW0⟩ : ∃ W0, W0 = w.alloc (.cells (ccells n k bs).toArray 28) := ⟨_, rfl⟩
  rw [← hW0] at HG
  obtain ⟨D, hD⟩ : ∃ D, D = (enS n k bs zs a cap).toArray := ⟨_, rfl⟩
  obtain ⟨cd, hcd⟩ : ∃ cd, cd = szCode n k bs zs := ⟨_, rfl⟩
  have hDs : (Tryd.prog.info? 56).map (·.size) = some D.size ∧ (scl 0 0 zbl none 0 0).toArray.size = D.size ∧ D.all (·.oneCell') = true := by
    rw [hD]; unfold enS
    split
    · exact ⟨size_s56 hb _ _ _, by simp [scl_len zbl_bys, scl_len hb], scl_one⟩
    · exact ⟨size_s56 zbl_bys _ _ _, rfl, scl_one⟩
  have HD := hidd hDs
  rw [← hD, ← hcd] at HEN
  have HJ := hidd (fun (W1 : World) (hb1 : Below W0.heap.size W0 W1) =>
    (show Blk ((W1.alloc (.cells (scl 0 0 zbl none 0 0).toArray 56)).setRow W1.heap.size D) W1.heap.size D 56 ∧
        Blk ((W1.alloc (.cells (scl 0 0 zbl none 0 0).toArray 56)).setRow W1.heap.size D) w.heap.size (ccells n k bs).toArray 28 ∧
        Below w.heap.size w ((W1.alloc (.cells (scl 0 0 zbl none 0 0).toArray 56)).setRow W1.heap.size D) from by
      have k1 := HG.out.1.below hb1 HG.out.1.lt
      have hlt := k1.lt
      have k3 := HG.out.2.trans (hb1.mono HG.out.2.size)
      have k4 : Blk (W1.alloc (.cells (scl 0 0 zbl none 0 0).toArray 56)) W1.heap.size (scl 0 0 zbl none 0 0).toArray 56 := Blk.new _ _ _ _ rfl
      exact ⟨k4.rowSame _, (k1.alloc _).rowOther _ _ (by omega), below_setRow (k3.alloc (by omega) _) (by omega) _⟩))
  clear hDs hs hE
  by_cases h0 : cd = 0
  · have hc0 := hcd.symm.trans h0
    by_cases h12 : (12 : Int) < n
    · rw [iclV_bad (by rw [iclC_3 hc0 h12]; omega), iclC_3 hc0 h12]
      have hgt : decide (n > 12) = true := decide_eq_true h12
      have hgt2 : decide (12 < n) = true := decide_eq_true h12
      clear hl hc0 hD hcd
      subst h0
      go_enter Tryd.func32, Tryd.ntmps32
      go_upto_region 1 with fail
      rw [← hW0]
      clear hW0
      go_wp2_with (refine wpList_load_row rfl 28 (.tmp 2) rfl w.heap.size rfl 28 _ (0,0) _ HG.out.1 Tryd.underlying28 rfl HS.out ?_)
      refine (HEN.out _ (HSL.out.below HG.out.2 (Nat.le_refl _)) (HE.out.below HG.out.2 HE.out.lt)).mono ?_
      rintro e w1 ⟨rfl, hb1⟩
      have J3 := hidd (HJ.out w1 hb1)
      clear hb1
      obtain ⟨W4, hW4⟩ : ∃ W4, W4 = (w1.alloc (.cells (scl 0 0 zbl none 0 0).toArray 56)).setRow w1.heap.size D := ⟨_, rfl⟩
      rw [← hW4] at J3
      have c0 := J3.out.2.1.cell HC0.out
      go_upto_region 2 with (refine wpList_store_row rfl 56 (.tmp 6) (.tmp 12) rfl w1.heap.size _ rfl rfl 56 _ (Blk.new _ _ _ _ rfl) HD.out.1 HD.out.2.1 HD.out.2.2 ?_)
      rw [← hW4]
      clear hW4
      clear HEN
      go_wp2_with fail
      go_ret2
      exact ⟨rfl, J3.out.2.2⟩
    · obtain ⟨hi, ho⟩ := szCode_ok hc0
      obtain ⟨n1, n2, k1, k2⟩ := isCol_bd hi
      obtain ⟨hlk, hsp⟩ := szOk_bd ho
      obtain ⟨N, rfl⟩ := Int.eq_ofNat_of_zero_le (show 0 ≤ n by omega)
      obtain ⟨K, rfl⟩ := Int.eq_ofNat_of_zero_le (show 0 ≤ k by omega)
      have hlK : zs.length = K := by omega
      rw [hlK] at hsp
      have hcode : iclC (N : Int) (K : Int) bs zs = 0 := iclC_0 hc0 h12
      have hv : iclV (N : Int) (K : Int) bs zs = (avP N bs zs K && decide (cnS bs N K zs (N + 1) = 0)) := by unfold iclV; rw [hcode]; rfl
      have HAV := hidd (fun W h => avoids50 N K bs hb zs a cap W h hlK (by omega) (by omega) (by omega) hsp)
      have hDe : D = (scl (N : Int) (K : Int) bs a K cap).toArray := by rw [hD]; unfold enS; rw [if_pos hc0, hlK]
      have hgt : decide ((N : Int) > 12) = false := decide_eq_false h12
      have hgt2 : decide (12 < (N : Int)) = false := decide_eq_false h12
      have hgt3 : decide (12 < N) = false := decide_eq_false (by omega)
      rw [hv, hcode, hlK]
      rw [hlK] at HEN
      rw [← hDe] at HAV
      cases hav : avP N bs zs K with
      | false =>
        rw [hav] at HAV
        clear hl hc0 hi ho hlk hsp hcode hv hav hD hcd hDe
        subst h0
        go_enter Tryd.func32, Tryd.ntmps32
        go_upto_region 1 with fail
        rw [← hW0]
        clear hW0
        go_wp2_with (refine wpList_load_row rfl 28 (.tmp 2) rfl w.heap.size rfl 28 _ (0,0) _ HG.out.1 Tryd.underlying28 rfl HS.out ?_)
        refine (HEN.out _ (HSL.out.below HG.out.2 (Nat.le_refl _)) (HE.out.below HG.out.2 HE.out.lt)).mono ?_
        rintro e w1 ⟨rfl, hb1⟩
        have J3 := hidd (HJ.out w1 hb1)
        clear hb1
        obtain ⟨W4, hW4⟩ : ∃ W4, W4 = (w1.alloc (.cells (scl 0 0 zbl none 0 0).toArray 56)).setRow w1.heap.size D := ⟨_, rfl⟩
        rw [← hW4] at J3
        have c0 := J3.out.2.1.cell HC0.out
        go_upto_region 2 with (refine wpList_store_row rfl 56 (.tmp 6) (.tmp 12) rfl w1.heap.size _ rfl rfl 56 _ (Blk.new _ _ _ _ rfl) HD.out.1 HD.out.2.1 HD.out.2.2 ?_)
        rw [← hW4]
        clear hW4
        clear HEN
        go_wp2_with (first
          | (refine wpList_load_row rfl 56 (.tmp 6) rfl w1.heap.size rfl 56 _ (0,0) _ J3.out.1 Tryd.underlying56 rfl HD.out.1 ?_)
          | (go_at_call 50; refine (HAV.out _ (HSL.out.below J3.out.2.2 (Nat.le_refl _))).mono ?_; rintro e w2 ⟨rfl, hb2⟩; have G2 := hidd (J3.out.2.2.trans (hb2.mono J3.out.2.2.size)); clear hb2))
        go_ret2
        exact ⟨rfl, G2.out⟩
      | true =>
        rw [hav] at HAV
        have HCN := hidd (fun W h => count53 N K bs hb zs a cap hlK (by omega) (by omega) (by omega) (by omega) (no1_of_av (by omega) hsp hav) hsp W h)
        rw [← hDe] at HCN
        have hz : ((cnS bs N K zs (N + 1) : Int) == 0) = decide (cnS bs N K zs (N + 1) = 0) := by
          by_cases e : cnS bs N K zs (N + 1) = 0
          · rw [e]; rfl
          · rw [decide_eq_false e, beq_eq_false_iff_ne]; omega
        obtain ⟨x, hx⟩ : ∃ x, x = decide (cnS bs N K zs (N + 1) = 0) := ⟨_, rfl⟩
        obtain ⟨V, hV⟩ : ∃ V, V = cnS bs N K zs (N + 1) := ⟨_, rfl⟩
        rw [← hx] at hz ⊢
        rw [← hV] at HCN hz
        clear hl hc0 hi ho hlk hsp hcode hv hav hx hV hD hcd hDe
        subst h0
        go_enter Tryd.func32, Tryd.ntmps32
        go_upto_region 1 with fail
        rw [← hW0]
        clear hW0
        go_wp2_with (refine wpList_load_row rfl 28 (.tmp 2) rfl w.heap.size rfl 28 _ (0,0) _ HG.out.1 Tryd.underlying28 rfl HS.out ?_)
        refine (HEN.out _ (HSL.out.below HG.out.2 (Nat.le_refl _)) (HE.out.below HG.out.2 HE.out.lt)).mono ?_
        rintro e w1 ⟨rfl, hb1⟩
        have J3 := hidd (HJ.out w1 hb1)
        clear hb1
        obtain ⟨W4, hW4⟩ : ∃ W4, W4 = (w1.alloc (.cells (scl 0 0 zbl none 0 0).toArray 56)).setRow w1.heap.size D := ⟨_, rfl⟩
        rw [← hW4] at J3
        have c0 := J3.out.2.1.cell HC0.out
        go_upto_region 2 with (refine wpList_store_row rfl 56 (.tmp 6) (.tmp 12) rfl w1.heap.size _ rfl rfl 56 _ (Blk.new _ _ _ _ rfl) HD.out.1 HD.out.2.1 HD.out.2.2 ?_)
        rw [← hW4]
        clear hW4
        clear HEN
        go_wp2_with (first
          | (refine wpList_load_row rfl 56 (.tmp 6) rfl w1.heap.size rfl 56 _ (0,0) _ J3.out.1 Tryd.underlying56 rfl HD.out.1 ?_)
          | (go_at_call 50; refine (HAV.out _ (HSL.out.below J3.out.2.2 (Nat.le_refl _))).mono ?_; rintro e w2 ⟨rfl, hb2⟩; have G2 := hidd (And.intro (J3.out.2.2.trans (hb2.mono J3.out.2.2.size)) (J3.out.1.below hb2 J3.out.1.lt)); clear hb2)
          | (refine wpList_load_if rfl 56 (.tmp 6) rfl w1.heap.size rfl 56 _ _ G2.out.2 Tryd.underlying56 rfl HD.out.1 ?_)
          | (go_at_call 53; refine (HCN.out _ (HSL.out.below G2.out.1 (Nat.le_refl _))).mono ?_; rintro e w3 ⟨rfl, hb3⟩; have G3 := hidd (G2.out.1.trans (hb3.mono G2.out.1.size)); clear hb3))
        go_ret2
        exact ⟨rfl, G3.out⟩
  · have hne : (cd != 0) = true := by rw [bne_iff_ne]; exact h0
    rw [iclV_bad (by rw [iclC_bad (by rw [← hcd]; exact h0), ← hcd]; exact h0), iclC_bad (by rw [← hcd]; exact h0), ← hcd]
    clear hD hcd
    go_enter Tryd.func32, Tryd.ntmps32
    go_upto_region 1 with fail
    rw [← hW0]
    clear hW0
    go_wp2_with (refine wpList_load_row rfl 28 (.tmp 2) rfl w.heap.size rfl 28 _ (0,0) _ HG.out.1 Tryd.underlying28 rfl HS.out ?_)
    refine (HEN.out _ (HSL.out.below HG.out.2 (Nat.le_refl _)) (HE.out.below HG.out.2 HE.out.lt)).mono ?_
    rintro e w1 ⟨rfl, hb1⟩
    have J := hidd (HJ.out w1 hb1)
    clear hb1
    go_wp2_with (refine wpList_store_row rfl 56 (.tmp 6) (.tmp 12) rfl w1.heap.size _ rfl rfl 56 _ (Blk.new _ _ _ _ rfl) HD.out.1 HD.out.2.1 HD.out.2.2 ?_)
    go_ret2
    exact ⟨rfl, J.out.2.2⟩
end Go.Proofs.YtckffliiidgilaaDoor
