/- ExtensionsByDegree: the program and its model. -/
import Derived.Test.YtckffliiidgilaaDoorCny
import Derived.Test.YtckffliiidgilaaDoorOnly
namespace Go.Proofs.YtckffliiidgilaaDoor
set_option linter.unusedVariables false
set_option linter.unusedSimpArgs false
open Go Go.RowKit Go.Extern.Stop Go.Stop Go.Extern
def edL (n k : Int) (bs : List Nat) (zs : List Int) : List Int := if eaC 12 n k bs zs = 0 then cdL bs n.toNat k.toNat zs else []
theorem edL_bad {n k : Int} {bs : List Nat} {zs : List Int} (h : eaC 12 n k bs zs ≠ 0) : edL n k bs zs = [] := by unfold edL; rw [if_neg h]
theorem edL_len {n k : Int} {bs : List Nat} {zs : List Int} : (edL n k bs zs).length ≤ 17 := by
  by_cases h : eaC 12 n k bs zs = 0
  · have h2 := eaC_ok h
    unfold edL; rw [if_pos h]; unfold cdL; rw [dgL_len]; omega
  · rw [edL_bad h]; simp
set_option maxRecDepth 100000 in
set_option maxHeartbeats 4000000 in
theorem impl30 (n k : Int) (bs : List Nat) (hb : Bys bs) (zs : List Int) (a : Option Addr) (cap : Nat) (e0 : Addr) (w : World) (hs : SlI w a zs) (hl : zs.length ≤ 1048576) (hE : Er w e0) :
    Calls Tryd.prog 30 #[.agg (ccells n k bs).toArray, .slice a zs.length cap] w fun e w' => LOut w (edL n k bs zs) (eaC 12 n k bs zs) e w' := by
  have Hz := zero56
  have HS := hidd (size_c26 n k hb)
  have HSL := hidd hs
  have HE := hidd hE
  have HEN := hidd (fun W h hE => ea47 12 n k bs hb zs a cap e0 W h hl hE)
  have HG := hidd (And.intro (Blk.new w (ccells n k bs).toArray 28 _ rfl) ((Below.refl w.heap.size w).alloc (Nat.le_refl _) (.cells (ccells n k bs).toArray 28)))
  obtain ⟨W0, hW0⟩ : ∃ W0, W0 = w.alloc (.cells (ccells n k bs).toArray 28) := ⟨_, rfl⟩
  rw [← hW0] at HG
  obtain ⟨D, hD⟩ : ∃ D, D = (eaS 12 n k bs zs a cap).toArray := ⟨_, rfl⟩
  obtain ⟨cd, hcd⟩ : ∃ cd, cd = eaC 12 n k bs zs := ⟨_, rfl⟩
  have hDs : (Tryd.prog.info? 56).map (·.size) = some D.size ∧ (scl 0 0 zbl none 0 0).toArray.size = D.size ∧ D.all (·.oneCell') = true := by
    rw [hD]; unfold eaS
    split
    · exact ⟨size_s56 hb _ _ _, by simp [scl_len zbl_bys, scl_len hb], scl_one⟩
    · exact ⟨size_s56 zbl_bys _ _ _, rfl, scl_one⟩
  have HD := hidd hDs
  rw [← hD, ← hcd] at HEN
  have HJ := hidd (fun (W1 : World) (hb1 : Below W0.heap.size W0 W1) =>
    (show Blk (W1.alloc (.cells (scl 0 0 zbl none 0 0).toArray 56)) W1.heap.size (scl 0 0 zbl none 0 0).toArray 56 ∧
        Blk ((W1.alloc (.cells (scl 0 0 zbl none 0 0).toArray 56)).setRow W1.heap.size D) W1.heap.size D 56 ∧
        Blk ((W1.alloc (.cells (scl 0 0 zbl none 0 0).toArray 56)).setRow W1.heap.size D) w.heap.size (ccells n k bs).toArray 28 ∧
        Below w.heap.size w ((W1.alloc (.cells (scl 0 0 zbl none 0 0).toArray 56)).setRow W1.heap.size D) from by
      have k1 := HG.out.1.below hb1 HG.out.1.lt
      have hlt := k1.lt
      have k3 := HG.out.2.trans (hb1.mono HG.out.2.size)
      have k4 : Blk (W1.alloc (.cells (scl 0 0 zbl none 0 0).toArray 56)) W1.heap.size (scl 0 0 zbl none 0 0).toArray 56 := Blk.new _ _ _ _ rfl
      exact ⟨k4, k4.rowSame _, (k1.alloc _).rowOther _ _ (by omega), below_setRow (k3.alloc (by omega) _) (by omega) _⟩))
  clear hDs hs hE
  by_cases h0 : cd = 0
  · have hcd0 : eaC 12 n k bs zs = 0 := hcd.symm.trans h0
    obtain ⟨hsz, hav, hn12⟩ := eaC_ok hcd0
    obtain ⟨hi, ho⟩ := szCode_ok hsz
    obtain ⟨n1, n2, k1, k2⟩ := isCol_bd hi
    obtain ⟨hlk, hsp⟩ := szOk_bd ho
    obtain ⟨N, rfl⟩ := Int.eq_ofNat_of_zero_le (show 0 ≤ n by omega)
    obtain ⟨K, rfl⟩ := Int.eq_ofNat_of_zero_le (show 0 ≤ k by omega)
    have hlK : zs.length = K := by omega
    rw [hlK] at hsp
    have hv : edL (N : Int) (K : Int) bs zs = cdL bs N K zs := by unfold edL; rw [if_pos hcd0]; rfl
    have hDe : D = (scl (N : Int) (K : Int) bs a K cap).toArray := by rw [hD]; unfold eaS; rw [if_pos hcd0, hlK]
    have HCN := hidd (fun W h => cbd57 N K bs hb zs a cap hlK (by omega) (by omega) (by omega) (by omega) (no1_of_av (by omega) hsp hav) hsp W h)
    rw [← hDe] at HCN
    rw [hv, ← hcd]
    rw [hlK] at HEN
    rw [hlK]
    obtain ⟨V, hV⟩ : ∃ V, V = cdL bs N K zs := ⟨_, rfl⟩
    have HVL := hidd (show V.length = N + 1 by rw [hV]; unfold cdL; exact dgL_len _ _)
    rw [← hV] at HCN ⊢
    clear hv hD hcd hsz hav hi ho hlk hsp hcd0 hl hDe hV
    subst h0
    go_enter Tryd.func30, Tryd.ntmps30
    go_upto_region 1 with fail
    rw [← hW0]
    clear hW0
    go_wp2_with (refine wpList_load_row rfl 28 (.tmp 2) rfl w.heap.size rfl 28 _ (0,0) _ HG.out.1 Tryd.underlying28 rfl HS.out ?_)
    refine (HEN.out _ (HSL.out.below HG.out.2 (Nat.le_refl _)) (HE.out.below HG.out.2 HE.out.lt)).mono ?_
    rintro e w1 ⟨rfl, hb1⟩
    have J := hidd (HJ.out w1 hb1)
    clear hb1
    obtain ⟨W4, hW4⟩ : ∃ W4, W4 = (w1.alloc (.cells (scl 0 0 zbl none 0 0).toArray 56)).setRow w1.heap.size D := ⟨_, rfl⟩
    have J3 := hidd J.out.2
    rw [← hW4] at J3
    go_upto_region 2 with (refine wpList_store_row rfl 56 (.tmp 6) (.tmp 12) rfl w1.heap.size _ rfl rfl 56 _ (Blk.new _ _ _ _ rfl) HD.out.1 HD.out.2.1 HD.out.2.2 ?_)
    rw [← hW4]
    clear hW4
    go_wp2_with (refine wpList_load_row rfl 56 (.tmp 6) rfl w1.heap.size rfl 56 _ (0,0) _ J3.out.1 Tryd.underlying56 rfl HD.out.1 ?_)
    refine (HCN.out _ (HSL.out.below J3.out.2.2 (Nat.le_refl _))).mono ?_
    rintro e w5 ⟨g, rfl, hg, kg, hb5⟩
    have J5 := hidd (And.intro (J3.out.2.2.trans (hb5.mono J3.out.2.2.size)) (own_of_blk kg (Nat.le_trans J3.out.2.2.size hg)))
    clear hb5 kg hg
    go_wp2_with fail
    go_ret2
    exact ⟨_, _, by rw [HVL.out]; rfl, J5.out.2, J5.out.1⟩
  · have hne : (cd != 0) = true := by rw [bne_iff_ne]; exact h0
    rw [edL_bad (by rw [← hcd]; exact h0), ← hcd]
    clear hD hcd
    go_enter Tryd.func30, Tryd.ntmps30
    go_upto_region 1 with fail
    rw [← hW0]
    clear hW0
    go_wp2_with (refine wpList_load_row rfl 28 (.tmp 2) rfl w.heap.size rfl 28 _ (0,0) _ HG.out.1 Tryd.underlying28 rfl HS.out ?_)
    refine (HEN.out _ (HSL.out.below HG.out.2 (Nat.le_refl _)) (HE.out.below HG.out.2 HE.out.lt)).mono ?_
    rintro e w1 ⟨rfl, hb1⟩
    have J := hidd (HJ.out w1 hb1)
    clear hb1
    go_wp2_with (refine wpList_store_row rfl 56 (.tmp 6) (.tmp 12) rfl w1.heap.size _ rfl rfl 56 _ (Blk.new _ _ _ _ rfl) HD.out.1 HD.out.2.1 HD.out.2.2 ?_)
    go_ret2
    exact lout_nil rfl J.out.2.2.2
set_option maxRecDepth 100000 in
set_option maxHeartbeats 4000000 in
theorem spec29 (n k : Int) (bs : List Nat) (hb : Bys bs) (zs : List Int) (a : Option Addr) (cap : Nat) (w : World) (hs : SlI w a zs) (hl : zs.length ≤ 1048576) :
    Calls Tryd.prog 29 #[.agg (ccells n k bs).toArray, .slice a zs.length cap] w fun e w' => LOut w (edL n k bs zs) (eaC 12 n k bs zs) e w' := by
  have HS := hidd (size_c26 n k hb)
  have HSL := hidd hs
  have HCO := hidd (fun W h => small51 n k bs hb zs a cap W h hl)
  have HG := hidd (And.intro (Blk.new w (ccells n k bs).toArray 28 _ rfl) ((Below.refl w.heap.size w).alloc (Nat.le_refl _) (.cells (ccells n k bs).toArray 28)))
  obtain ⟨W0, hW0⟩ : ∃ W0, W0 = w.alloc (.cells (ccells n k bs).toArray 28) := ⟨_, rfl⟩
  rw [← hW0] at HG
  by_cases h0 : eaC 12 n k bs zs = 0
  · obtain ⟨hsz, hav, hn12⟩ := eaC_ok h0
    obtain ⟨hi, ho⟩ := szCode_ok hsz
    obtain ⟨n1, n2, k1, k2⟩ := isCol_bd hi
    obtain ⟨hlk, hsp⟩ := szOk_bd ho
    obtain ⟨N, rfl⟩ := Int.eq_ofNat_of_zero_le (show 0 ≤ n by omega)
    obtain ⟨K, rfl⟩ := Int.eq_ofNat_of_zero_le (show 0 ≤ k by omega)
    have hlK : zs.length = K := by omega
    rw [hlK] at hsp
    have hv : edL (N : Int) (K : Int) bs zs = cdL bs N K zs := by unfold edL; rw [if_pos h0]; rfl
    have HCN := hidd (fun W h => deg52 N K bs hb zs a cap hlK (by omega) (by omega) (by omega) (by omega) (no1_of_av (by omega) hsp hav) hsp W h)
    rw [hv, h0]
    rw [h0, hlK] at HCO
    rw [hlK]
    obtain ⟨V, hV⟩ : ∃ V, V = cdL bs N K zs := ⟨_, rfl⟩
    have HVL := hidd (show V.length = N + 1 by rw [hV]; unfold cdL; exact dgL_len _ _)
    rw [← hV] at HCN ⊢
    clear hv hsz hav hi ho hlk hsp h0 hl hs hV
    go_enter Tryd.func29, Tryd.ntmps29
    go_upto_region 1 with fail
    rw [← hW0]
    clear hW0
    go_wp2_with (refine wpList_load_row rfl 28 (.tmp 2) rfl w.heap.size rfl 28 _ (0,0) _ HG.out.1 Tryd.underlying28 rfl HS.out ?_)
    refine (HCO.out _ (HSL.out.below HG.out.2 (Nat.le_refl _))).mono ?_
    rintro e w1 ⟨rfl, hb1⟩
    have G1 := hidd (And.intro (HG.out.1.below hb1 HG.out.1.lt) (HG.out.2.trans (hb1.mono HG.out.2.size)))
    clear hb1
    go_wp2_with (refine wpList_load_row rfl 28 (.tmp 2) rfl w.heap.size rfl 28 _ (0,0) _ G1.out.1 Tryd.underlying28 rfl HS.out ?_)
    refine (HCN.out _ (HSL.out.below G1.out.2 (Nat.le_refl _))).mono ?_
    rintro r w2 ⟨g, rfl, hg, kg, hb2⟩
    have G2 := hidd (And.intro (own_of_blk kg (Nat.le_trans G1.out.2.size hg)) (G1.out.2.trans (hb2.mono G1.out.2.size)))
    clear hb2 kg hg
    go_wp2_with fail
    go_ret2
    exact ⟨_, _, by rw [HVL.out]; rfl, G2.out.1, G2.out.2⟩
  · rw [edL_bad h0]
    obtain ⟨cd, hcd⟩ : ∃ cd, cd = eaC 12 n k bs zs := ⟨_, rfl⟩
    rw [← hcd] at HCO h0 ⊢
    have hz : (cd != 0) = true := by rw [bne_iff_ne]; exact h0
    clear hs hcd hl h0
    go_enter Tryd.func29, Tryd.ntmps29
    go_upto_region 1 with fail
    rw [← hW0]
    clear hW0
    go_wp2_with (refine wpList_load_row rfl 28 (.tmp 2) rfl w.heap.size rfl 28 _ (0,0) _ HG.out.1 Tryd.underlying28 rfl HS.out ?_)
    refine (HCO.out _ (HSL.out.below HG.out.2 (Nat.le_refl _))).mono ?_
    rintro e w1 ⟨rfl, hb1⟩
    have G := hidd (HG.out.2.trans (hb1.mono HG.out.2.size))
    clear hb1
    go_wp2_with fail
    go_ret2
    exact lout_nil rfl G.out
end Go.Proofs.YtckffliiidgilaaDoor
