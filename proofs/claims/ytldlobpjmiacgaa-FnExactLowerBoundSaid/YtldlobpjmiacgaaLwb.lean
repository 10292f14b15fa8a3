/- LowerBound: its model and the program. -/
import Derived.Test.YtldlobpjmiacgaaAvSp
import Derived.Test.YtldlobpjmiacgaaAv15
namespace Go.Proofs.Ytldlobpjmiacgaa
set_option linter.unusedVariables false
set_option linter.unusedSimpArgs false
open Go Go.RowKit Go.Shelf
/-- What LowerBound answers. -/
def lbC (n k : Int) (bs : List Nat) (zs : List Int) : Int := if szCode n k bs zs = 0 then (if avB n k bs zs = true then 0 else 5) else szCode n k bs zs
def lbV (n k : Int) (bs : List Nat) (zs : List Int) : Int := if szCode n k bs zs = 0 then (if avB n k bs zs = true then n + 1 else 0) else 0
theorem lb_bad {n k : Int} {bs : List Nat} {zs : List Int} (h : szCode n k bs zs ≠ 0) : lbC n k bs zs = szCode n k bs zs ∧ lbV n k bs zs = 0 := by simp [lbC, lbV, h]
theorem lb_no {n k : Int} {bs : List Nat} {zs : List Int} (h : szCode n k bs zs = 0) (h2 : avB n k bs zs = false) : lbC n k bs zs = 5 ∧ lbV n k bs zs = 0 := by simp [lbC, lbV, h, h2]
theorem lb_yes {n k : Int} {bs : List Nat} {zs : List Int} (h : szCode n k bs zs = 0) (h2 : avB n k bs zs = true) : lbC n k bs zs = 0 ∧ lbV n k bs zs = n + 1 := by simp [lbC, lbV, h, h2]
set_option maxRecDepth 100000 in
set_option maxHeartbeats 2000000 in
theorem spec4 (n k : Int) (bs : List Nat) (hb : Bys bs) (zs : List Int) (a : Option Addr) (cap : Nat) (w : World) (hs : SlI w a zs) (hl : zs.length ≤ 1048576) :
    Calls Try.prog 4 #[.agg (ccells n k bs).toArray, .slice a zs.length cap] w fun e w' => e = .returned (.tuple #[.int .i64 (lbV n k bs zs), .int .i64 (lbC n k bs zs)]) ∧ Below w.heap.size w w' := by
  have HS := hidd (size_c26 n k hb)
  have HSC := hidd (fun W h => sizes28 n k bs hb zs a cap W h hl)
  have HSL := hidd hs
  have HBA := hidd ((Below.refl w.heap.size w).alloc (Nat.le_refl _) (.cells (ccells n k bs).toArray 28))
  by_cases hc0 : szCode n k bs zs = 0
  · have hi : isCol n k bs = true := by
      cases h : isCol n k bs with
      | true => rfl
      | false => rw [szCode_1 h] at hc0; omega
    have ho : szOk k zs = true := by
      cases h : szOk k zs with
      | true => rfl
      | false => rw [szCode_2 hi h] at hc0; omega
    obtain ⟨n1, n2, k1, k2⟩ := isCol_bd hi
    unfold szOk at ho
    rw [Bool.and_eq_true] at ho
    have hlk := of_decide_eq_true ho.1
    obtain ⟨N, rfl⟩ := Int.eq_ofNat_of_zero_le (show 0 ≤ n by omega)
    obtain ⟨K, rfl⟩ := Int.eq_ofNat_of_zero_le (show 0 ≤ k by omega)
    have hlK : zs.length = K := by omega
    have hav : avB (N : Int) (K : Int) bs zs = avP N bs zs K := by unfold avB; rw [hc0]; simp
    have HAV := hidd (fun W h => avoids29 N K bs hb zs a cap W h hlK (by omega) (by omega) (by omega) (by rw [← hlK]; exact ho.2))
    have HNO := hidd (fun h => lb_no (n := (N : Int)) (k := (K : Int)) (bs := bs) (zs := zs) hc0 (hav.trans h))
    have HYE := hidd (fun h => lb_yes (n := (N : Int)) (k := (K : Int)) (bs := bs) (zs := zs) hc0 (hav.trans h))
    rw [hc0] at HSC
    rw [hlK] at HSC ⊢
    have hN17 : (N : Int) ≤ 17 := n2
    cases hq : avP N bs zs K with
    | false =>
      have HQ := hidd hq
      have HV := hidd (HNO.out hq)
      clear hi hc0 ho hlk hav hs hlK hl hq
      go_enter Try.func4, Try.ntmps4
      go_wp2_with (refine wpList_load_row rfl 28 (.tmp 2) rfl w.heap.size rfl 28 _ (0,0) _ (Blk.new _ _ _ _ rfl) Try.underlying28 rfl HS.out ?_)
      refine (HSC.out _ (HSL.out.below HBA.out (Nat.le_refl _))).mono ?_
      rintro e w1 ⟨rfl, hb1⟩
      have G := hidd (And.intro ((Blk.new w (ccells (N : Int) (K : Int) bs).toArray 28 _ rfl).below hb1 (by simp)) (HBA.out.trans (hb1.mono (by simp))))
      clear hb1
      go_wp2_with (refine wpList_load_row rfl 28 (.tmp 2) rfl w.heap.size rfl 28 _ (0,0) _ G.out.1 Try.underlying28 rfl HS.out ?_)
      refine (HAV.out _ (HSL.out.below G.out.2 (Nat.le_refl _))).mono ?_
      rintro e w2 ⟨rfl, hb2⟩
      rw [HQ.out]
      have R := hidd (G.out.2.trans (hb2.mono G.out.2.size))
      clear hb2
      go_wp2_with fail
      go_ret2
      exact ⟨by rw [HV.out.1, HV.out.2]; rfl, R.out⟩
    | true =>
      have HQ := hidd hq
      have HV := hidd (HYE.out hq)
      clear hi hc0 ho hlk hav hs hlK hl hq
      go_enter Try.func4, Try.ntmps4
      go_wp2_with (refine wpList_load_row rfl 28 (.tmp 2) rfl w.heap.size rfl 28 _ (0,0) _ (Blk.new _ _ _ _ rfl) Try.underlying28 rfl HS.out ?_)
      refine (HSC.out _ (HSL.out.below HBA.out (Nat.le_refl _))).mono ?_
      rintro e w1 ⟨rfl, hb1⟩
      have G := hidd (And.intro ((Blk.new w (ccells (N : Int) (K : Int) bs).toArray 28 _ rfl).below hb1 (by simp)) (HBA.out.trans (hb1.mono (by simp))))
      clear hb1
      go_wp2_with (refine wpList_load_row rfl 28 (.tmp 2) rfl w.heap.size rfl 28 _ (0,0) _ G.out.1 Try.underlying28 rfl HS.out ?_)
      refine (HAV.out _ (HSL.out.below G.out.2 (Nat.le_refl _))).mono ?_
      rintro e w2 ⟨rfl, hb2⟩
      rw [HQ.out]
      have c0 := (G.out.1.below hb2 G.out.1.lt).cell (j := 0) (show _ = some (Value.int .i64 (N : Int)) from rfl)
      have R := hidd (G.out.2.trans (hb2.mono G.out.2.size))
      clear hb2
      go_wp2_with fail
      go_ret2
      exact ⟨by rw [HV.out.1, HV.out.2]; rfl, R.out⟩
  · have HV := hidd (lb_bad hc0)
    obtain ⟨cd, hcd⟩ : ∃ cd, cd = szCode n k bs zs := ⟨_, rfl⟩
    rw [← hcd] at HSC hc0 HV
    have hz : (cd != 0) = true := by rw [bne_iff_ne]; exact hc0
    clear hcd hs hc0
    go_enter Try.func4, Try.ntmps4
    go_wp2_with (refine wpList_load_row rfl 28 (.tmp 2) rfl w.heap.size rfl 28 _ (0,0) _ (Blk.new _ _ _ _ rfl) Try.underlying28 rfl HS.out ?_)
    refine (HSC.out _ (HSL.out.below HBA.out (Nat.le_refl _))).mono ?_
    rintro e w1 ⟨rfl, hb1⟩
    have R := hidd (HBA.out.trans (hb1.mono (by simp)))
    clear hb1
    go_wp2_with fail
    go_ret2
    exact ⟨by rw [HV.out.1, HV.out.2]; rfl, R.out⟩
set_option maxRecDepth 100000 in
set_option maxHeartbeats 2000000 in
theorem impl7 (n k : Int) (bs : List Nat) (hb : Bys bs) (zs : List Int) (a : Option Addr) (cap : Nat) (w : World) (hs : SlI w a zs) (hl : zs.length ≤ 1048576) (hcap : zs.length ≤ cap) :
    Calls Try.prog 7 #[.agg (ccells n k bs).toArray, .slice a zs.length cap] w fun e w' => e = .returned (.tuple #[.int .i64 (lbV n k bs zs), .int .i64 (lbC n k bs zs)]) ∧ Below w.heap.size w w' := by
  have HS := hidd (size_c26 n k hb)
  have HAV := hidd (fun W h => impl15a n k bs hb zs a cap W h hl hcap)
  have HSL := hidd hs
  have HBA := hidd ((Below.refl w.heap.size w).alloc (Nat.le_refl _) (.cells (ccells n k bs).toArray 28))
  obtain ⟨cd, hcd⟩ : ∃ cd, cd = szCode n k bs zs := ⟨_, rfl⟩
  obtain ⟨av, hav⟩ : ∃ av, av = avB n k bs zs := ⟨_, rfl⟩
  rw [← hcd, ← hav] at HAV
  have HN := hidd (fun (h : szCode n k bs zs = 0) => show n ≤ 17 by
    have hi : isCol n k bs = true := by
      cases h1 : isCol n k bs with
      | true => rfl
      | false => rw [szCode_1 h1] at h; omega
    exact (isCol_bd hi).2.1)
  by_cases hc0 : cd = 0
  · have hc1 : szCode n k bs zs = 0 := hcd.symm.trans hc0
    have hn17 := HN.out hc1
    have hn1 : 1 ≤ n := by
      have hi : isCol n k bs = true := by
        cases h1 : isCol n k bs with
        | true => rfl
        | false => rw [szCode_1 h1] at hc1; omega
      exact (isCol_bd hi).1
    cases av with
    | false =>
      have HV := hidd (lb_no hc1 hav.symm)
      subst hc0
      clear hs hcd hav hc1
      go_enter Try.func7, Try.ntmps7
      go_wp2_with (refine wpList_load_row rfl 28 (.tmp 2) rfl w.heap.size rfl 28 _ (0,0) _ (Blk.new _ _ _ _ rfl) Try.underlying28 rfl HS.out ?_)
      refine (HAV.out _ (HSL.out.below HBA.out (Nat.le_refl _))).mono ?_
      rintro e w1 ⟨rfl, hb1⟩
      have R := hidd (HBA.out.trans (hb1.mono (by simp)))
      clear hb1
      go_wp2_with fail
      go_ret2
      exact ⟨by rw [HV.out.1, HV.out.2]; rfl, R.out⟩
    | true =>
      have HV := hidd (lb_yes hc1 hav.symm)
      subst hc0
      clear hs hcd hav hc1
      go_enter Try.func7, Try.ntmps7
      go_wp2_with (refine wpList_load_row rfl 28 (.tmp 2) rfl w.heap.size rfl 28 _ (0,0) _ (Blk.new _ _ _ _ rfl) Try.underlying28 rfl HS.out ?_)
      refine (HAV.out _ (HSL.out.below HBA.out (Nat.le_refl _))).mono ?_
      rintro e w1 ⟨rfl, hb1⟩
      have c0 := ((Blk.new w (ccells n k bs).toArray 28 _ rfl).below hb1 (by simp)).cell (j := 0) (show _ = some (Value.int .i64 n) from rfl)
      have R := hidd (HBA.out.trans (hb1.mono (by simp)))
      clear hb1
      go_wp2_with fail
      go_ret2
      exact ⟨by rw [HV.out.1, HV.out.2]; rfl, R.out⟩
  · have HV := hidd (lb_bad (n := n) (k := k) (bs := bs) (zs := zs) (by rw [← hcd]; exact hc0))
    rw [← hcd] at HV
    have hz : (cd != 0) = true := by rw [bne_iff_ne]; exact hc0
    clear hs hcd hav hc0
    go_enter Try.func7, Try.ntmps7
    go_wp2_with (refine wpList_load_row rfl 28 (.tmp 2) rfl w.heap.size rfl 28 _ (0,0) _ (Blk.new _ _ _ _ rfl) Try.underlying28 rfl HS.out ?_)
    refine (HAV.out _ (HSL.out.below HBA.out (Nat.le_refl _))).mono ?_
    rintro e w1 ⟨rfl, hb1⟩
    have R := hidd (HBA.out.trans (hb1.mono (by simp)))
    clear hb1
    go_wp2_with fail
    go_ret2
    exact ⟨by rw [HV.out.1, HV.out.2]; rfl, R.out⟩
end Go.Proofs.Ytldlobpjmiacgaa
