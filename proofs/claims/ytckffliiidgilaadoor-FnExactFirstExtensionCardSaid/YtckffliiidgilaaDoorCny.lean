/- l05Given, l05Small and the model of CountExtensions. -/
import Derived.Test.YtckffliiidgilaaDoorCnx
import Derived.Test.YtckffliiidgilaaDoorDgs
import Derived.Test.YtckffliiidgilaaDoorIex
namespace Go.Proofs.YtckffliiidgilaaDoor
set_option linter.unusedVariables false
set_option linter.unusedSimpArgs false
open Go Go.RowKit Go.Shelf
set_option maxRecDepth 100000 in
set_option maxHeartbeats 4000000 in
theorem given67 (n k : Int) (bs : List Nat) (hb : Bys bs) (zs : List Int) (a : Option Addr) (cap : Nat) (w : World) (hs : SlI w a zs) (hl : zs.length ≤ 1048576) :
    Calls Tryd.prog 67 #[.agg (ccells n k bs).toArray, .slice a zs.length cap] w fun e w' => e = .returned (.int .i64 (eaC 17 n k bs zs)) ∧ Below w.heap.size w w' := by
  have HS := hidd (size_c26 n k hb)
  have HSL := hidd hs
  have HCO := hidd (fun W h => code42 n k bs hb zs a cap W h hl)
  have HG := hidd (And.intro (Blk.new w (ccells n k bs).toArray 28 _ rfl) ((Below.refl w.heap.size w).alloc (Nat.le_refl _) (.cells (ccells n k bs).toArray 28)))
  obtain ⟨W0, hW0⟩ : ∃ W0, W0 = w.alloc (.cells (ccells n k bs).toArray 28) := ⟨_, rfl⟩
  rw [← hW0] at HG
  by_cases hc0 : szCode n k bs zs = 0
  · obtain ⟨hi, ho⟩ := szCode_ok hc0
    obtain ⟨n1, n2, k1, k2⟩ := isCol_bd hi
    obtain ⟨hlk, hsp⟩ := szOk_bd ho
    obtain ⟨N, rfl⟩ := Int.eq_ofNat_of_zero_le (show 0 ≤ n by omega)
    obtain ⟨K, rfl⟩ := Int.eq_ofNat_of_zero_le (show 0 ≤ k by omega)
    have hlK : zs.length = K := by omega
    have HAV := hidd (fun W h => avoids44 N K bs hb zs a cap W h hlK (by omega) (by omega) (by omega) (by rw [← hlK]; exact hsp))
    rw [hc0] at HCO
    cases hav : avP N bs zs K with
    | false =>
      have hea : eaC 17 (N : Int) (K : Int) bs zs = 5 := eaC_5 hc0 hav
      rw [hea]
      have HV := hidd hav
      rw [hlK] at HCO ⊢
      clear hs hc0 hi ho hlk hsp hea hav hlK hl
      go_enter Tryd.func67, Tryd.ntmps67
      go_upto_region 1 with fail
      rw [← hW0]
      clear hW0
      go_wp2_with (refine wpList_load_row rfl 28 (.tmp 2) rfl w.heap.size rfl 28 _ (0,0) _ HG.out.1 Tryd.underlying28 rfl HS.out ?_)
      refine (HCO.out _ (HSL.out.below HG.out.2 (Nat.le_refl _))).mono ?_
      rintro e w1 ⟨rfl, hb1⟩
      have g1 := HG.out.1.below hb1 HG.out.1.lt
      have G := hidd (And.intro (HG.out.2.trans (hb1.mono HG.out.2.size)) g1)
      clear hb1 g1
      go_wp2_with (first
        | (refine wpList_load_if rfl 28 (.tmp 2) rfl w.heap.size rfl 28 _ _ G.out.2 Tryd.underlying28 rfl HS.out ?_)
        | (go_at_call 44; refine (HAV.out _ (HSL.out.below G.out.1 (Nat.le_refl _))).mono ?_; rintro e w2 ⟨rfl, hb2⟩; rw [HV.out]))
      go_ret
      exact ⟨rfl, G.out.1.trans (hb2.mono G.out.1.size)⟩
    | true =>
      have hea : eaC 17 (N : Int) (K : Int) bs zs = 0 := eaC_0 hc0 hav (by omega)
      rw [hea]
      have HV := hidd hav
      rw [hlK] at HCO ⊢
      clear hs hc0 hi ho hlk hsp hea hav hlK hl
      go_enter Tryd.func67, Tryd.ntmps67
      go_upto_region 1 with fail
      rw [← hW0]
      clear hW0
      go_wp2_with (refine wpList_load_row rfl 28 (.tmp 2) rfl w.heap.size rfl 28 _ (0,0) _ HG.out.1 Tryd.underlying28 rfl HS.out ?_)
      refine (HCO.out _ (HSL.out.below HG.out.2 (Nat.le_refl _))).mono ?_
      rintro e w1 ⟨rfl, hb1⟩
      have g1 := HG.out.1.below hb1 HG.out.1.lt
      have G := hidd (And.intro (HG.out.2.trans (hb1.mono HG.out.2.size)) g1)
      clear hb1 g1
      go_wp2_with (first
        | (refine wpList_load_if rfl 28 (.tmp 2) rfl w.heap.size rfl 28 _ _ G.out.2 Tryd.underlying28 rfl HS.out ?_)
        | (go_at_call 44; refine (HAV.out _ (HSL.out.below G.out.1 (Nat.le_refl _))).mono ?_; rintro e w2 ⟨rfl, hb2⟩; rw [HV.out]))
      go_ret
      exact ⟨rfl, G.out.1.trans (hb2.mono G.out.1.size)⟩
  · have hea := eaC_bad (lim := 17) hc0
    rw [hea]
    obtain ⟨cd, hcd⟩ : ∃ cd, cd = szCode n k bs zs := ⟨_, rfl⟩
    rw [← hcd] at HCO hc0 ⊢
    have hz : (cd == 0) = false := by rw [beq_eq_false_iff_ne]; exact hc0
    clear hs hea hcd hc0
    go_enter Tryd.func67, Tryd.ntmps67
    go_upto_region 1 with fail
    rw [← hW0]
    clear hW0
    go_wp2_with (refine wpList_load_row rfl 28 (.tmp 2) rfl w.heap.size rfl 28 _ (0,0) _ HG.out.1 Tryd.underlying28 rfl HS.out ?_)
    refine (HCO.out _ (HSL.out.below HG.out.2 (Nat.le_refl _))).mono ?_
    rintro e w1 ⟨rfl, hb1⟩
    have G := hidd (HG.out.2.trans (hb1.mono HG.out.2.size))
    clear hb1
    go_wp2_with fail
    go_ret
    exact ⟨rfl, G.out⟩
theorem eaC_17 {n k : Int} {bs : List Nat} {zs : List Int} : eaC 12 n k bs zs = if eaC 17 n k bs zs = 0 then (if (12 : Int) < n then 3 else 0) else eaC 17 n k bs zs := by
  by_cases h : szCode n k bs zs = 0
  · obtain ⟨hi, ho⟩ := szCode_ok h
    obtain ⟨n1, n2, k1, k2⟩ := isCol_bd hi
    cases hav : avP n.toNat bs zs k.toNat with
    | false => rw [eaC_5 h hav, eaC_5 h hav]; rfl
    | true =>
      rw [eaC_0 (lim := 17) h hav (by omega), if_pos rfl]
      by_cases h3 : (12 : Int) < n
      · rw [eaC_3 h hav h3, if_pos h3]
      · rw [eaC_0 h hav h3, if_neg h3]
  · rw [eaC_bad h, eaC_bad h, if_neg h]
set_option maxRecDepth 100000 in
set_option maxHeartbeats 4000000 in
theorem small51 (n k : Int) (bs : List Nat) (hb : Bys bs) (zs : List Int) (a : Option Addr) (cap : Nat) (w : World) (hs : SlI w a zs) (hl : zs.length ≤ 1048576) :
    Calls Tryd.prog 51 #[.agg (ccells n k bs).toArray, .slice a zs.length cap] w fun e w' => e = .returned (.int .i64 (eaC 12 n k bs zs)) ∧ Below w.heap.size w w' := by
  have HS := hidd (size_c26 n k hb)
  have HSL := hidd hs
  have HC0 := hidd (show (ccells n k bs).toArray[0]? = some (.int .i64 n) from rfl)
  have HCO := hidd (fun W h => given67 n k bs hb zs a cap W h hl)
  have HG := hidd (And.intro (Blk.new w (ccells n k bs).toArray 28 _ rfl) ((Below.refl w.heap.size w).alloc (Nat.le_refl _) (.cells (ccells n k bs).toArray 28)))
  obtain ⟨W0, hW0⟩ : ∃ W0, W0 = w.alloc (.cells (ccells n k bs).toArray 28) := ⟨_, rfl⟩
  rw [← hW0] at HG
  rw [eaC_17]
  obtain ⟨cd, hcd⟩ : ∃ cd, cd = eaC 17 n k bs zs := ⟨_, rfl⟩
  rw [← hcd] at HCO ⊢
  by_cases h0 : cd = 0
  · rw [if_pos h0]
    by_cases h12 : (12 : Int) < n
    · rw [if_pos h12]
      have hgt : decide (n > 12) = true := decide_eq_true h12
      have hgt2 : decide (12 < n) = true := decide_eq_true h12
      subst h0
      clear hs hcd hl
      go_enter Tryd.func51, Tryd.ntmps51
      go_upto_region 1 with fail
      rw [← hW0]
      clear hW0
      go_wp2_with (refine wpList_load_row rfl 28 (.tmp 2) rfl w.heap.size rfl 28 _ (0,0) _ HG.out.1 Tryd.underlying28 rfl HS.out ?_)
      refine (HCO.out _ (HSL.out.below HG.out.2 (Nat.le_refl _))).mono ?_
      rintro e w1 ⟨rfl, hb1⟩
      have c0 := (HG.out.1.below hb1 HG.out.1.lt).cell HC0.out
      have G := hidd (HG.out.2.trans (hb1.mono HG.out.2.size))
      clear hb1
      go_wp2_with fail
      go_ret
      exact ⟨rfl, G.out⟩
    · rw [if_neg h12]
      have hgt : decide (n > 12) = false := decide_eq_false h12
      have hgt2 : decide (12 < n) = false := decide_eq_false h12
      subst h0
      clear hs hcd hl
      go_enter Tryd.func51, Tryd.ntmps51
      go_upto_region 1 with fail
      rw [← hW0]
      clear hW0
      go_wp2_with (refine wpList_load_row rfl 28 (.tmp 2) rfl w.heap.size rfl 28 _ (0,0) _ HG.out.1 Tryd.underlying28 rfl HS.out ?_)
      refine (HCO.out _ (HSL.out.below HG.out.2 (Nat.le_refl _))).mono ?_
      rintro e w1 ⟨rfl, hb1⟩
      have c0 := (HG.out.1.below hb1 HG.out.1.lt).cell HC0.out
      have G := hidd (HG.out.2.trans (hb1.mono HG.out.2.size))
      clear hb1
      go_wp2_with fail
      go_ret
      exact ⟨rfl, G.out⟩
  · rw [if_neg h0]
    have hz : (cd == 0) = false := by rw [beq_eq_false_iff_ne]; exact h0
    clear hs hcd hl
    go_enter Tryd.func51, Tryd.ntmps51
    go_upto_region 1 with fail
    rw [← hW0]
    clear hW0
    go_wp2_with (refine wpList_load_row rfl 28 (.tmp 2) rfl w.heap.size rfl 28 _ (0,0) _ HG.out.1 Tryd.underlying28 rfl HS.out ?_)
    refine (HCO.out _ (HSL.out.below HG.out.2 (Nat.le_refl _))).mono ?_
    rintro e w1 ⟨rfl, hb1⟩
    have G := hidd (HG.out.2.trans (hb1.mono HG.out.2.size))
    clear hb1
    go_wp2_with fail
    go_ret
    exact ⟨rfl, G.out⟩
set_option maxRecDepth 100000 in
set_option maxHeartbeats 4000000 in
theorem spec18 (n k : Int) (bs : List Nat) (hb : Bys bs) (zs : List Int) (a : Option Addr) (cap : Nat) (w : World) (hs : SlI w a zs) (hl : zs.length ≤ 1048576) :
    Calls Tryd.prog 18 #[.agg (ccells n k bs).toArray, .slice a zs.length cap] w fun e w' => e = .returned (.tuple #[.int .i64 (ceV n k bs zs), .int .i64 (eaC 12 n k bs zs)]) ∧ Below w.heap.size w w' := by
  have HS := hidd (size_c26 n k hb)
  have HSL := hidd hs
  have HCO := hidd (fun W h => small51 n k bs hb zs a cap W h hl)
  have HG := hidd (And.intro (Blk.new w (ccells n k bs).toArray 28 _ rfl) ((Below.refl w.heap.size w).alloc (Nat.le_refl _) (.cells (ccells n k bs).toArray 28)))
  obtain ⟨W0, hW0⟩ : ∃ W0, W0 = w.alloc (.cells (ccells n k bs).toArray 28) := ⟨_, rfl⟩
  rw [← hW0] at HG
  by_cases h0 : eaC 12 n k bs zs = 0
  · obtain ⟨hsz, hav, hn12⟩ := eaC_ok h0
    obtain ⟨hi, ho⟩ := szCode_ok hsz
    obtain ⟨n1, n2, k1, k2⟩ := isCol_bd hi
    obtain ⟨hlk, hsp⟩ := szOk_bd ho
    obtain ⟨N, rfl⟩ := Int.eq_ofNat_of_zero_le (show 0 ≤ n by omega)
    obtain ⟨K, rfl⟩ := Int.eq_ofNat_of_zero_le (show 0 ≤ k by omega)
    have hlK : zs.length = K := by omega
    rw [hlK] at hsp
    have hv : ceV (N : Int) (K : Int) bs zs = (cnS bs N K zs (N + 1) : Int) := by unfold ceV; rw [if_pos h0]; rfl
    have HCN := hidd (fun W h => deg52 N K bs hb zs a cap hlK (by omega) (by omega) (by omega) (by omega) (no1_of_av (by omega) hsp hav) hsp W h)
    rw [hv, h0]
    rw [h0, hlK] at HCO
    rw [hlK]
    obtain ⟨D, hD⟩ : ∃ D, D = N + 1 := ⟨_, rfl⟩
    have hD13 : D ≤ 13 := by omega
    obtain ⟨c, hc⟩ : ∃ c : Nat → Nat, c = fun d => pdN bs N K zs d (2 ^ N) := ⟨_, rfl⟩
    obtain ⟨s, hse⟩ : ∃ s : Nat → Nat, s = cnS bs N K zs := ⟨_, rfl⟩
    have HST := hidd (fun j => (show s (j + 1) = s j + c j by rw [hse, hc]; exact cnS_step _ _ _ _ _))
    have HBD := hidd (fun j (hj : j ≤ 13) => (show s j ≤ 3659174697238528 by rw [hse]; exact cnS_bd (by omega) (by omega) (by omega) hj))
    have HS0 := hidd (show s 0 = 0 by rw [hse]; rfl)
    rw [show cdL bs N K zs = dgL (N + 1) c by rw [hc]; rfl, ← hD] at HCN
    rw [← hse, ← hD]
    clear hv hsz hav hi ho hlk hsp h0 hl hs hc hse hD
    go_enter Tryd.func18, Tryd.ntmps18
    go_upto_region 1 with fail
    rw [← hW0]
    clear hW0
    go_wp2_with (refine wpList_load_row rfl 28 (.tmp 2) rfl w.heap.size rfl 28 _ (0,0) _ HG.out.1 Tryd.underlying28 rfl HS.out ?_)
    refine (HCO.out _ (HSL.out.below HG.out.2 (Nat.le_refl _))).mono ?_
    rintro e w1 ⟨rfl, hb1⟩
    have G1 := hidd (And.intro (HG.out.1.below hb1 HG.out.1.lt) (HG.out.2.trans (hb1.mono HG.out.2.size)))
    clear hb1
    go_wp2_with (refine wpList_load_row rfl 28 (.tmp 2) rfl w.heap.size rfl 28 _ (0,0) _ G1.out.1 Tryd.underlying28 rfl HS.out ?_)
    refine (HCN.out _ (HSL.out.below G1.out.2 (Nat.le_refl _))).mono ?_
    rintro r w2 ⟨g, rfl, hg, kg, hb2⟩
    have G2 := hidd (And.intro kg (G1.out.2.trans (hb2.mono G1.out.2.size)))
    clear hb2 kg
    go_wp2_with fail
    go_loopw [8, 9] (fun v e wr => ∃ j : Nat, j ≤ D ∧ v = .int .i64 (s j : Int) ∧ e = .int .i64 (j : Int) ∧ w2 = wr) (fun _ e _ => D - (intOf e).toNat)
    case atStart => exact ⟨0, Nat.zero_le _, by rw [HS0.out]; rfl, rfl, rfl⟩
    case round =>
    obtain ⟨j, hj, rfl, rfl, hww⟩ := hrel
    obtain rfl : w2 = wr := hww
    by_cases hlt : j < D
    · have hltI : decide ((j : Int) < (D : Int)) = true := by simp; omega
      have cj := dg_cell G2.out.1 hlt
      have h1 := HBD.out j (by omega)
      have h2 := HBD.out (j + 1) (by omega)
      have h3 := HST.out j
      obtain ⟨x, hx⟩ : ∃ x, x = c j := ⟨_, rfl⟩
      obtain ⟨y, hy⟩ : ∃ y, y = s j := ⟨_, rfl⟩
      rw [← hx, ← hy] at h3
      rw [← hx] at cj
      rw [← hy] at h1 ⊢
      have hsum : IntKind.i64.wrap ((y : Int) + (x : Int)) = (y : Int) + (x : Int) := IntWalk.i64_in _ (by omega)
      have hsum2 : wrap64 ((y : Int) + (x : Int)) = (y : Int) + (x : Int) := IntWalk.wrap64_in _ ⟨by omega, by omega⟩
      have H3 := hidd h3
      clear hx hy h3 h1 h2
      go_wp2_with fail
      go_roundw
      case rel => exact ⟨j + 1, by omega, by rw [H3.out]; go_num, by go_num, trivial⟩
      case measure => simp [intOf]; omega
    · have hltI : decide ((j : Int) < (D : Int)) = false := by simp; omega
      have hje : j = D := by omega
      subst hje
      go_wp2_with fail
      go_ret2
      exact ⟨rfl, G2.out.2⟩
  · rw [ceV_bad h0]
    obtain ⟨cd, hcd⟩ : ∃ cd, cd = eaC 12 n k bs zs := ⟨_, rfl⟩
    rw [← hcd] at HCO h0 ⊢
    have hz : (cd != 0) = true := by rw [bne_iff_ne]; exact h0
    clear hs hcd hl h0
    go_enter Tryd.func18, Tryd.ntmps18
    go_upto_region 1 with fail
    rw [← hW0]
    clear hW0
    go_wp2_with (refine wpList_load_row rfl 28 (.tmp 2) rfl w.heap.size rfl 28 _ (0,0) _ HG.out.1 Tryd.underlying28 rfl HS.out ?_)
    refine (HCO.out _ (HSL.out.below HG.out.2 (Nat.le_refl _))).mono ?_
    rintro e w1 ⟨rfl, hb1⟩
    have G := hidd (HG.out.2.trans (hb1.mono HG.out.2.size))
    clear hb1
    go_wp2_with fail
    go_ret2
    exact ⟨rfl, G.out⟩
end Go.Proofs.YtckffliiidgilaaDoor
