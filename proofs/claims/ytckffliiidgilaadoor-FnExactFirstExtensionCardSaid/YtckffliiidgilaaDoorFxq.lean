/- FirstExtension: what it answers; the model. -/
import Derived.Test.YtckffliiidgilaaDoorOut
import Derived.Test.YtckffliiidgilaaDoorExa
import Derived.Test.YtckffliiidgilaaDoorCny
namespace Go.Proofs.YtckffliiidgilaaDoor
set_option linter.unusedVariables false
set_option linter.unusedSimpArgs false
open Go Go.RowKit Go.Shelf
/-- The first of all, if there is one. -/
def fxL (n k : Int) (bs : List Nat) (zs : List Int) : List (List Int) := (exA bs n.toNat k.toNat zs).take 1
def fxV (n k : Int) (bs : List Nat) (zs : List Int) : List Int := if eaC 12 n k bs zs = 0 then (fxL n k bs zs).headD [] else []
def fxC (n k : Int) (bs : List Nat) (zs : List Int) : Int := if eaC 12 n k bs zs = 0 then (if fxL n k bs zs = [] then 4 else 0) else eaC 12 n k bs zs
theorem fx_bad {n k : Int} {bs : List Nat} {zs : List Int} (h : eaC 12 n k bs zs ≠ 0) : fxV n k bs zs = [] ∧ fxC n k bs zs = eaC 12 n k bs zs := by
  unfold fxV fxC; rw [if_neg h, if_neg h]; exact ⟨rfl, rfl⟩
theorem fx_none {n k : Int} {bs : List Nat} {zs : List Int} (h : eaC 12 n k bs zs = 0) (h2 : fxL n k bs zs = []) : fxV n k bs zs = [] ∧ fxC n k bs zs = 4 := by
  unfold fxV fxC; rw [if_pos h, if_pos h, h2]; exact ⟨rfl, rfl⟩
theorem fx_some {n k : Int} {bs : List Nat} {zs x : List Int} {r : List (List Int)} (h : eaC 12 n k bs zs = 0) (h2 : fxL n k bs zs = x :: r) : fxV n k bs zs = x ∧ fxC n k bs zs = 0 := by
  unfold fxV fxC; rw [if_pos h, if_pos h, h2]; exact ⟨rfl, rfl⟩
theorem fxL_mem {n k : Int} {bs : List Nat} {zs x : List Int} {r : List (List Int)} (h2 : fxL n k bs zs = x :: r) : x.length = n.toNat := by
  have : x ∈ exA bs n.toNat k.toNat zs := List.mem_of_mem_take (by show x ∈ fxL n k bs zs; rw [h2]; exact List.mem_cons_self)
  have := exL_len _ _ _ _ this
  simpa using this
theorem fxV_len {n k : Int} {bs : List Nat} {zs : List Int} : (fxV n k bs zs).length ≤ 17 := by
  by_cases h : eaC 12 n k bs zs = 0
  · obtain ⟨hsz, _, h12⟩ := eaC_ok h
    cases h2 : fxL n k bs zs with
    | nil => rw [(fx_none h h2).1]; simp
    | cons x r => rw [(fx_some h h2).1, fxL_mem h2]; omega
  · rw [(fx_bad h).1]; simp
set_option maxRecDepth 100000 in
set_option maxHeartbeats 4000000 in
theorem spec20 (n k : Int) (bs : List Nat) (hb : Bys bs) (zs : List Int) (a : Option Addr) (cap : Nat) (w : World) (hs : SlI w a zs) (hl : zs.length ≤ 1048576) :
    Calls Tryd.prog 20 #[.agg (ccells n k bs).toArray, .slice a zs.length cap] w fun e w' => LOut w (fxV n k bs zs) (fxC n k bs zs) e w' := by
  have HS := hidd (size_c26 n k hb)
  have HSL := hidd hs
  have HCO := hidd (fun W h => small51 n k bs hb zs a cap W h hl)
  have HG := hidd (And.intro (Blk.new w (ccells n k bs).toArray 28 _ rfl) ((Below.refl w.heap.size w).alloc (Nat.le_refl _) (.cells (ccells n k bs).toArray 28)))
  obtain ⟨W0, hW0⟩ : ∃ W0, W0 = w.alloc (.cells (ccells n k bs).toArray 28) := ⟨_, rfl⟩
  rw [← hW0] at HG
  by_cases h0 : eaC 12 n k bs zs = 0
  · obtain ⟨hsz, hav, hn12⟩ := eaC_ok h0
    obtain ⟨hi, ho⟩ := szCode_ok hsz
    obtain ⟨n1, n2, k1, k2⟩ := isCol_bd hi
    obtain ⟨hlk, hsp⟩ := szOk_bd ho
    obtain ⟨N, rfl⟩ := Int.eq_ofNat_of_zero_le (show 0 ≤ n by omega)
    obtain ⟨K, rfl⟩ := Int.eq_ofNat_of_zero_le (show 0 ≤ k by omega)
    have hlK : zs.length = K := by omega
    rw [hlK] at hsp
    have HAL := hidd (fun W h => all54 N K 1 bs hb zs a cap hlK (by omega) (by omega) (by omega) (by omega) (no1_of_av (by omega) hsp hav) hsp (by omega) (by omega) W h)
    rw [show (exA bs N K zs).take 1 = fxL (N : Int) (K : Int) bs zs from rfl] at HAL
    rw [h0, hlK] at HCO
    rw [hlK]
    cases h2 : fxL (N : Int) (K : Int) bs zs with
    | nil =>
      obtain ⟨hv, hc⟩ := fx_none h0 h2
      rw [hv, hc]
      rw [h2] at HAL
      clear hv hc hsz hav hi ho hlk hsp h0 hl hs h2
      go_enter Tryd.func20, Tryd.ntmps20
      go_upto_region 1 with fail
      rw [← hW0]
      clear hW0
      go_wp2_with (refine wpList_load_row rfl 28 (.tmp 2) rfl w.heap.size rfl 28 _ (0,0) _ HG.out.1 Tryd.underlying28 rfl HS.out ?_)
      refine (HCO.out _ (HSL.out.below HG.out.2 (Nat.le_refl _))).mono ?_
      rintro e w1 ⟨rfl, hb1⟩
      have G1 := hidd (And.intro (HG.out.1.below hb1 HG.out.1.lt) (HG.out.2.trans (hb1.mono HG.out.2.size)))
      clear hb1
      go_wp2_with (refine wpList_load_row rfl 28 (.tmp 2) rfl w.heap.size rfl 28 _ (0,0) _ G1.out.1 Tryd.underlying28 rfl HS.out ?_)
      refine (HAL.out _ (HSL.out.below G1.out.2 (Nat.le_refl _))).mono ?_
      rintro r w2 ⟨v, rfl, hL, hb2⟩
      obtain ⟨g3, cap3, _, rfl, _⟩ := hL.at
      have G2 := hidd (G1.out.2.trans (hb2.mono G1.out.2.size))
      clear hb2 hL
      go_wp2_with fail
      go_ret2
      exact lout_nil rfl G2.out
    | cons x r =>
      obtain ⟨hv, hc⟩ := fx_some h0 h2
      have HXL := hidd (show x.length = N from fxL_mem h2)
      rw [hv, hc]
      obtain ⟨L, hL⟩ : ∃ L, L = fxL (N : Int) (K : Int) bs zs := ⟨_, rfl⟩
      have hLl : L.length = 1 := by
        have h3 : L.length ≤ 1 := by rw [hL]; unfold fxL; simp; omega
        have h4 : L = x :: r := by rw [hL, h2]
        rw [h4] at h3 ⊢; simp at h3 ⊢; exact h3
      have HL0 := hidd (show L[0]? = some x by rw [hL, h2]; rfl)
      have HLL := hidd hLl
      rw [← hL] at HAL
      clear hv hc hsz hav hi ho hlk hsp h0 hl hs h2 hLl hL
      go_enter Tryd.func20, Tryd.ntmps20
      go_upto_region 1 with fail
      rw [← hW0]
      clear hW0
      go_wp2_with (refine wpList_load_row rfl 28 (.tmp 2) rfl w.heap.size rfl 28 _ (0,0) _ HG.out.1 Tryd.underlying28 rfl HS.out ?_)
      refine (HCO.out _ (HSL.out.below HG.out.2 (Nat.le_refl _))).mono ?_
      rintro e w1 ⟨rfl, hb1⟩
      have G1 := hidd (And.intro (HG.out.1.below hb1 HG.out.1.lt) (HG.out.2.trans (hb1.mono HG.out.2.size)))
      clear hb1
      go_wp2_with (refine wpList_load_row rfl 28 (.tmp 2) rfl w.heap.size rfl 28 _ (0,0) _ G1.out.1 Tryd.underlying28 rfl HS.out ?_)
      refine (HAL.out _ (HSL.out.below G1.out.2 (Nat.le_refl _))).mono ?_
      rintro e w2 ⟨v, rfl, hL, hb2⟩
      obtain ⟨g3, cap3, xs, rfl, hg3, _, _, _, hcell, hrow⟩ := hL.at
      obtain ⟨a3, c3, hx3, ho3⟩ := hrow 0 x HL0.out
      have e1 := hcell 0 _ hx3
      rw [HLL.out]
      rw [HXL.out] at e1
      have G2 := hidd (And.intro (G1.out.2.trans (hb2.mono G1.out.2.size)) (ho3.baseR (R := w.heap.size) G1.out.2.size))
      clear hb2 hL hrow ho3 hcell hx3
      go_wp2_with fail
      go_ret2
      exact ⟨_, _, by rw [HXL.out]; rfl, G2.out.2, G2.out.1⟩
  · obtain ⟨hv, hc⟩ := fx_bad h0
    rw [hv, hc]
    obtain ⟨cd, hcd⟩ : ∃ cd, cd = eaC 12 n k bs zs := ⟨_, rfl⟩
    rw [← hcd] at HCO h0 ⊢
    have hz : (cd != 0) = true := by rw [bne_iff_ne]; exact h0
    clear hs hcd hl h0 hv hc
    go_enter Tryd.func20, Tryd.ntmps20
    go_upto_region 1 with fail
    rw [← hW0]
    clear hW0
    go_wp2_with (refine wpList_load_row rfl 28 (.tmp 2) rfl w.heap.size rfl 28 _ (0,0) _ HG.out.1 Tryd.underlying28 rfl HS.out ?_)
    refine (HCO.out _ (HSL.out.below HG.out.2 (Nat.le_refl _))).mono ?_
    rintro e w1 ⟨rfl, hb1⟩
    have G := hidd (HG.out.2.trans (hb1.mono HG.out.2.size))
    clear hb1
    go_wp2_with fail
    go_ret2
    exact lout_nil rfl G.out
end Go.Proofs.YtckffliiidgilaaDoor
