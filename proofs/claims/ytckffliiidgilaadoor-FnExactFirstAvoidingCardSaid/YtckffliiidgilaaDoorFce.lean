/- FreeChanges: the model and the program, at every argument. -/
import Derived.Test.YtckffliiidgilaaDoorFcg
import Derived.Test.YtckffliiidgilaaDoorFcs
namespace Go.Proofs.YtckffliiidgilaaDoor
set_option linter.unusedVariables false
set_option linter.unusedSimpArgs false
open Go Go.RowKit Go.Shelf Go.Extern.Stop Go.Stop Go.Extern
def fcC (n k : Int) (bs : List Nat) (zs : List Int) : Int := eaC 17 n k bs zs
theorem impl39c (n k : Int) (bs : List Nat) (hb : Bys bs) (zs : List Int) (a : Option Addr) (cap : Nat) (e0 : Addr) (w : World) (hs : SlI w a zs) (hl : zs.length ≤ 1048576) (hE : Er w e0) :
    Calls Tryd.prog 39 #[.agg (ccells n k bs).toArray, .slice a zs.length cap] w fun e w' => LLOut w (fcV n k bs zs) (fcC n k bs zs) e w' := impl39 n k bs hb zs a cap e0 w hs hl hE
set_option maxRecDepth 100000 in
set_option maxHeartbeats 4000000 in
theorem spec38 (n k : Int) (bs : List Nat) (hb : Bys bs) (zs : List Int) (a : Option Addr) (cap : Nat) (w : World) (hs : SlI w a zs) (hl : zs.length ≤ 1048576) :
    Calls Tryd.prog 38 #[.agg (ccells n k bs).toArray, .slice a zs.length cap] w fun e w' => LLOut0 w (fcV n k bs zs) (fcC n k bs zs) e w' := by
  unfold fcC
  by_cases h0 : eaC 17 n k bs zs = 0
  · obtain ⟨hsz, hav, hn12⟩ := eaC_ok h0
    obtain ⟨hi, ho⟩ := szCode_ok hsz
    obtain ⟨n1, n2, k1, k2⟩ := isCol_bd hi
    obtain ⟨hlk, hsp⟩ := szOk_bd ho
    obtain ⟨N, rfl⟩ := Int.eq_ofNat_of_zero_le (show 0 ≤ n by omega)
    obtain ⟨K, rfl⟩ := Int.eq_ofNat_of_zero_le (show 0 ≤ k by omega)
    have hlK : zs.length = K := by omega
    rw [hlK] at hsp
    obtain ⟨bl, off, rfl, hbl⟩ := sl_some hs (by omega)
    have := spec38_good N K bs hb zs bl off cap w hs hl h0 hlK (by omega) (by omega) (by omega) (by omega) hsp
    rw [fcV_good h0, hlK, h0]
    exact this
  · rw [fcV_bad h0]
    have HS := hidd (size_c26 n k hb)
    have HSL := hidd hs
    have HCO := hidd (fun W h => given67 n k bs hb zs a cap W h hl)
    have HG := hidd (And.intro (Blk.new w (ccells n k bs).toArray 28 _ rfl) ((Below.refl w.heap.size w).alloc (Nat.le_refl _) (.cells (ccells n k bs).toArray 28)))
    obtain ⟨W0, hW0⟩ : ∃ W0, W0 = w.alloc (.cells (ccells n k bs).toArray 28) := ⟨_, rfl⟩
    rw [← hW0] at HG
    obtain ⟨cd, hcd⟩ : ∃ cd, cd = eaC 17 n k bs zs := ⟨_, rfl⟩
    rw [← hcd] at HCO h0 ⊢
    have hz : (cd != 0) = true := by rw [bne_iff_ne]; exact h0
    clear hs hcd hl h0
    go_enter Tryd.func38, Tryd.ntmps38
    go_upto_region 1 with fail
    rw [← hW0]
    clear hW0
    go_wp2_with (refine wpList_load_row rfl 28 (.tmp 2) rfl w.heap.size rfl 28 _ (0,0) _ HG.out.1 Tryd.underlying28 rfl HS.out ?_)
    refine (HCO.out _ (HSL.out.below HG.out.2 (Nat.le_refl _))).mono ?_
    rintro e w1 ⟨rfl, hb1⟩
    have G := hidd (HG.out.2.trans (hb1.mono HG.out.2.size))
    clear hb1
    go_wp2_with fail
    go_ret2
    exact llout0_nil rfl G.out
end Go.Proofs.YtckffliiidgilaaDoor
