/- SidesOf: the model, whole. -/
import Derived.Test.YtkiocedhibeieaaDoorSdy
namespace Go.Proofs.YtkiocedhibeieaaDoor
set_option linter.unusedVariables false
set_option linter.unusedSimpArgs false
open Go Go.RowKit Go.Shelf
set_option maxRecDepth 100000 in
set_option maxHeartbeats 1000000 in
theorem spec39 (n k : Int) (bs : List Nat) (hb : Bys bs) (c : Int) (w : World) :
    Calls Tryd.prog 39 #[.agg (ccells n k bs).toArray, .int .i64 c] w (LOut w (sdL n k bs c) (sdCode n k bs c)) := by
  by_cases h0 : given n k bs c [] = 0
  · obtain ⟨n1, n2, k1, k2⟩ := isCol_bd (given_ok h0).1
    obtain ⟨N, rfl⟩ := Int.eq_ofNat_of_zero_le (show 0 ≤ n by omega)
    unfold sdL sdCode
    rw [if_pos h0, if_pos h0, Int.toNat_natCast]
    exact spec39_good N k bs hb c (by omega) (by omega) h0 w
  · unfold sdL sdCode
    rw [if_neg h0, if_neg h0]
    have HS := hidd (size_c26 n k hb)
    have HG := hidd (fun W => given56 n k bs hb c [] none 0 W (sl_none W) (by simp))
    obtain ⟨cd, hcd⟩ : ∃ cd, cd = given n k bs c [] := ⟨_, rfl⟩
    rw [← hcd] at HG h0 ⊢
    have hne : (cd != 0) = true := by rw [bne_iff_ne]; exact h0
    clear h0 hcd
    go_enter Tryd.func39, Tryd.ntmps39
    go_wp2_with (refine wpList_load_row rfl 28 (.tmp 2) rfl w.heap.size rfl 28 _ (0,0) _ (Blk.new _ _ _ _ rfl) Tryd.underlying28 rfl HS.out ?_)
    refine (HG.out _).mono ?_
    rintro e w1 ⟨rfl, hb1⟩
    have G := hidd (((Below.refl w.heap.size w).alloc (Nat.le_refl _) (.cells (ccells n k bs).toArray 28)).trans (hb1.mono (by simp)))
    clear hb1
    go_wp2_with fail
    go_ret2
    exact lout_nil rfl G.out
theorem sdL_len {n k : Int} {bs : List Nat} {c : Int} : (sdL n k bs c).length ≤ 17 := by
  unfold sdL
  by_cases h0 : given n k bs c [] = 0
  · rw [if_pos h0]
    obtain ⟨n1, n2, k1, k2⟩ := isCol_bd (given_ok h0).1
    have := sdR_len n.toNat (nsF bs c (eseq n.toNat))
    omega
  · rw [if_neg h0]; simp
end Go.Proofs.YtkiocedhibeieaaDoor
