/- FullCliques: the model, whole. -/
import Derived.Test.YtkiocedhibeieaaDoorFle
namespace Go.Proofs.YtkiocedhibeieaaDoor
set_option linter.unusedVariables false
set_option linter.unusedSimpArgs false
open Go Go.RowKit Go.Shelf
set_option maxRecDepth 100000 in
set_option maxHeartbeats 1000000 in
theorem spec27 (n k : Int) (bs : List Nat) (hb : Bys bs) (c : Int) (w : World) :
    Calls Tryd.prog 27 #[.agg (ccells n k bs).toArray, .int .i64 c] w (LLOut0 w (fcL n k bs c) (fcCode n k bs c)) := by
  by_cases h0 : given n k bs c [] = 0
  · obtain ⟨n1, n2, k1, k2⟩ := isCol_bd (given_ok h0).1
    obtain ⟨N, rfl⟩ := Int.eq_ofNat_of_zero_le (show 0 ≤ n by omega)
    unfold fcL fcCode
    rw [if_pos h0, if_pos h0, Int.toNat_natCast]
    exact spec27_good N k bs hb c (by omega) (by omega) h0 w
  · unfold fcL fcCode
    rw [if_neg h0, if_neg h0]
    have HS := hidd (size_c26 n k hb)
    have HG := hidd (fun W => given56 n k bs hb c [] none 0 W (sl_none W) (by simp))
    obtain ⟨cd, hcd⟩ : ∃ cd, cd = given n k bs c [] := ⟨_, rfl⟩
    rw [← hcd] at HG h0 ⊢
    have hne : (cd != 0) = true := by rw [bne_iff_ne]; exact h0
    clear h0 hcd
    go_enter Tryd.func27, Tryd.ntmps27
    go_wp2_with (refine wpList_load_row rfl 28 (.tmp 2) rfl w.heap.size rfl 28 _ (0,0) _ (Blk.new _ _ _ _ rfl) Tryd.underlying28 rfl HS.out ?_)
    refine (HG.out _).mono ?_
    rintro e w1 ⟨rfl, hb1⟩
    have G := hidd (((Below.refl w.heap.size w).alloc (Nat.le_refl _) (.cells (ccells n k bs).toArray 28)).trans (hb1.mono (by simp)))
    clear hb1
    go_wp2_with fail
    go_ret2
    exact ⟨none, 0, rfl, .inl rfl, G.out⟩
theorem fcL_len (n k : Int) (bs : List Nat) (c : Int) : (fcL n k bs c).length ≤ 200 ∧ ∀ z ∈ fcL n k bs c, z.length ≤ 17 := by
  unfold fcL
  by_cases h0 : given n k bs c [] = 0
  · rw [if_pos h0]
    obtain ⟨n1, n2, k1, k2⟩ := isCol_bd (given_ok h0).1
    by_cases h : (fcS n.toNat bs c).length ≤ 200
    · rw [if_pos h]
      refine ⟨by rw [List.length_map]; exact h, fun z hz => ?_⟩
      obtain ⟨t, ht, rfl⟩ := List.mem_map.1 hz
      obtain ⟨r1, r2⟩ := cqE_ok n.toNat [] t (Nat.le_refl _) List.Pairwise.nil (fun q h => by cases h) (List.mem_filter.1 ht).1
      rw [rv_len]
      exact pw17 r1 (fun q hq => Nat.lt_of_lt_of_le (r2 q hq) (by omega))
    · rw [if_neg h]
      exact ⟨by simp, fun z hz => by cases hz⟩
  · rw [if_neg h0]
    exact ⟨by simp, fun z hz => by cases hz⟩
end Go.Proofs.YtkiocedhibeieaaDoor
