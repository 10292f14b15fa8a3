/- ComponentsOf: both sides, whole. -/
import Derived.Test.YtkiocedhibeieaaDoorCpi
namespace Go.Proofs.YtkiocedhibeieaaDoor
set_option linter.unusedVariables false
set_option linter.unusedSimpArgs false
open Go Go.RowKit Go.Shelf
def cpCode (n k : Int) (bs : List Nat) (c : Int) : Int := given n k bs c []
set_option maxRecDepth 100000 in
set_option maxHeartbeats 1000000 in
theorem spec35 (n k : Int) (bs : List Nat) (hb : Bys bs) (c : Int) (w : World) :
    Calls Tryd.prog 35 #[.agg (ccells n k bs).toArray, .int .i64 c] w (LLOut0 w (cpL n k bs c) (cpCode n k bs c)) := by
  by_cases h0 : given n k bs c [] = 0
  · obtain ⟨n1, n2, k1, k2⟩ := isCol_bd (given_ok h0).1
    obtain ⟨N, rfl⟩ := Int.eq_ofNat_of_zero_le (show 0 ≤ n by omega)
    unfold cpL cpCode
    rw [if_pos h0, h0, Int.toNat_natCast]
    exact spec35_good N k bs hb c (by omega) (by omega) h0 w
  · unfold cpL cpCode
    rw [if_neg h0]
    have HS := hidd (size_c26 n k hb)
    have HG := hidd (fun W => given56 n k bs hb c [] none 0 W (sl_none W) (by simp))
    obtain ⟨cd, hcd⟩ : ∃ cd, cd = given n k bs c [] := ⟨_, rfl⟩
    rw [← hcd] at HG h0 ⊢
    have hne : (cd != 0) = true := by rw [bne_iff_ne]; exact h0
    clear h0 hcd
    go_enter Tryd.func35, Tryd.ntmps35
    go_wp2_with (refine wpList_load_row rfl 28 (.tmp 2) rfl w.heap.size rfl 28 _ (0,0) _ (Blk.new _ _ _ _ rfl) Tryd.underlying28 rfl HS.out ?_)
    refine (HG.out _).mono ?_
    rintro e w1 ⟨rfl, hb1⟩
    have G := hidd (((Below.refl w.heap.size w).alloc (Nat.le_refl _) (.cells (ccells n k bs).toArray 28)).trans (hb1.mono (by simp)))
    clear hb1
    go_wp2_with fail
    go_ret2
    exact ⟨none, 0, rfl, .inl rfl, G.out⟩
set_option maxRecDepth 100000 in
set_option maxHeartbeats 1000000 in
theorem impl36 (n k : Int) (bs : List Nat) (hb : Bys bs) (c : Int) (w : World) (hT : Tz w) (hw0 : 0 < w.heap.size) :
    Calls Tryd.prog 36 #[.agg (ccells n k bs).toArray, .int .i64 c] w (LLOut w (cpL n k bs c) (cpCode n k bs c)) := by
  by_cases h0 : given n k bs c [] = 0
  · obtain ⟨n1, n2, k1, k2⟩ := isCol_bd (given_ok h0).1
    obtain ⟨N, rfl⟩ := Int.eq_ofNat_of_zero_le (show 0 ≤ n by omega)
    unfold cpL cpCode
    rw [if_pos h0, h0, Int.toNat_natCast]
    exact impl36_good N k bs hb c (by omega) (by omega) h0 w hT hw0
  · unfold cpL cpCode
    rw [if_neg h0]
    have HS := hidd (size_c26 n k hb)
    have HG := hidd (fun W => graph63_e n k c bs hb W h0)
    obtain ⟨cd, hcd⟩ : ∃ cd, cd = given n k bs c [] := ⟨_, rfl⟩
    rw [← hcd] at HG h0 ⊢
    have hne : (cd != 0) = true := by rw [bne_iff_ne]; exact h0
    have Hz := zero79
    have HZ1 := hidd (size79 0 fun _ => 0)
    have HA1 := hidd (gcell_one 0 fun _ => 0)
    clear h0 hcd
    go_enter Tryd.func36, Tryd.ntmps36
    go_wp2_with (refine wpList_load_row rfl 28 (.tmp 2) rfl w.heap.size rfl 28 _ (0,0) _ (Blk.new _ _ _ _ rfl) Tryd.underlying28 rfl HS.out ?_)
    refine (HG.out _).mono ?_
    rintro e w1 ⟨rfl, hb1⟩
    have b1 := (((Below.refl w.heap.size w).alloc (Nat.le_refl _) (.cells (ccells n k bs).toArray 28)).trans (hb1.mono (by simp)))
    have B1 : Below w1.heap.size w1 ((w1.alloc (.cells (gcell 0 fun _ => 0).toArray 79)).setRow w1.heap.size (gcell 0 fun _ => 0).toArray) := below_setRow ((Below.refl _ _).alloc (Nat.le_refl _) _) (Nat.le_refl _) _
    have G := hidd (b1.trans (B1.mono b1.size))
    clear hb1 b1 B1
    go_wp2_with (refine wpList_store_row rfl 79 (.tmp 6) (.tmp 15) rfl w1.heap.size _ rfl rfl 79 _ (Blk.new _ _ _ _ rfl) HZ1.out rfl HA1.out ?_)
    go_ret2
    exact ⟨none, 0, rfl, .inl rfl, G.out⟩
theorem cpL_len (n k : Int) (bs : List Nat) (c : Int) : (cpL n k bs c).length ≤ 200 ∧ ∀ z ∈ cpL n k bs c, z.length ≤ 17 := by
  unfold cpL
  by_cases h0 : given n k bs c [] = 0
  · rw [if_pos h0]
    obtain ⟨n1, n2, k1, k2⟩ := isCol_bd (given_ok h0).1
    refine ⟨by rw [List.length_map]; have := cpSets_len n.toNat bs c; omega, fun z hz => ?_⟩
    obtain ⟨X, hX, rfl⟩ := List.mem_map.1 hz
    exact setL_17 (cpSets_lt bs c (show n.toNat ≤ 17 by omega) X hX)
  · rw [if_neg h0]
    exact ⟨by simp, fun z hz => by cases hz⟩
end Go.Proofs.YtkiocedhibeieaaDoor
