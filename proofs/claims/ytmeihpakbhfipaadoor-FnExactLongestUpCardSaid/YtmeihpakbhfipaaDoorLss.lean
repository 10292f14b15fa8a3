/- LongestUp: the model. -/
import Derived.Test.YtmeihpakbhfipaaDoorLsv
namespace Go.Proofs.YtmeihpakbhfipaaDoor
set_option linter.unusedVariables false
set_option linter.unusedSimpArgs false
open Go Go.RowKit Go.Shelf
set_option maxRecDepth 100000 in
set_option maxHeartbeats 4000000 in
theorem spec18 (n k : Int) (bs : List Nat) (hb : Bys bs) (c : Int) (w : World) :
    Calls Tryd.prog 18 #[.agg (ccells n k bs).toArray, .int .i64 c] w (LOut w (luL n k bs c) (given n k bs c [])) := by
  have HS := hidd (size_c26 n k hb)
  have HA := hidd (show RelKl (ccells n k bs).toArray w (w.alloc (.cells (ccells n k bs).toArray 28)) from ⟨Blk.new w (ccells n k bs).toArray 28 _ rfl, (Below.refl w.heap.size w).alloc (Nat.le_refl _) _⟩)
  have HG := hidd (fun W => given56 n k bs hb c [] none 0 W (.inl rfl) (by simp))
  by_cases hg : given n k bs c [] = 0
  · obtain ⟨hi, hcb⟩ := given_cases hg
    obtain ⟨n1, n2, k1, k2⟩ := isCol_bd hi
    have hv : luL n k bs c = pathL bs c n.toNat (lnM bs c n.toNat).toNat := if_pos hg
    rw [hv, hg]
    rw [hg] at HG
    obtain ⟨N, rfl⟩ := Int.eq_ofNat_of_zero_le (show 0 ≤ n by omega)
    rw [Int.toNat_natCast]
    have N2 : N ≤ 17 := by omega
    have N1 : 1 ≤ N := by omega
    have HLO := hidd (fun W => longest31 N k bs hb c N1 N2 W)
    clear hi hcb hg hv n1 n2
    go_enter Tryd.func18, Tryd.ntmps18
    go_wp2_with (refine wpList_load_row rfl 28 (.tmp 2) rfl w.heap.size rfl 28 _ (0,0) _ HA.out.1 Tryd.underlying28 rfl HS.out ?_)
    refine (HG.out _).mono ?_
    rintro e w1 ⟨rfl, hb1⟩
    have G1 := hidd (HA.out.more hb1)
    clear hb1
    go_wp2_with (refine wpList_load_row rfl 28 (.tmp 2) rfl w.heap.size rfl 28 _ (0,0) _ G1.out.1 Tryd.underlying28 rfl HS.out ?_)
    refine (HLO.out _).mono ?_
    rintro e w2 ⟨a, cap, rfl, ho, hb2⟩
    have G2 := hidd (And.intro (ownL_base ho G1.out.2.size) (G1.out.2.trans (hb2.mono G1.out.2.size)))
    clear ho hb2
    go_wp2_with fail
    go_ret2
    exact ⟨a, cap, rfl, G2.out.1, G2.out.2⟩
  · have hv : luL n k bs c = [] := if_neg hg
    rw [hv]
    generalize given n k bs c [] = cd at hg HG ⊢
    have hd : (cd != 0) = true := by rw [bne_iff_ne]; exact hg
    clear hg hv
    go_enter Tryd.func18, Tryd.ntmps18
    go_wp2_with (refine wpList_load_row rfl 28 (.tmp 2) rfl w.heap.size rfl 28 _ (0,0) _ HA.out.1 Tryd.underlying28 rfl HS.out ?_)
    refine (HG.out _).mono ?_
    rintro e w1 ⟨rfl, hb1⟩
    have G1 := hidd (HA.out.more hb1)
    clear hb1
    go_wp2_with fail
    go_ret2
    exact lout_nil rfl G1.out.2
end Go.Proofs.YtmeihpakbhfipaaDoor
