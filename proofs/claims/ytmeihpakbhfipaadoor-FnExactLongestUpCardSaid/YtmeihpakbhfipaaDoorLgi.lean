/- LongestUp: the program. -/
import Derived.Test.YtmeihpakbhfipaaDoorLgt
namespace Go.Proofs.YtmeihpakbhfipaaDoor
set_option linter.unusedVariables false
set_option linter.unusedSimpArgs false
open Go Go.RowKit Go.Shelf
attribute [local go_sem] Oper.semAt_some
set_option maxRecDepth 100000 in
theorem impl19 (n k : Int) (bs : List Nat) (hb : Bys bs) (c : Int) (w : World) (hT : Tz w) (h0 : 0 < w.heap.size) :
    Calls Tryd.prog 19 #[.agg (ccells n k bs).toArray, .int .i64 c] w (LOut w (luL n k bs c) (given n k bs c [])) := by
  have HS := hidd (size_c26 n k hb)
  have HT := hidd (And.intro hT h0)
  have HA := hidd (show Below w.heap.size w (w.alloc (.cells (ccells n k bs).toArray 28)) from (Below.refl w.heap.size w).alloc (Nat.le_refl _) _)
  clear hT h0
  by_cases hg : given n k bs c [] = 0
  · obtain ⟨hi, hcb⟩ := given_cases hg
    obtain ⟨n1, n2, k1, k2⟩ := isCol_bd hi
    have hv : luL n k bs c = pathL bs c n.toNat (lnM bs c n.toNat).toNat := if_pos hg
    rw [hv, hg]
    obtain ⟨N, rfl⟩ := Int.eq_ofNat_of_zero_le (show 0 ≤ n by omega)
    rw [Int.toNat_natCast]
    have HST := hidd (fun W hW hh => steps25 N k c bs hb W hg hW hh)
    have N2 : N ≤ 17 := by omega
    have N1 : 1 ≤ N := by omega
    clear hi hcb hg hv n1 n2
    go_enter Tryd.func19, Tryd.ntmps19
    go_wp2_with (refine wpList_load_row rfl 28 (.tmp 2) rfl w.heap.size rfl 28 _ (0,0) _ (Blk.new _ _ _ _ rfl) Tryd.underlying28 rfl HS.out ?_)
    refine (HST.out _ (HT.out.1.below HA.out HT.out.2) (by simp)).mono ?_
    rintro e w1 ⟨g, rfl, hgs, hst, hb1⟩
    have G1 := hidd (And.intro hst (HA.out.trans (hb1.mono (by simp))))
    clear hgs hst hb1
    go_wp2_with fail
    refine (longest32 N c bs g _ N1 N2 G1.out.1).mono ?_
    rintro e w2 ⟨a, cap, rfl, ho, hb2⟩
    have G2 := hidd (And.intro (ownL_base ho G1.out.2.size) (G1.out.2.trans (hb2.mono G1.out.2.size)))
    clear ho hb2
    go_wp2_with fail
    go_ret2
    exact ⟨a, cap, rfl, G2.out.1, G2.out.2⟩
  · have hv : luL n k bs c = [] := if_neg hg
    rw [hv]
    have HST := hidd (fun W => steps25_e n k c bs hb W hg)
    generalize given n k bs c [] = cd at hg HST ⊢
    have hd : (cd != 0) = true := by rw [bne_iff_ne]; exact hg
    clear hg hv
    go_enter Tryd.func19, Tryd.ntmps19
    go_wp2_with (refine wpList_load_row rfl 28 (.tmp 2) rfl w.heap.size rfl 28 _ (0,0) _ (Blk.new _ _ _ _ rfl) Tryd.underlying28 rfl HS.out ?_)
    refine (HST.out _).mono ?_
    rintro e w1 ⟨rfl, hb1⟩
    have G1 := hidd (HA.out.trans (hb1.mono (by simp)))
    clear hb1
    go_wp2_with fail
    go_ret2
    exact lout_nil rfl G1.out
end Go.Proofs.YtmeihpakbhfipaaDoor
