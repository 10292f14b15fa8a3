/- IsClosedColour: the model and the program. -/
import Derived.Test.YtmeihpakbhfipaaDoorCls
import Derived.Test.YtmeihpakbhfipaaDoorClp
namespace Go.Proofs.YtmeihpakbhfipaaDoor
set_option linter.unusedVariables false
set_option linter.unusedSimpArgs false
open Go Go.RowKit Go.Shelf
set_option maxRecDepth 100000 in
theorem steps25_e (n k c : Int) (bs : List Nat) (hb : Bys bs) (w : World) (h0 : given n k bs c [] ≠ 0) :
    Calls Tryd.prog 25 #[.agg (ccells n k bs).toArray, .int .i64 c] w fun e w' => e = .returned (.tuple #[.slice none 0 0, .int .i64 (given n k bs c [])]) ∧ Below w.heap.size w w' := by
  have HS := hidd (size_c26 n k hb)
  have HGR := hidd (fun W => graph63 n k c bs hb W)
  have Hz := zero79
  have HZS := hidd (size79 (grA n k bs c) (grF n k bs c))
  have HZO := hidd (show (gcell 0 fun _ => 0).toArray.size = (gcell (grA n k bs c) (grF n k bs c)).toArray.size by simp [gcell_len])
  have HZA := hidd (gcell_one (grA n k bs c) (grF n k bs c))
  generalize gcell (grA n k bs c) (grF n k bs c) = Z at HGR HZS HZO HZA
  generalize given n k bs c [] = cd at h0 HGR ⊢
  have hd : (cd != 0) = true := by rw [bne_iff_ne]; exact h0
  clear h0
  go_enter Tryd.func25, Tryd.ntmps25
  go_wp2_with (refine wpList_load_row rfl 28 (.tmp 2) rfl w.heap.size rfl 28 _ (0,0) _ (Blk.new _ _ _ _ rfl) Tryd.underlying28 rfl HS.out ?_)
  refine (HGR.out _).mono ?_
  rintro e w1 ⟨rfl, hb1⟩
  have G1 := hidd (((Below.refl w.heap.size w).alloc (Nat.le_refl _) (.cells (ccells n k bs).toArray 28)).trans (hb1.mono (by simp)))
  clear hb1
  have HN1 := hidd (Blk.new w1 (gcell 0 fun _ => 0).toArray 63 w1.heap.size rfl)
  go_wp2_with (first
    | (refine wpList_store_row rfl 63 (.tmp 6) (.tmp 17) rfl w1.heap.size _ rfl rfl 63 _ HN1.out HZS.out HZO.out HZA.out ?_))
  go_ret2
  exact ⟨rfl, below_setRow (G1.out.alloc G1.out.size _) G1.out.size _⟩
/-- What IsClosedColour returns. -/
def iclV (n k : Int) (bs : List Nat) (c : Int) : Bool := if given n k bs c [] = 0 then clB bs c n.toNat else false
set_option maxRecDepth 100000 in
theorem impl15 (n k : Int) (bs : List Nat) (hb : Bys bs) (c : Int) (w : World) (hT : Tz w) (h0 : 0 < w.heap.size) :
    Calls Tryd.prog 15 #[.agg (ccells n k bs).toArray, .int .i64 c] w fun e w' => e = .returned (.tuple #[.bool (iclV n k bs c), .int .i64 (given n k bs c [])]) ∧ Below w.heap.size w w' := by
  have HS := hidd (size_c26 n k hb)
  have HT := hidd (And.intro hT h0)
  have HA := hidd (show Below w.heap.size w (w.alloc (.cells (ccells n k bs).toArray 28)) from (Below.refl w.heap.size w).alloc (Nat.le_refl _) _)
  clear hT h0
  by_cases hg : given n k bs c [] = 0
  · obtain ⟨hi, hcb⟩ := given_cases hg
    obtain ⟨n1, n2, k1, k2⟩ := isCol_bd hi
    have hv : iclV n k bs c = clB bs c n.toNat := if_pos hg
    rw [hv, hg]
    obtain ⟨N, rfl⟩ := Int.eq_ofNat_of_zero_le (show 0 ≤ n by omega)
    rw [Int.toNat_natCast]
    have HST := hidd (fun W hW hh => steps25 N k c bs hb W hg hW hh)
    have N2 : N ≤ 17 := by omega
    clear hi hcb hg hv n1 n2
    go_enter Tryd.func15, Tryd.ntmps15
    go_wp2_with (refine wpList_load_row rfl 28 (.tmp 2) rfl w.heap.size rfl 28 _ (0,0) _ (Blk.new _ _ _ _ rfl) Tryd.underlying28 rfl HS.out ?_)
    refine (HST.out _ (HT.out.1.below HA.out HT.out.2) (by simp)).mono ?_
    rintro e w1 ⟨g, rfl, hgs, hst, hb1⟩
    have G1 := hidd (And.intro hst (HA.out.trans (hb1.mono (by simp))))
    clear hgs hst hb1
    go_wp2_with fail
    refine (closed28 N c bs g _ N2 G1.out.1).mono ?_
    rintro e _ ⟨rfl, rfl⟩
    go_wp2_with fail
    go_ret2
    exact ⟨rfl, G1.out.2⟩
  · have hv : iclV n k bs c = false := if_neg hg
    rw [hv]
    have HST := hidd (fun W => steps25_e n k c bs hb W hg)
    generalize given n k bs c [] = cd at hg HST ⊢
    have hd : (cd != 0) = true := by rw [bne_iff_ne]; exact hg
    clear hg hv
    go_enter Tryd.func15, Tryd.ntmps15
    go_wp2_with (refine wpList_load_row rfl 28 (.tmp 2) rfl w.heap.size rfl 28 _ (0,0) _ (Blk.new _ _ _ _ rfl) Tryd.underlying28 rfl HS.out ?_)
    refine (HST.out _).mono ?_
    rintro e w1 ⟨rfl, hb1⟩
    have G1 := hidd (HA.out.trans (hb1.mono (by simp)))
    clear hb1
    go_wp2_with fail
    go_ret2
    exact ⟨rfl, G1.out⟩
set_option maxRecDepth 100000 in
theorem spec14 (n k : Int) (bs : List Nat) (hb : Bys bs) (c : Int) (w : World) :
    Calls Tryd.prog 14 #[.agg (ccells n k bs).toArray, .int .i64 c] w fun e w' => e = .returned (.tuple #[.bool (iclV n k bs c), .int .i64 (given n k bs c [])]) ∧ Below w.heap.size w w' := by
  have HS := hidd (size_c26 n k hb)
  have HA := hidd (And.intro (Blk.new w (ccells n k bs).toArray 28 _ rfl) (show Below w.heap.size w (w.alloc (.cells (ccells n k bs).toArray 28)) from (Below.refl w.heap.size w).alloc (Nat.le_refl _) _))
  have HG := hidd (fun W => given56 n k bs hb c [] none 0 W (.inl rfl) (by simp))
  by_cases hg : given n k bs c [] = 0
  · obtain ⟨hi, hcb⟩ := given_cases hg
    obtain ⟨n1, n2, k1, k2⟩ := isCol_bd hi
    have hv : iclV n k bs c = clB bs c n.toNat := if_pos hg
    rw [hv]
    obtain ⟨N, rfl⟩ := Int.eq_ofNat_of_zero_le (show 0 ≤ n by omega)
    rw [Int.toNat_natCast]
    rw [hg] at HG ⊢
    have N2 : N ≤ 17 := by omega
    clear hi hcb hg hv n1 n2
    go_enter Tryd.func14, Tryd.ntmps14
    go_wp2_with (refine wpList_load_row rfl 28 (.tmp 2) rfl w.heap.size rfl 28 _ (0,0) _ HA.out.1 Tryd.underlying28 rfl HS.out ?_)
    refine (HG.out _).mono ?_
    rintro e w1 ⟨rfl, hb1⟩
    have G1 := hidd (And.intro (HA.out.1.below hb1 HA.out.1.lt) (HA.out.2.trans (hb1.mono (by simp))))
    clear hb1
    go_wp2_with (refine wpList_load_row rfl 28 (.tmp 2) rfl w.heap.size rfl 28 _ (0,0) _ G1.out.1 Tryd.underlying28 rfl HS.out ?_)
    refine (closed27 N k c bs hb _ N2).mono ?_
    rintro e w2 ⟨rfl, hb2⟩
    have G2 := hidd (G1.out.2.trans (hb2.mono G1.out.2.size))
    clear hb2
    go_wp2_with fail
    go_ret2
    exact ⟨rfl, G2.out⟩
  · have hv : iclV n k bs c = false := if_neg hg
    rw [hv]
    generalize given n k bs c [] = cd at hg HG ⊢
    have hd : (cd != 0) = true := by rw [bne_iff_ne]; exact hg
    clear hg hv
    go_enter Tryd.func14, Tryd.ntmps14
    go_wp2_with (refine wpList_load_row rfl 28 (.tmp 2) rfl w.heap.size rfl 28 _ (0,0) _ HA.out.1 Tryd.underlying28 rfl HS.out ?_)
    refine (HG.out _).mono ?_
    rintro e w1 ⟨rfl, hb1⟩
    have G1 := hidd (HA.out.2.trans (hb1.mono (by simp)))
    clear hb1
    go_wp2_with fail
    go_ret2
    exact ⟨rfl, G1.out⟩
end Go.Proofs.YtmeihpakbhfipaaDoor
