/- GreatestClique: the program. -/
import Derived.Test.YtkiocedhibeieaaDoorGof
import Derived.Test.YtkiocedhibeieaaDoorGqs
import Derived.Test.YtkiocedhibeieaaDoorPts
namespace Go.Proofs.YtkiocedhibeieaaDoor
set_option linter.unusedVariables false
set_option linter.unusedSimpArgs false
open Go Go.RowKit Go.Shelf
theorem grB_gcS (N : Nat) (bs : List Nat) (c : Int) : grB N bs c = bitS (gcS N bs c) := rfl
set_option maxRecDepth 100000 in
set_option maxHeartbeats 1000000 in
theorem impl21 (n k : Int) (bs : List Nat) (hb : Bys bs) (c : Int) (w : World) (hT : Tz w) (hw0 : 0 < w.heap.size) :
    Calls Tryd.prog 21 #[.agg (ccells n k bs).toArray, .int .i64 c] w (LOut w (gcList n k bs c) (given n k bs c [])) := by
  have HS := hidd (size_c26 n k hb)
  have HT := hidd hT
  clear hT
  cases hi : isCol n k bs with
  | false =>
    have e2 : given n k bs c [] = 1 := given_1 hi
    have e1 : gcList n k bs c = [] := by unfold gcList; rw [if_neg (by omega)]
    have HI := hidd hi
    rw [e1, e2]
    clear hi e1 e2
    go_enter Tryd.func21, Tryd.ntmps21
    go_wp2_with (refine wpList_load_row rfl 28 (.tmp 2) rfl w.heap.size rfl 28 _ (0,0) _ (Blk.new _ _ _ _ rfl) Tryd.underlying28 rfl HS.out ?_)
    refine (implIs_any n k bs hb _).mono ?_
    rintro e w1 ⟨rfl, hb1⟩
    rw [HI.out]
    have G := hidd (((Below.refl w.heap.size w).alloc (Nat.le_refl _) (.cells (ccells n k bs).toArray 28)).trans (hb1.mono (by simp)))
    clear hb1
    go_wp2_with fail
    go_ret2
    exact lout_nil rfl G.out
  | true =>
    have HC1 := hidd (show (ccells n k bs).toArray[1]? = some (.int .i64 k) from rfl)
    cases hc : belowB c k with
    | false =>
      have e2 : given n k bs c [] = 2 := given_2 hi (by rw [hc]; rfl)
      have e1 : gcList n k bs c = [] := by unfold gcList; rw [if_neg (by omega)]
      have HI := hidd hi
      have HC := hidd hc
      rw [e1, e2]
      clear hi e1 e2 hc
      go_enter Tryd.func21, Tryd.ntmps21
      go_wp2_with (refine wpList_load_row rfl 28 (.tmp 2) rfl w.heap.size rfl 28 _ (0,0) _ (Blk.new _ _ _ _ rfl) Tryd.underlying28 rfl HS.out ?_)
      refine (implIs_any n k bs hb _).mono ?_
      rintro e w1 ⟨rfl, hb1⟩
      rw [HI.out]
      have c1 := ((Blk.new w (ccells n k bs).toArray 28 _ rfl).below hb1 (by simp)).cell HC1.out
      have G := hidd (((Below.refl w.heap.size w).alloc (Nat.le_refl _) (.cells (ccells n k bs).toArray 28)).trans (hb1.mono (by simp)))
      clear hb1
      go_wp2_with fail
      refine (below61 _ _ _).mono ?_
      rintro e w' ⟨rfl, rfl⟩
      rw [HC.out]
      go_wp2_with fail
      go_ret2
      exact lout_nil rfl G.out
    | true =>
      have e2 : given n k bs c [] = 0 := given_0 hi hc rfl
      have e1 : gcList n k bs c = gcL n.toNat bs c := by unfold gcList; rw [if_pos e2]; rfl
      obtain ⟨n1, n2, k1, k2⟩ := isCol_bd hi
      have HI := hidd hi
      have HC := hidd hc
      rw [e1, e2]
      obtain ⟨N, rfl⟩ := Int.eq_ofNat_of_zero_le (show 0 ≤ n by omega)
      rw [Int.toNat_natCast]
      have HGR := hidd (fun W => greatest33 N k c bs hb W (by omega) (by omega))
      have hok := gcS_ok (N := N) (bs := bs) (c := c) (by omega) (by omega)
      have HP := hidd (fun W hW h0 => points47 (gcS N bs c) hok.1 hok.2 W hW h0)
      have hx := grB_gcS N bs c
      obtain ⟨X, hX⟩ : ∃ X, X = grB N bs c := ⟨_, rfl⟩
      have hle : (gcS N bs c).length = (gcL N bs c).length := (rv_len _).symm
      rw [← hX] at HGR hx
      rw [← hx, hle] at HP
      clear hi e1 e2 hc hok hx hX hle
      go_enter Tryd.func21, Tryd.ntmps21
      go_wp2_with (refine wpList_load_row rfl 28 (.tmp 2) rfl w.heap.size rfl 28 _ (0,0) _ (Blk.new _ _ _ _ rfl) Tryd.underlying28 rfl HS.out ?_)
      refine (implIs_any (N : Int) k bs hb _).mono ?_
      rintro e w1 ⟨rfl, hb1⟩
      rw [HI.out]
      have B1 := (Blk.new w (ccells (N : Int) k bs).toArray 28 _ rfl).below hb1 (by simp)
      have c1 := B1.cell HC1.out
      have G := hidd (And.intro B1 (((Below.refl w.heap.size w).alloc (Nat.le_refl _) (.cells (ccells (N : Int) k bs).toArray 28)).trans (hb1.mono (by simp))))
      clear hb1 B1
      go_wp2_with fail
      refine (below61 _ _ _).mono ?_
      rintro e w' ⟨rfl, rfl⟩
      rw [HC.out]
      go_wp2_with (refine wpList_load_row rfl 28 (.tmp 2) rfl w.heap.size rfl 28 _ (0,0) _ G.out.1 Tryd.underlying28 rfl HS.out ?_)
      refine (HGR.out _).mono ?_
      rintro e w2 ⟨rfl, hb2, _, _⟩
      have G2 := hidd (G.out.2.trans (hb2.mono G.out.2.size))
      have HT2 := hidd (HT.out.below G2.out hw0)
      clear hb2
      go_wp2_with fail
      refine (HP.out _ HT2.out (by have := G2.out.size; omega)).mono ?_
      rintro e w3 ⟨a, cap, rfl, ho, hb3⟩
      have G3 := hidd (And.intro (ownL_base ho G2.out.size) (G2.out.trans (hb3.mono G2.out.size)))
      clear ho hb3
      go_wp2_with fail
      go_ret2
      exact ⟨a, cap, rfl, G3.out.1, G3.out.2⟩
end Go.Proofs.YtkiocedhibeieaaDoor
