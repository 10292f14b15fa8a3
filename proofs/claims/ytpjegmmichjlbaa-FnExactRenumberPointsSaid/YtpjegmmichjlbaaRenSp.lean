/- RenumberPoints: its model. -/
import Derived.Test.YtpjegmmichjlbaaRen
namespace Go.Proofs.Ytpjegmmichjlbaa
set_option linter.unusedVariables false
set_option linter.unusedSimpArgs false
open Go Go.RowKit Go.Shelf
set_option maxRecDepth 100000 in
set_option maxHeartbeats 2000000 in
theorem spec31 (n k : Int) (bs : List Nat) (hb : Bys bs) (zs : List Int) (a : Option Addr) (cap : Nat) (w : World) (hs : SlI w a zs) (hl : zs.length ≤ 9223372036854775807) :
    Calls Try.prog 31 #[.agg (ccells n k bs).toArray, .slice a zs.length cap] w fun e w' => e = .returned (rnOut n k bs zs) ∧ Below w.heap.size w w' := by
  have HS := hidd (size_c26 n k hb)
  have Hz := zero26
  have HZS := hidd size_z26
  have HZ1 := hidd (ccells_one 0 0 zbl)
  have HC0 := hidd (show (ccells n k bs).toArray[0]? = some (.int .i64 n) from rfl)
  have hmk : ∀ w0, w0 = (w.alloc (.cells (ccells n k bs).toArray 29)).alloc (.cells (ccells 0 0 zbl).toArray 29) → ∀ w1, Below w0.heap.size w0 w1 →
      Blk w1 w.heap.size (ccells n k bs).toArray 29 ∧ Blk w1 (w.heap.size + 1) (ccells 0 0 zbl).toArray 29 ∧ SlI w1 a zs ∧ Below w.heap.size w w1 := by
    rintro w0 rfl w1 hb1
    have hb := ((Below.refl w.heap.size w).alloc (Nat.le_refl _) (.cells (ccells n k bs).toArray 29)).alloc (by simp) (.cells (ccells 0 0 zbl).toArray 29)
    have hbl := hb.trans (hb1.mono (by simp; omega))
    exact ⟨((Blk.new _ _ _ _ rfl).alloc _).below hb1 (by simp; omega), (Blk.new _ _ _ _ (by simp)).below hb1 (by simp), hs.below hbl (Nat.le_refl _), hbl⟩
  have HMK := hidd hmk
  clear hmk hs
  cases hi : isCol n k bs with
  | false =>
    have H := hidd (rnOut_bad (rnCode_1 (zs := zs) hi) (by omega))
    have HI := hidd hi
    clear hi
    go_enter Try.func31, Try.ntmps31
    go_wp2_with (refine wpList_load_row rfl 29 (.tmp 2) rfl w.heap.size rfl 29 _ (0,0) _ ((Blk.new _ _ _ _ rfl).alloc _) Try.underlying29 rfl HS.out ?_)
    refine (l01Is_any n k bs hb _).mono ?_
    rintro e w1 ⟨rfl, hb1⟩
    rw [HI.out]
    have G := hidd (HMK.out _ rfl _ hb1)
    have R := hidd (And.intro G.out.2.1 (And.intro (G.out.2.1.rowSame (ccells 0 0 zbl).toArray) (below_setRow G.out.2.2.2 (g := w.heap.size + 1) (by omega) (ccells 0 0 zbl).toArray)))
    clear hb1
    go_wp2_with (first
      | (refine wpList_zero26 rfl rfl ?_)
      | (refine wpList_store_row rfl 29 (.tmp 4) (.tmp 10) rfl (w.heap.size + 1) _ rfl rfl 29 _ R.out.1 HZS.out rfl HZ1.out ?_))
    exact ret_col rfl zbl_bys rfl R.out.2.1 rfl rfl ⟨by rw [H.out]; rfl, R.out.2.2⟩
  | true =>
    have HI := hidd hi
    obtain ⟨n1, n2, k1, k2⟩ := isCol_bd hi
    cases ho : ordB zs n with
    | false =>
      have H := hidd (rnOut_bad (rnCode_2 hi ho) (by omega))
      have HO := hidd ho
      clear hi ho
      go_enter Try.func31, Try.ntmps31
      go_wp2_with (refine wpList_load_row rfl 29 (.tmp 2) rfl w.heap.size rfl 29 _ (0,0) _ ((Blk.new _ _ _ _ rfl).alloc _) Try.underlying29 rfl HS.out ?_)
      refine (l01Is_any n k bs hb _).mono ?_
      rintro e w1 ⟨rfl, hb1⟩
      rw [HI.out]
      have G := hidd (HMK.out _ rfl _ hb1)
      have c1 := G.out.1.cell HC0.out
      clear hb1
      go_wp2_with fail
      refine (order63 zs a cap n _ G.out.2.2.1 hl n1 n2).mono ?_
      rintro e w2 ⟨rfl, hb2⟩
      rw [HO.out]
      have z2 := G.out.2.1.below hb2 G.out.2.1.lt
      have b2 := G.out.2.2.2.trans (hb2.mono G.out.2.2.2.size)
      have R := hidd (And.intro z2 (And.intro (z2.rowSame (ccells 0 0 zbl).toArray) (below_setRow b2 (g := w.heap.size + 1) (by omega) (ccells 0 0 zbl).toArray)))
      clear hb2 z2 b2 c1
      go_wp2_with (first
        | (refine wpList_zero26 rfl rfl ?_)
        | (refine wpList_store_row rfl 29 (.tmp 4) (.tmp 17) rfl (w.heap.size + 1) _ rfl rfl 29 _ R.out.1 HZS.out rfl HZ1.out ?_))
      exact ret_col rfl zbl_bys rfl R.out.2.1 rfl rfl ⟨by rw [H.out]; rfl, R.out.2.2⟩
    | true =>
      have H := hidd (rnOut_good (rnCode_0 hi ho))
      have HO := hidd ho
      obtain ⟨N, rfl⟩ := Int.eq_ofNat_of_zero_le (show 0 ≤ n by omega)
      rw [Int.toNat_natCast] at H
      obtain ⟨PB, hPB⟩ : ∃ PB, PB = rnB N zs bs := ⟨_, rfl⟩
      have HPB := hidd (show Bys PB by rw [hPB]; exact rnF_bys hb _ _ zbl_bys)
      have HT := hidd (fun W (hs : SlI W a zs) => renamed64 N k bs hb zs a cap W hs (by omega) (by omega) ho)
      rw [← hPB] at H
      have HPE := hidd hPB
      have HPS := hidd (size_c26 (N : Int) k HPB.out)
      have HPO := hidd (size_cc 0 0 (N : Int) k zbl_bys HPB.out)
      have HPA := hidd (ccells_one (N : Int) k PB)
      clear hi ho hPB
      go_enter Try.func31, Try.ntmps31
      go_wp2_with (refine wpList_load_row rfl 29 (.tmp 2) rfl w.heap.size rfl 29 _ (0,0) _ ((Blk.new _ _ _ _ rfl).alloc _) Try.underlying29 rfl HS.out ?_)
      refine (l01Is_any (N : Int) k bs hb _).mono ?_
      rintro e w1 ⟨rfl, hb1⟩
      rw [HI.out]
      have G := hidd (HMK.out _ rfl _ hb1)
      have c1 := G.out.1.cell HC0.out
      clear hb1
      go_wp2_with fail
      refine (order63 zs a cap (N : Int) _ G.out.2.2.1 hl n1 n2).mono ?_
      rintro e w2 ⟨rfl, hb2⟩
      rw [HO.out]
      have G2 := hidd (And.intro (G.out.1.below hb2 G.out.1.lt) (And.intro (G.out.2.1.below hb2 G.out.2.1.lt) (And.intro (G.out.2.2.1.below hb2 (Nat.le_refl _)) (G.out.2.2.2.trans (hb2.mono G.out.2.2.2.size)))))
      clear hb2 c1
      go_wp2_with (refine wpList_load_row rfl 29 (.tmp 2) rfl w.heap.size rfl 29 _ (0,0) _ G2.out.1 Try.underlying29 rfl HS.out ?_)
      refine (HT.out _ G2.out.2.2.1).mono ?_
      rintro e w3 ⟨he, hb3⟩
      rw [← HPE.out] at he
      subst he
      have z3 := G2.out.2.1.below hb3 G2.out.2.1.lt
      have b3 := G2.out.2.2.2.trans (hb3.mono G2.out.2.2.2.size)
      have R := hidd (And.intro z3 (And.intro (z3.rowSame (ccells (N : Int) k PB).toArray) (below_setRow b3 (g := w.heap.size + 1) (by omega) (ccells (N : Int) k PB).toArray)))
      clear hb3 z3 b3
      go_wp2_with (refine wpList_store_row rfl 29 (.tmp 4) (.tmp 20) rfl (w.heap.size + 1) _ rfl rfl 29 _ R.out.1 HPS.out HPO.out HPA.out ?_)
      exact ret_col rfl HPB.out rfl R.out.2.1 rfl rfl ⟨by rw [H.out]; rfl, R.out.2.2⟩
end Go.Proofs.Ytpjegmmichjlbaa
