/- ProductColouring: its model. -/
import Derived.Test.YtblehhiojednhaaPrd
namespace Go.Proofs.Ytblehhiojednhaa
set_option linter.unusedVariables false
set_option linter.unusedSimpArgs false
open Go Go.RowKit Go.Shelf
theorem wrapI {n : Int} (h : -9223372036854775808 ≤ n ∧ n ≤ 9223372036854775807) : IntKind.i64.wrap n = n := by rw [IntKind.wrap_i64]; omega
def RelPr (n k : Int) (bs : List Nat) (m l : Int) (cs : List Nat) (N K : Int) (r : Nat → Nat → Int) (w : World) (g j i : Nat) (wr : World) : Prop :=
  Blk wr w.heap.size (ccells n k bs).toArray 25 ∧ Blk wr (w.heap.size + 1) (ccells m l cs).toArray 25 ∧ Blk wr (w.heap.size + 1 + 1) (ccells 0 0 zbl).toArray 25 ∧ Blk wr g (ccells N K (ptB r j i)).toArray 25 ∧ Below w.heap.size w wr
/-- A number of the product, told by its two. -/
theorem quo_facts {n m : Int} {i : Nat} (n1 : 1 ≤ n) (m1 : 1 ≤ m) (h : (i : Int) < n * m) : ((i : Int)).tdiv m = ((i / m.toNat : Nat) : Int) ∧ ((i : Int)).tmod m = ((i % m.toNat : Nat) : Int) ∧ ((i / m.toNat : Nat) : Int) < n ∧ ((i % m.toNat : Nat) : Int) < m := by
  obtain ⟨M, rfl⟩ : ∃ M : Nat, m = (M : Int) := ⟨m.toNat, by omega⟩
  obtain ⟨A, rfl⟩ : ∃ A : Nat, n = (A : Int) := ⟨n.toNat, by omega⟩
  have h' : i < A * M := by exact_mod_cast h
  have hM : 0 < M := by omega
  refine ⟨by simp [Int.tdiv], by simp [Int.tmod], ?_, ?_⟩
  · rw [Int.toNat_natCast]; exact_mod_cast (Nat.div_lt_iff_lt_mul hM).2 h'
  · rw [Int.toNat_natCast]; exact_mod_cast Nat.mod_lt i hM
set_option maxRecDepth 100000 in
set_option maxHeartbeats 4000000 in
theorem spec4_bad (n k : Int) (bs : List Nat) (hb : Bys bs) (m l : Int) (cs : List Nat) (hcb : Bys cs) (w : World) (c : Int) (hc : prCode n k bs m l cs = c) (hc0 : c ≠ 0) :
    Calls Try.prog 4 #[.agg (ccells n k bs).toArray, .agg (ccells m l cs).toArray] w fun e w' => e = .returned (prOut n k bs m l cs) ∧ Below w.heap.size w w' := by
  have HS := hidd (size_c26 n k hb)
  have HT := hidd (size_c26 m l hcb)
  have HZ := hidd (size_c26 0 0 zbl_bys)
  have HZA := hidd (ccells_one 0 0 zbl)
  have Hz := zero26
  have HO := hidd (prOut_bad hc hc0)
  have HWX := hidd (show Blk (((w.alloc (.cells (ccells n k bs).toArray 25)).alloc (.cells (ccells m l cs).toArray 25)).alloc (.cells (ccells 0 0 zbl).toArray 25)) w.heap.size (ccells n k bs).toArray 25 ∧ Blk (((w.alloc (.cells (ccells n k bs).toArray 25)).alloc (.cells (ccells m l cs).toArray 25)).alloc (.cells (ccells 0 0 zbl).toArray 25)) (w.heap.size + 1) (ccells m l cs).toArray 25 ∧ Blk (((w.alloc (.cells (ccells n k bs).toArray 25)).alloc (.cells (ccells m l cs).toArray 25)).alloc (.cells (ccells 0 0 zbl).toArray 25)) (w.heap.size + 1 + 1) (ccells 0 0 zbl).toArray 25 ∧ Below w.heap.size w (((w.alloc (.cells (ccells n k bs).toArray 25)).alloc (.cells (ccells m l cs).toArray 25)).alloc (.cells (ccells 0 0 zbl).toArray 25)) from
    ⟨((Blk.new _ _ _ _ rfl).alloc _).alloc _, (Blk.new _ _ _ _ (by simp)).alloc _, Blk.new _ _ _ _ (by simp), (((Below.refl w.heap.size w).alloc (Nat.le_refl _) _).alloc (by simp) _).alloc (by simp; omega) _⟩)
  cases hx : isCol n k bs with
  | false =>
    obtain rfl : c = 1 := hc.symm.trans (prCode_1 (by rw [hx]; simp))
    have HX := hidd hx
    clear hx hc hc0
    go_enter Try.func4, Try.ntmps4
    go_wp2_with (refine wpList_load_row rfl 25 (.tmp 2) rfl w.heap.size rfl 25 _ (0,0) _ HWX.out.1 Try.underlying25 rfl HS.out ?_)
    refine (l01Is_any n k bs hb _).mono ?_
    rintro e w1 ⟨rfl, hb1⟩
    rw [HX.out]
    have g1 := HWX.out.2.2.1.below hb1 HWX.out.2.2.1.lt
    have g2 := HWX.out.2.2.2.trans (hb1.mono HWX.out.2.2.2.size)
    have G := hidd (And.intro g1 (And.intro (g1.rowSame (ccells 0 0 zbl).toArray) (below_setRow g2 (g := w.heap.size + 1 + 1) (by omega) (ccells 0 0 zbl).toArray)))
    clear hb1 g1 g2
    go_wp2_with (first | (refine wpList_zero26 rfl rfl ?_) | (refine wpList_store_row rfl 25 (.tmp 4) (.tmp 19) rfl (w.heap.size + 1 + 1) _ rfl rfl 25 _ G.out.1 HZ.out rfl HZA.out ?_))
    exact ret_col rfl zbl_bys rfl G.out.2.1 rfl rfl ⟨by rw [HO.out]; rfl, G.out.2.2⟩
  | true =>
    cases hy : isCol m l cs with
    | false =>
      obtain rfl : c = 1 := hc.symm.trans (prCode_1 (by rw [hy]; simp))
      have HX := hidd hx
      have HY := hidd hy
      clear hx hy hc hc0
      go_enter Try.func4, Try.ntmps4
      go_wp2_with (refine wpList_load_row rfl 25 (.tmp 2) rfl w.heap.size rfl 25 _ (0,0) _ HWX.out.1 Try.underlying25 rfl HS.out ?_)
      refine (l01Is_any n k bs hb _).mono ?_
      rintro e w1 ⟨rfl, hb1⟩
      rw [HX.out]
      have G1 := hidd (And.intro (HWX.out.2.1.below hb1 HWX.out.2.1.lt) (And.intro (HWX.out.2.2.1.below hb1 HWX.out.2.2.1.lt) (HWX.out.2.2.2.trans (hb1.mono HWX.out.2.2.2.size))))
      clear hb1
      go_wp2_with (refine wpList_load_row_want rfl 25 (.tmp 3) rfl (w.heap.size + 1) rfl 25 _ (0,0) _ G1.out.1 Try.underlying25 rfl HT.out ?_)
      refine (l01Is_any m l cs hcb _).mono ?_
      rintro e w2 ⟨rfl, hb1⟩
      rw [HY.out]
      have g1 := G1.out.2.1.below hb1 G1.out.2.1.lt
      have g2 := G1.out.2.2.trans (hb1.mono G1.out.2.2.size)
      have G := hidd (And.intro g1 (And.intro (g1.rowSame (ccells 0 0 zbl).toArray) (below_setRow g2 (g := w.heap.size + 1 + 1) (by omega) (ccells 0 0 zbl).toArray)))
      clear hb1 g1 g2
      go_wp2_with (first | (refine wpList_zero26 rfl rfl ?_) | (refine wpList_store_row rfl 25 (.tmp 4) (.tmp 19) rfl (w.heap.size + 1 + 1) _ rfl rfl 25 _ G.out.1 HZ.out rfl HZA.out ?_))
      exact ret_col rfl zbl_bys rfl G.out.2.1 rfl rfl ⟨by rw [HO.out]; rfl, G.out.2.2⟩
    | true =>
      have hlim : ¬ (n * m ≤ 17 ∧ k + l ≤ 4) := fun h => hc0 (hc.symm.trans (prCode_0 hx hy h))
      obtain rfl : c = 3 := hc.symm.trans (prCode_3 hx hy hlim)
      have b1 := isCol_bd hx
      have b2 := isCol_bd hy
      have hp0 : 0 ≤ n * m := Int.mul_nonneg (by omega) (by omega)
      have hp1 : n * m ≤ 289 := Int.le_trans (Int.mul_le_mul b1.2.1 b2.2.1 (by omega) (by omega)) (by omega)
      have HX := hidd hx
      have HY := hidd hy
      clear hx hy hc hc0
      go_enter Try.func4, Try.ntmps4
      go_wp2_with (refine wpList_load_row rfl 25 (.tmp 2) rfl w.heap.size rfl 25 _ (0,0) _ HWX.out.1 Try.underlying25 rfl HS.out ?_)
      refine (l01Is_any n k bs hb _).mono ?_
      rintro e w1 ⟨rfl, hb1⟩
      rw [HX.out]
      have G1 := hidd (And.intro (HWX.out.2.1.below hb1 HWX.out.2.1.lt) (And.intro (HWX.out.2.2.1.below hb1 HWX.out.2.2.1.lt) (And.intro (HWX.out.2.2.2.trans (hb1.mono HWX.out.2.2.2.size)) (HWX.out.1.below hb1 HWX.out.1.lt))))
      clear hb1
      go_wp2_with (refine wpList_load_row_want rfl 25 (.tmp 3) rfl (w.heap.size + 1) rfl 25 _ (0,0) _ G1.out.1 Try.underlying25 rfl HT.out ?_)
      refine (l01Is_any m l cs hcb _).mono ?_
      rintro e w2 ⟨rfl, hb1⟩
      rw [HY.out]
      have g1 := G1.out.2.1.below hb1 G1.out.2.1.lt
      have g2 := G1.out.2.2.1.trans (hb1.mono G1.out.2.2.1.size)
      have c0 := (G1.out.2.2.2.below hb1 G1.out.2.2.2.lt).cell (j := 0) (show _ = some (Value.int .i64 n) from rfl)
      have c1 := (G1.out.2.2.2.below hb1 G1.out.2.2.2.lt).cell (j := 1) (show _ = some (Value.int .i64 k) from rfl)
      have c2 := (G1.out.1.below hb1 G1.out.1.lt).cell (j := 0) (show _ = some (Value.int .i64 m) from rfl)
      have c3 := (G1.out.1.below hb1 G1.out.1.lt).cell (j := 1) (show _ = some (Value.int .i64 l) from rfl)
      have G := hidd (And.intro g1 (And.intro (g1.rowSame (ccells 0 0 zbl).toArray) (below_setRow g2 (g := w.heap.size + 1 + 1) (by omega) (ccells 0 0 zbl).toArray)))
      clear hb1 g1 g2
      by_cases h17 : n * m ≤ 17
      · have h4 : ¬ k + l ≤ 4 := fun h => hlim ⟨h17, h⟩
        clear hlim
        go_wp2_with (first | (refine wpList_zero26 rfl rfl ?_) | (refine wpList_store_row rfl 25 (.tmp 4) (.tmp 35) rfl (w.heap.size + 1 + 1) _ rfl rfl 25 _ G.out.1 HZ.out rfl HZA.out ?_))
        exact ret_col rfl zbl_bys rfl G.out.2.1 rfl rfl ⟨by rw [HO.out]; rfl, G.out.2.2⟩
      · clear hlim
        go_wp2_with (first | (refine wpList_zero26 rfl rfl ?_) | (refine wpList_store_row rfl 25 (.tmp 4) (.tmp 35) rfl (w.heap.size + 1 + 1) _ rfl rfl 25 _ G.out.1 HZ.out rfl HZA.out ?_))
        exact ret_col rfl zbl_bys rfl G.out.2.1 rfl rfl ⟨by rw [HO.out]; rfl, G.out.2.2⟩
end Go.Proofs.Ytblehhiojednhaa
