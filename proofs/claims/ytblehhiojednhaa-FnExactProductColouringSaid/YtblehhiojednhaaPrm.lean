/- ProductColouring: the program's entry. -/
import Derived.Test.YtblehhiojednhaaPri
namespace Go.Proofs.Ytblehhiojednhaa
set_option linter.unusedVariables false
set_option linter.unusedSimpArgs false
open Go Go.RowKit Go.Shelf
set_option maxRecDepth 100000 in
set_option maxHeartbeats 4000000 in
theorem impl6_bad (n k : Int) (bs : List Nat) (hb : Bys bs) (m l : Int) (cs : List Nat) (hcb : Bys cs) (w : World) (c : Int) (hc : prCode n k bs m l cs = c) (hc0 : c ≠ 0) :
    Calls Try.prog 6 #[.agg (ccells n k bs).toArray, .agg (ccells m l cs).toArray] w fun e w' => e = .returned (prOut n k bs m l cs) ∧ Below w.heap.size w w' := by
  have HO := hidd (prOut_bad hc hc0)
  have HS := hidd (size_c26 n k hb)
  have HT := hidd (size_c26 m l hcb)
  have HZ := hidd (size_c26 0 0 zbl_bys)
  have HZA := hidd (ccells_one 0 0 zbl)
  have Hz := zero26
  have HWX := hidd (show Blk (((w.alloc (.cells (ccells n k bs).toArray 25)).alloc (.cells (ccells m l cs).toArray 25)).alloc (.cells (ccells 0 0 zbl).toArray 25)) w.heap.size (ccells n k bs).toArray 25 ∧ Blk (((w.alloc (.cells (ccells n k bs).toArray 25)).alloc (.cells (ccells m l cs).toArray 25)).alloc (.cells (ccells 0 0 zbl).toArray 25)) (w.heap.size + 1) (ccells m l cs).toArray 25 ∧ Blk (((w.alloc (.cells (ccells n k bs).toArray 25)).alloc (.cells (ccells m l cs).toArray 25)).alloc (.cells (ccells 0 0 zbl).toArray 25)) (w.heap.size + 1 + 1) (ccells 0 0 zbl).toArray 25 ∧ Below w.heap.size w (((w.alloc (.cells (ccells n k bs).toArray 25)).alloc (.cells (ccells m l cs).toArray 25)).alloc (.cells (ccells 0 0 zbl).toArray 25)) from
    ⟨((Blk.new _ _ _ _ rfl).alloc _).alloc _, (Blk.new _ _ _ _ (by simp)).alloc _, Blk.new _ _ _ _ (by simp), (((Below.refl w.heap.size w).alloc (Nat.le_refl _) _).alloc (by simp) _).alloc (by simp; omega) _⟩)
  cases hx : isCol n k bs with
  | false =>
    obtain rfl : c = 1 := hc.symm.trans (prCode_1 (by rw [hx]; simp))
    have HX := hidd hx
    clear hx hc hc0
    go_enter Try.func6, Try.ntmps6
    go_wp2_with (refine wpList_load_row rfl 25 (.tmp 2) rfl w.heap.size rfl 25 _ (0,0) _ HWX.out.1 Try.underlying25 rfl HS.out ?_)
    refine (implIs_any n k bs hb _).mono ?_
    rintro e w1 ⟨rfl, hb1⟩
    rw [HX.out]
    have g1 := HWX.out.2.2.1.below hb1 HWX.out.2.2.1.lt
    have g2 := HWX.out.2.2.2.trans (hb1.mono HWX.out.2.2.2.size)
    clear hb1
    have G := hidd (And.intro g1 (And.intro (g1.rowSame (ccells 0 0 zbl).toArray) (below_setRow g2 (g := w.heap.size + 1 + 1) (by omega) (ccells 0 0 zbl).toArray)))
    clear g1 g2
    go_wp2_with (first | (refine wpList_zero26 rfl rfl ?_) | (refine wpList_store_row rfl 25 (.tmp 4) (.tmp 16) rfl (w.heap.size + 1 + 1) _ rfl rfl 25 _ G.out.1 HZ.out rfl HZA.out ?_))
    exact ret_col rfl zbl_bys rfl G.out.2.1 rfl rfl ⟨by rw [HO.out]; rfl, G.out.2.2⟩
  | true =>
    cases hy : isCol m l cs with
    | false =>
      obtain rfl : c = 1 := hc.symm.trans (prCode_1 (by rw [hy]; simp))
      have HX := hidd hx
      have HY := hidd hy
      clear hx hy hc hc0
      go_enter Try.func6, Try.ntmps6
      go_wp2_with (refine wpList_load_row rfl 25 (.tmp 2) rfl w.heap.size rfl 25 _ (0,0) _ HWX.out.1 Try.underlying25 rfl HS.out ?_)
      refine (implIs_any n k bs hb _).mono ?_
      rintro e w1 ⟨rfl, hb1⟩
      rw [HX.out]
      have G1 := hidd (And.intro (HWX.out.2.1.below hb1 HWX.out.2.1.lt) (And.intro (HWX.out.2.2.1.below hb1 HWX.out.2.2.1.lt) (And.intro (HWX.out.2.2.2.trans (hb1.mono HWX.out.2.2.2.size)) (HWX.out.1.below hb1 HWX.out.1.lt))))
      clear hb1
      go_wp2_with (refine wpList_load_row_want rfl 25 (.tmp 3) rfl (w.heap.size + 1) rfl 25 _ (0,0) _ G1.out.1 Try.underlying25 rfl HT.out ?_)
      refine (implIs_any m l cs hcb _).mono ?_
      rintro e w2 ⟨rfl, hb1⟩
      rw [HY.out]
      have g1 := G1.out.2.1.below hb1 G1.out.2.1.lt
      have g2 := G1.out.2.2.1.trans (hb1.mono G1.out.2.2.1.size)
      clear hb1
      have G := hidd (And.intro g1 (And.intro (g1.rowSame (ccells 0 0 zbl).toArray) (below_setRow g2 (g := w.heap.size + 1 + 1) (by omega) (ccells 0 0 zbl).toArray)))
      clear g1 g2
      go_wp2_with (first | (refine wpList_zero26 rfl rfl ?_) | (refine wpList_store_row rfl 25 (.tmp 4) (.tmp 16) rfl (w.heap.size + 1 + 1) _ rfl rfl 25 _ G.out.1 HZ.out rfl HZA.out ?_))
      exact ret_col rfl zbl_bys rfl G.out.2.1 rfl rfl ⟨by rw [HO.out]; rfl, G.out.2.2⟩
    | true =>
      have hlim : ¬ (n * m ≤ 17 ∧ k + l ≤ 4) := fun h => hc0 (hc.symm.trans (prCode_0 hx hy h))
      obtain rfl : c = 3 := hc.symm.trans (prCode_3 hx hy hlim)
      have b1 := isCol_bd hx
      have b2 := isCol_bd hy
      have hp0 : 0 ≤ n * m := Int.mul_nonneg (by omega) (by omega)
      have hp1 : n * m ≤ 289 := Int.le_trans (Int.mul_le_mul b1.2.1 b2.2.1 (by omega) (by omega)) (by omega)
      have HSH := hidd (fun w => shape47_no (n * m) (k + l) w (by omega))
      have u1 := wrapI (n := n * m) (by omega)
      have u2 := wrapI (n := k + l) (by omega)
      have HX := hidd hx
      have HY := hidd hy
      clear hx hy hc hc0 hlim
      go_enter Try.func6, Try.ntmps6
      go_wp2_with (refine wpList_load_row rfl 25 (.tmp 2) rfl w.heap.size rfl 25 _ (0,0) _ HWX.out.1 Try.underlying25 rfl HS.out ?_)
      refine (implIs_any n k bs hb _).mono ?_
      rintro e w1 ⟨rfl, hb1⟩
      rw [HX.out]
      have G1 := hidd (And.intro (HWX.out.2.1.below hb1 HWX.out.2.1.lt) (And.intro (HWX.out.2.2.1.below hb1 HWX.out.2.2.1.lt) (And.intro (HWX.out.2.2.2.trans (hb1.mono HWX.out.2.2.2.size)) (HWX.out.1.below hb1 HWX.out.1.lt))))
      clear hb1
      go_wp2_with (refine wpList_load_row_want rfl 25 (.tmp 3) rfl (w.heap.size + 1) rfl 25 _ (0,0) _ G1.out.1 Try.underlying25 rfl HT.out ?_)
      refine (implIs_any m l cs hcb _).mono ?_
      rintro e w2 ⟨rfl, hb1⟩
      rw [HY.out]
      have g1 := G1.out.2.1.below hb1 G1.out.2.1.lt
      have g2 := G1.out.2.2.1.trans (hb1.mono G1.out.2.2.1.size)
      have HC := hidd (And.intro (G1.out.2.2.2.below hb1 G1.out.2.2.2.lt) (And.intro (G1.out.1.below hb1 G1.out.1.lt) (And.intro g1 g2)))
      clear hb1 g1 g2
      go_wp2_with fail
      refine wp_region_quiet_at (fun w' => Below w2.heap.size w2 w') rfl (by kernel_rfl) ((Below.refl _ _).drew) ?_
      refine qs rfl (fun KQ hKQ => ?_)
      apply Exists.intro
      refine ⟨fun w' hw' => ?_, ?_⟩
      · go_simp; exact rfl
      go_simp
      refine hKQ _ ?_
      clear hKQ KQ
      refine qs rfl (fun KQ hKQ => ?_)
      apply Exists.intro
      refine ⟨fun w' hw' => ?_, ?_⟩
      · have e1 := (HC.out.1.below hw' HC.out.1.lt).cell (j := 0) (show _ = some (Value.int .i64 n) from rfl); go_simp; exact rfl
      go_simp
      refine hKQ _ ?_
      clear hKQ KQ
      refine qs rfl (fun KQ hKQ => ?_)
      apply Exists.intro
      refine ⟨fun w' hw' => ?_, ?_⟩
      · go_simp; exact rfl
      go_simp
      refine hKQ _ ?_
      clear hKQ KQ
      refine qs rfl (fun KQ hKQ => ?_)
      apply Exists.intro
      refine ⟨fun w' hw' => ?_, ?_⟩
      · have e1 := (HC.out.2.1.below hw' HC.out.2.1.lt).cell (j := 0) (show _ = some (Value.int .i64 m) from rfl); go_simp; exact rfl
      go_simp
      refine hKQ _ ?_
      clear hKQ KQ
      refine qs rfl (fun KQ hKQ => ?_)
      apply Exists.intro
      refine ⟨fun w' hw' => ?_, ?_⟩
      · go_simp; exact rfl
      go_simp
      refine hKQ _ ?_
      clear hKQ KQ
      refine qs rfl (fun KQ hKQ => ?_)
      apply Exists.intro
      refine ⟨fun w' hw' => ?_, ?_⟩
      · go_simp; exact rfl
      go_simp
      refine hKQ _ ?_
      clear hKQ KQ
      refine qs rfl (fun KQ hKQ => ?_)
      apply Exists.intro
      refine ⟨fun w' hw' => ?_, ?_⟩
      · have e1 := (HC.out.1.below hw' HC.out.1.lt).cell (j := 1) (show _ = some (Value.int .i64 k) from rfl); go_simp; exact rfl
      go_simp
      refine hKQ _ ?_
      clear hKQ KQ
      refine qs rfl (fun KQ hKQ => ?_)
      apply Exists.intro
      refine ⟨fun w' hw' => ?_, ?_⟩
      · go_simp; exact rfl
      go_simp
      refine hKQ _ ?_
      clear hKQ KQ
      refine qs rfl (fun KQ hKQ => ?_)
      apply Exists.intro
      refine ⟨fun w' hw' => ?_, ?_⟩
      · have e1 := (HC.out.2.1.below hw' HC.out.2.1.lt).cell (j := 1) (show _ = some (Value.int .i64 l) from rfl); go_simp; exact rfl
      go_simp
      refine hKQ _ ?_
      clear hKQ KQ
      refine qs rfl (fun KQ hKQ => ?_)
      apply Exists.intro
      refine ⟨fun w' hw' => ?_, ?_⟩
      · go_simp; exact rfl
      go_simp
      refine hKQ _ ?_
      clear hKQ KQ
      refine qs rfl (fun KQ hKQ => ?_)
      apply Exists.intro
      refine ⟨fun w' hw' => ?_, ?_⟩
      · go_simp; exact rfl
      go_simp
      refine hKQ _ ?_
      clear hKQ KQ
      refine qs rfl (fun KQ hKQ => ?_)
      apply Exists.intro
      refine ⟨fun w' hw' => ?_, ?_⟩
      · go_simp; exact rfl
      go_simp
      refine hKQ _ ?_
      clear hKQ KQ
      refine wpQuiet_nil ?_
      intro w' hw'
      have HD := hidd (And.intro (HC.out.1.below hw' HC.out.1.lt) (And.intro (HC.out.2.1.below hw' HC.out.2.1.lt) (And.intro (HC.out.2.2.1.below hw' HC.out.2.2.1.lt) (HC.out.2.2.2.trans (hw'.mono HC.out.2.2.2.size)))))
      obtain ⟨wq, hwq⟩ : ∃ wq, wq = w' := ⟨_, rfl⟩
      rw [← hwq] at HD ⊢
      clear hw' hwq
      go_wp2_with fail
      refine (HSH.out _).mono ?_
      rintro e w3 ⟨rfl, rfl⟩
      have g1 := HD.out.2.2.1
      have g2 := HD.out.2.2.2
      have G := hidd (And.intro g1 (And.intro (g1.rowSame (ccells 0 0 zbl).toArray) (below_setRow g2 (g := w.heap.size + 1 + 1) (by omega) (ccells 0 0 zbl).toArray)))
      clear g1 g2
      go_wp2_with (first | (refine wpList_zero26 rfl rfl ?_) | (refine wpList_store_row rfl 25 (.tmp 4) (.tmp 31) rfl (w.heap.size + 1 + 1) _ rfl rfl 25 _ G.out.1 HZ.out rfl HZA.out ?_))
      exact ret_col rfl zbl_bys rfl G.out.2.1 rfl rfl ⟨by rw [HO.out]; rfl, G.out.2.2⟩
set_option maxRecDepth 100000 in
set_option maxHeartbeats 4000000 in
theorem impl6_good (n k : Int) (bs : List Nat) (hb : Bys bs) (m l : Int) (cs : List Nat) (hcb : Bys cs) (w : World) (hx : isCol n k bs = true) (hy : isCol m l cs = true) (h17 : n * m ≤ 17) (h4 : k + l ≤ 4) :
    Calls Try.prog 6 #[.agg (ccells n k bs).toArray, .agg (ccells m l cs).toArray] w fun e w' => e = .returned (prOut n k bs m l cs) ∧ Below w.heap.size w w' := by
  have hmf : ∀ (fn : Fn) (first cap : Array Value) (w : World), (Instr.makeFunc fn first cap).run Try.prog w = .ok (.func fn first cap) w := fun _ _ _ _ => rfl
  have HO := hidd (prOut_good (prCode_0 hx hy ⟨h17, h4⟩))
  have HS := hidd (size_c26 n k hb)
  have HT := hidd (size_c26 m l hcb)
  have HZ := hidd (size_c26 0 0 zbl_bys)
  have HZA := hidd (ccells_one 0 0 zbl)
  have Hz := zero26
  have HWX := hidd (show Blk (((w.alloc (.cells (ccells n k bs).toArray 25)).alloc (.cells (ccells m l cs).toArray 25)).alloc (.cells (ccells 0 0 zbl).toArray 25)) w.heap.size (ccells n k bs).toArray 25 ∧ Blk (((w.alloc (.cells (ccells n k bs).toArray 25)).alloc (.cells (ccells m l cs).toArray 25)).alloc (.cells (ccells 0 0 zbl).toArray 25)) (w.heap.size + 1) (ccells m l cs).toArray 25 ∧ Blk (((w.alloc (.cells (ccells n k bs).toArray 25)).alloc (.cells (ccells m l cs).toArray 25)).alloc (.cells (ccells 0 0 zbl).toArray 25)) (w.heap.size + 1 + 1) (ccells 0 0 zbl).toArray 25 ∧ Below w.heap.size w (((w.alloc (.cells (ccells n k bs).toArray 25)).alloc (.cells (ccells m l cs).toArray 25)).alloc (.cells (ccells 0 0 zbl).toArray 25)) from
    ⟨((Blk.new _ _ _ _ rfl).alloc _).alloc _, (Blk.new _ _ _ _ (by simp)).alloc _, Blk.new _ _ _ _ (by simp), (((Below.refl w.heap.size w).alloc (Nat.le_refl _) _).alloc (by simp) _).alloc (by simp; omega) _⟩)
  have b1 := isCol_bd hx
  have b2 := isCol_bd hy
  have hp0 : 1 ≤ n * m := Int.le_trans (show (1 : Int) ≤ 1 * 1 by omega) (Int.mul_le_mul b1.1 b2.1 (by omega) (by omega))
  have u2 := wrapI (n := k + l) (by omega)
  obtain ⟨r, hr⟩ : ∃ r : Nat → Nat → Int, r = prR k m.toNat bs cs := ⟨_, rfl⟩
  have HRB := hidd (show ∀ lo hi, 0 ≤ r lo hi ∧ r lo hi < 256 by rw [hr]; exact prR_bd hb hcb hx hy)
  have HR := hidd hr
  obtain ⟨N, hN⟩ : ∃ N : Nat, n * m = (N : Int) := ⟨(n * m).toNat, by omega⟩
  have HSH := hidd (fun w => shape47_yes (N : Int) (k + l) w (by omega) (by omega) (by omega) h4)
  have u1 := wrapI (n := (N : Int)) (by omega)
  have HRO := hidd (fun (bx bY : Nat) (W : World) (h1 : Blk W bx (ccells n k bs).toArray 25) (h2 : Blk W bY (ccells m l cs).toArray 25) => show Rule N 15 #[.pointer (some ⟨bY, 0, none⟩), .pointer (some ⟨bx, 0, none⟩)] r W from by
    intro x W1 hbl
    obtain ⟨hx1, hx2, hx3⟩ := x.2
    rw [hr]
    exact rule15 n k bs hb m l cs hcb bx bY W1 hx hy h17 (h1.below hbl h1.lt) (h2.below hbl h2.lt) x.1.2.1 x.1.2.2 hx2 (by omega))
  have HPT := hidd (fun (bx bY : Nat) (W : World) (h1 : Blk W bx (ccells n k bs).toArray 25) (h2 : Blk W bY (ccells m l cs).toArray 25) => paint52 N (k + l) 15 #[.pointer (some ⟨bY, 0, none⟩), .pointer (some ⟨bx, 0, none⟩)] r W (by omega) (by omega) (fun x => HRB.out _ _) (enters_of Try.func15 (by kernel_rfl) rfl) (HRO.out bx bY W h1 h2))
  have HPB := hidd (paintB_bys (N := N) HRB.out)
  have HPS := hidd (size_c26 (N : Int) (k + l) HPB.out)
  have HPO := hidd (size_cc 0 0 (N : Int) (k + l) zbl_bys HPB.out)
  have HPA := hidd (ccells_one (N : Int) (k + l) (paintB N r))
  have HNN := hidd (show (n * m).toNat = N by omega)
  have HNM := hidd hN
  have HX := hidd hx
  have HY := hidd hy
  clear hx hy hr
  go_enter Try.func6, Try.ntmps6
  go_wp2_with (refine wpList_load_row rfl 25 (.tmp 2) rfl w.heap.size rfl 25 _ (0,0) _ HWX.out.1 Try.underlying25 rfl HS.out ?_)
  refine (implIs_any n k bs hb _).mono ?_
  rintro e w1 ⟨rfl, hb1⟩
  rw [HX.out]
  have G1 := hidd (And.intro (HWX.out.2.1.below hb1 HWX.out.2.1.lt) (And.intro (HWX.out.2.2.1.below hb1 HWX.out.2.2.1.lt) (And.intro (HWX.out.2.2.2.trans (hb1.mono HWX.out.2.2.2.size)) (HWX.out.1.below hb1 HWX.out.1.lt))))
  clear hb1
  go_wp2_with (refine wpList_load_row_want rfl 25 (.tmp 3) rfl (w.heap.size + 1) rfl 25 _ (0,0) _ G1.out.1 Try.underlying25 rfl HT.out ?_)
  refine (implIs_any m l cs hcb _).mono ?_
  rintro e w2 ⟨rfl, hb1⟩
  rw [HY.out]
  have g1 := G1.out.2.1.below hb1 G1.out.2.1.lt
  have g2 := G1.out.2.2.1.trans (hb1.mono G1.out.2.2.1.size)
  have HC := hidd (And.intro (G1.out.2.2.2.below hb1 G1.out.2.2.2.lt) (And.intro (G1.out.1.below hb1 G1.out.1.lt) (And.intro g1 g2)))
  clear hb1 g1 g2
  go_wp2_with fail
  refine wp_region_quiet_at (fun w' => Below w2.heap.size w2 w') rfl (by kernel_rfl) ((Below.refl _ _).drew) ?_
  refine qs rfl (fun KQ hKQ => ?_)
  apply Exists.intro
  refine ⟨fun w' hw' => ?_, ?_⟩
  · go_simp; exact rfl
  go_simp
  refine hKQ _ ?_
  clear hKQ KQ
  refine qs rfl (fun KQ hKQ => ?_)
  apply Exists.intro
  refine ⟨fun w' hw' => ?_, ?_⟩
  · have e1 := (HC.out.1.below hw' HC.out.1.lt).cell (j := 0) (show _ = some (Value.int .i64 n) from rfl); go_simp; exact rfl
  go_simp
  refine hKQ _ ?_
  clear hKQ KQ
  refine qs rfl (fun KQ hKQ => ?_)
  apply Exists.intro
  refine ⟨fun w' hw' => ?_, ?_⟩
  · go_simp; exact rfl
  go_simp
  refine hKQ _ ?_
  clear hKQ KQ
  refine qs rfl (fun KQ hKQ => ?_)
  apply Exists.intro
  refine ⟨fun w' hw' => ?_, ?_⟩
  · have e1 := (HC.out.2.1.below hw' HC.out.2.1.lt).cell (j := 0) (show _ = some (Value.int .i64 m) from rfl); go_simp; exact rfl
  go_simp
  refine hKQ _ ?_
  clear hKQ KQ
  refine qs rfl (fun KQ hKQ => ?_)
  apply Exists.intro
  refine ⟨fun w' hw' => ?_, ?_⟩
  · go_simp; exact rfl
  go_simp
  refine hKQ _ ?_
  clear hKQ KQ
  refine qs rfl (fun KQ hKQ => ?_)
  apply Exists.intro
  refine ⟨fun w' hw' => ?_, ?_⟩
  · go_simp; exact rfl
  go_simp
  refine hKQ _ ?_
  clear hKQ KQ
  refine qs rfl (fun KQ hKQ => ?_)
  apply Exists.intro
  refine ⟨fun w' hw' => ?_, ?_⟩
  · have e1 := (HC.out.1.below hw' HC.out.1.lt).cell (j := 1) (show _ = some (Value.int .i64 k) from rfl); go_simp; exact rfl
  go_simp
  refine hKQ _ ?_
  clear hKQ KQ
  refine qs rfl (fun KQ hKQ => ?_)
  apply Exists.intro
  refine ⟨fun w' hw' => ?_, ?_⟩
  · go_simp; exact rfl
  go_simp
  refine hKQ _ ?_
  clear hKQ KQ
  refine qs rfl (fun KQ hKQ => ?_)
  apply Exists.intro
  refine ⟨fun w' hw' => ?_, ?_⟩
  · have e1 := (HC.out.2.1.below hw' HC.out.2.1.lt).cell (j := 1) (show _ = some (Value.int .i64 l) from rfl); go_simp; exact rfl
  go_simp
  refine hKQ _ ?_
  clear hKQ KQ
  refine qs rfl (fun KQ hKQ => ?_)
  apply Exists.intro
  refine ⟨fun w' hw' => ?_, ?_⟩
  · go_simp; exact rfl
  go_simp
  refine hKQ _ ?_
  clear hKQ KQ
  refine qs rfl (fun KQ hKQ => ?_)
  apply Exists.intro
  refine ⟨fun w' hw' => ?_, ?_⟩
  · go_simp; exact rfl
  go_simp
  refine hKQ _ ?_
  clear hKQ KQ
  refine qs rfl (fun KQ hKQ => ?_)
  apply Exists.intro
  refine ⟨fun w' hw' => ?_, ?_⟩
  · go_simp; exact rfl
  go_simp
  refine hKQ _ ?_
  clear hKQ KQ
  refine wpQuiet_nil ?_
  intro w' hw'
  have HD := hidd (And.intro (HC.out.1.below hw' HC.out.1.lt) (And.intro (HC.out.2.1.below hw' HC.out.2.1.lt) (And.intro (HC.out.2.2.1.below hw' HC.out.2.2.1.lt) (HC.out.2.2.2.trans (hw'.mono HC.out.2.2.2.size)))))
  obtain ⟨wq, hwq⟩ : ∃ wq, wq = w' := ⟨_, rfl⟩
  rw [← hwq] at HD ⊢
  clear hw' hwq
  go_wp2_with fail
  refine (HSH.out _).mono ?_
  rintro e w3 ⟨rfl, rfl⟩
  go_wp2_with fail
  refine (HPT.out _ _ _ HD.out.1 HD.out.2.1).mono ?_
  rintro e w4 ⟨rfl, hb4⟩
  have z1 := HD.out.2.2.1.below hb4 HD.out.2.2.1.lt
  have z2 := HD.out.2.2.2.trans (hb4.mono HD.out.2.2.2.size)
  have R := hidd (And.intro z1 (And.intro (z1.rowSame (ccells (N : Int) (k + l) (paintB N r)).toArray) (below_setRow z2 (g := w.heap.size + 1 + 1) (by omega) (ccells (N : Int) (k + l) (paintB N r)).toArray)))
  clear hb4 z1 z2
  go_wp2_with (refine wpList_store_row rfl 25 (.tmp 4) (.tmp 35) rfl (w.heap.size + 1 + 1) _ rfl rfl 25 _ R.out.1 HPS.out HPO.out HPA.out ?_)
  exact ret_col rfl HPB.out rfl R.out.2.1 rfl rfl ⟨by rw [HO.out, HNN.out, HNM.out, HR.out]; rfl, R.out.2.2⟩
end Go.Proofs.Ytblehhiojednhaa
