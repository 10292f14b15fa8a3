/- For every two colourings the law FnExactProductColouring returns true: ProductColouring answers as its model does. No condition beside the row's own. -/
import Derived.Test.YtblehhiojednhaaGe
import Derived.Test.YtblehhiojednhaaPrm
import Derived.Deep.RegionHeld2
namespace Go.Proofs.Ytblehhiojednhaa
set_option linter.unusedVariables false
set_option linter.unusedSimpArgs false
open Go Go.RowKit Go.ChangeShapes Go.WideShapes Go.ChangeAt
theorem spec4_any (n k : Int) (bs : List Nat) (hb : Bys bs) (m l : Int) (cs : List Nat) (hcb : Bys cs) (w : World) :
    Calls Try.prog 4 #[.agg (ccells n k bs).toArray, .agg (ccells m l cs).toArray] w fun e w' => e = .returned (prOut n k bs m l cs) ∧ Below w.heap.size w w' := by
  by_cases h : prCode n k bs m l cs = 0
  · have hxy : isCol n k bs = true ∧ isCol m l cs = true := by
      unfold prCode at h
      split at h
      · assumption
      · simp at h
    have hl : n * m ≤ 17 ∧ k + l ≤ 4 := by
      unfold prCode at h
      rw [if_pos hxy] at h
      split at h
      · assumption
      · simp at h
    exact spec4_good n k bs hb m l cs hcb w hxy.1 hxy.2 hl.1 hl.2
  · exact spec4_bad n k bs hb m l cs hcb w _ rfl h
theorem impl6_any (n k : Int) (bs : List Nat) (hb : Bys bs) (m l : Int) (cs : List Nat) (hcb : Bys cs) (w : World) :
    Calls Try.prog 6 #[.agg (ccells n k bs).toArray, .agg (ccells m l cs).toArray] w fun e w' => e = .returned (prOut n k bs m l cs) ∧ Below w.heap.size w w' := by
  by_cases h : prCode n k bs m l cs = 0
  · have hxy : isCol n k bs = true ∧ isCol m l cs = true := by
      unfold prCode at h
      split at h
      · assumption
      · simp at h
    have hl : n * m ≤ 17 ∧ k + l ≤ 4 := by
      unfold prCode at h
      rw [if_pos hxy] at h
      split at h
      · assumption
      · simp at h
    exact impl6_good n k bs hb m l cs hcb w hxy.1 hxy.2 hl.1 hl.2
  · exact impl6_bad n k bs hb m l cs hcb w _ rfl h
set_option maxRecDepth 100000 in
set_option maxHeartbeats 4000000 in
theorem walk3 (n k : Int) (bs : List Nat) (hb : Bys bs) (m l : Int) (cs : List Nat) (hcb : Bys cs) (w : World) :
    Calls Try.prog 3 #[.agg (ccells n k bs).toArray, .agg (ccells m l cs).toArray] w fun e w' => e = .returned (.bool true) ∧ Below w.heap.size w w' := by
  have Hz := zero26
  have HS := hidd (size_c24 n k hb)
  have HT := hidd (size_c24 m l hcb)
  obtain ⟨rn, hrn⟩ : ∃ v, v = prN n k bs m l cs := ⟨_, rfl⟩
  obtain ⟨rk, hrk⟩ : ∃ v, v = prK n k bs m l cs := ⟨_, rfl⟩
  obtain ⟨rb, hrb⟩ : ∃ v, v = prB n k bs m l cs := ⟨_, rfl⟩
  obtain ⟨cd, hcd⟩ : ∃ v, v = prCode n k bs m l cs := ⟨_, rfl⟩
  have hbr : Bys rb := by rw [hrb]; exact prB_bys n k hb m l hcb
  have HV := hidd (show prOut n k bs m l cs = .tuple #[.agg (ccells rn rk rb).toArray, .int .i64 cd] by rw [hrn, hrk, hrb, hcd]; rfl)
  have HSR := hidd (size_c26 rn rk hbr)
  have HOR := hidd (size_cc 0 0 rn rk zbl_bys hbr)
  have HAR := hidd (ccells_one rn rk rb)
  clear hrn hrk hrb hcd
  obtain ⟨W, hW⟩ : ∃ W, W = (w.alloc (.cells (ccells n k bs).toArray 24)).alloc (.cells (ccells m l cs).toArray 24) := ⟨_, rfl⟩
  have HW := hidd (show Blk W w.heap.size (ccells n k bs).toArray 24 ∧ Blk W (w.heap.size + 1) (ccells m l cs).toArray 24 ∧ Below w.heap.size w W by
    rw [hW]
    exact ⟨(Blk.new _ _ _ _ rfl).alloc _, Blk.new _ _ _ _ (by simp), ((Below.refl w.heap.size w).alloc (Nat.le_refl _) _).alloc (by simp) _⟩)
  have HWE := hidd hW
  clear hW
  go_enter Try.func3, Try.ntmps3
  go_wp2_with fail
  rename_i Q1 K1 hK1
  rw [← HWE.out]
  have HRX := hidd (fun (W' : World) (h : Below W.heap.size W W') => (HW.out.1.below h HW.out.1.lt).range 0 (ccells n k bs) (fun j v hj => by simpa using hj))
  have HRY := hidd (fun (W' : World) (h : Below W.heap.size W W') => (HW.out.2.1.below h HW.out.2.1.lt).range 0 (ccells m l cs) (fun j v hj => by simpa using hj))
  have HREST := hidd (show ∀ (b : Nat) (w' : World), Blk w' b (ccells rn rk rb).toArray 25 → Below W.heap.size W w' → K1 { tmps := #[.agg (ccells n k bs).toArray, .agg (ccells m l cs).toArray, .pointer (some ⟨w.heap.size, 0, none⟩), .pointer (some ⟨w.heap.size + 1, 0, none⟩), .bool false, .pointer (some ⟨b, 0, none⟩), .int .i64 cd, undef, undef, .tuple #[.agg (ccells rn rk rb).toArray, .int .i64 cd], .agg (ccells n k bs).toArray, .agg (ccells n k bs).toArray, .agg (ccells m l cs).toArray, .agg (ccells m l cs).toArray, .tuple #[.agg (ccells rn rk rb).toArray, .int .i64 cd], .agg (ccells rn rk rb).toArray, .int .i64 cd, undef, undef, undef, undef, undef, undef, undef, undef, undef, undef, undef, undef, undef, undef, undef, undef, undef], defers := [] } w' from ?rest)
  case rest =>
    intro b1 W2 hb1 hbl1
    refine hK1 _ _ ?_
    clear hK1 HRX HRY
    have HF := hidd (And.intro hb1 (And.intro (HW.out.1.below hbl1 HW.out.1.lt) (And.intro (HW.out.2.1.below hbl1 HW.out.2.1.lt) (HW.out.2.2.trans (hbl1.mono HW.out.2.2.size)))))
    clear hb1 hbl1
    go_wp2_with fail
    rename_i K2 hK2
    have HRX := hidd (fun (W' : World) (h : Below W2.heap.size W2 W') => (HF.out.2.1.below h HF.out.2.1.lt).range 0 (ccells n k bs) (fun j v hj => by simpa using hj))
    have HRY := hidd (fun (W' : World) (h : Below W2.heap.size W2 W') => (HF.out.2.2.1.below h HF.out.2.2.1.lt).range 0 (ccells m l cs) (fun j v hj => by simpa using hj))
    have HREST := hidd (show ∀ (b : Nat) (w' : World), Blk w' b (ccells rn rk rb).toArray 25 → Below W2.heap.size W2 w' → K2 { tmps := #[.agg (ccells n k bs).toArray, .agg (ccells m l cs).toArray, .pointer (some ⟨w.heap.size, 0, none⟩), .pointer (some ⟨w.heap.size + 1, 0, none⟩), .bool false, .pointer (some ⟨b1, 0, none⟩), .int .i64 cd, .pointer (some ⟨b, 0, none⟩), .int .i64 cd, .tuple #[.agg (ccells rn rk rb).toArray, .int .i64 cd], .agg (ccells n k bs).toArray, .agg (ccells n k bs).toArray, .agg (ccells m l cs).toArray, .agg (ccells m l cs).toArray, .tuple #[.agg (ccells rn rk rb).toArray, .int .i64 cd], .agg (ccells rn rk rb).toArray, .int .i64 cd, .tuple #[.agg (ccells rn rk rb).toArray, .int .i64 cd], .agg (ccells n k bs).toArray, .agg (ccells n k bs).toArray, .agg (ccells m l cs).toArray, .agg (ccells m l cs).toArray, .tuple #[.agg (ccells rn rk rb).toArray, .int .i64 cd], .agg (ccells rn rk rb).toArray, .int .i64 cd, undef, undef, undef, undef, undef, undef, undef, undef, undef], defers := [] } w' from ?rest)
    case rest =>
      intro b2 W3 hb2 hbl2
      refine hK2 _ _ ?_
      have HG := hidd (And.intro hb2 (And.intro (HF.out.1.below hbl2 HF.out.1.lt) (HF.out.2.2.2.trans (hbl2.mono HF.out.2.2.2.size))))
      clear hb2 hbl2 hK2
      go_wp2_with (first
        | (refine wpList_load_row rfl 25 (.tmp 7) rfl b2 rfl 25 _ (0,0) _ HG.out.1 Try.underlying25 rfl HSR.out ?_)
        | (refine wpList_load_row rfl 25 (.tmp 5) rfl b1 rfl 25 _ (0,0) _ HG.out.2.1 Try.underlying25 rfl HSR.out ?_))
      refine (eqCol_same rn rk rb hbr _).mono ?_
      rintro e w7 ⟨rfl, hb7⟩
      have G7 := hidd (HG.out.2.2.trans (hb7.mono HG.out.2.2.size))
      have hne : (cd != cd) = false := by simp
      clear hb7
      go_wp2
      go_ret
      exact ⟨rfl, G7.out⟩
    refine wp_region_held_drew (S := fun W' => Below W2.heap.size W2 W') (by kernel_rfl) ?_ (fun hHeld => ?_)
    · exact (Below.refl _ _).drew
    have HC0 := hidd (show Below W2.heap.size W2 W2.drew from (Below.refl _ _).drew)
    refine wpAnyH_take (i := 0) (oi := _) (v := _) rfl (by kernel_rfl) (by kernel_rfl) (by kernel_rfl) (fun _ _ _ h => h) (yieldsIf_load_mid (by rfl) _ _ rfl _ _ rfl _ _ (HRX.out) Try.underlying24 rfl (HS.out)) (by assumption) ?_
    simp only [List.getElem_toArray, List.getElem_cons_succ, List.getElem_cons_zero, Act.put, List.setIfInBounds_toArray, List.set_cons_zero, List.set_cons_succ]
    refine wpAnyH_take (i := 2) (oi := _) (v := _) rfl (by kernel_rfl) (by kernel_rfl) (by kernel_rfl) (fun _ _ _ h => h) (yieldsIf_load_mid (by rfl) _ _ rfl _ _ rfl _ _ (HRY.out) Try.underlying24 rfl (HT.out)) (by assumption) ?_
    simp only [List.getElem_toArray, List.getElem_cons_succ, List.getElem_cons_zero, Act.put, List.setIfInBounds_toArray, List.set_cons_zero, List.set_cons_succ]
    refine wpAnyH_ready (rs := [1, 8]) (by kernel_rfl) (by simp) (AllReadyH.cons (o := _) rfl (fun KQ hKQ => ?_) (AllReadyH.cons (o := _) rfl (fun KQ hKQ => ?_) AllReadyH.nil))
    · skip
      go_simp
      go_wp2_with (refine (toCol_any n k bs _ hb).mono ?_; rintro e wc1 ⟨rfl, hbc1⟩)
      have hS1 := HC0.out.trans (hbc1.mono HC0.out.size)
      refine hKQ.out _ _ ?_ (fun hNext => ?_)
      · exact hS1
      clear hKQ KQ hHeld
      have hHeld := hNext
      clear hNext
      have HC1 := hidd hS1
      clear hS1 hbc1
      refine wpAnyH_ready (rs := [3, 8]) (by kernel_rfl) (by simp) (AllReadyH.cons (o := _) rfl (fun KQ hKQ => ?_) (AllReadyH.cons (o := _) rfl (fun KQ hKQ => ?_) AllReadyH.nil))
      · skip
        go_simp
        go_wp2_with (refine (toCol_any m l cs _ hcb).mono ?_; rintro e wc2 ⟨rfl, hbc2⟩)
        have hS2 := HC1.out.trans (hbc2.mono HC1.out.size)
        refine hKQ.out _ _ ?_ (fun hNext => ?_)
        · exact hS2
        clear hKQ KQ hHeld
        have hHeld := hNext
        clear hNext
        have HC2 := hidd hS2
        clear hS2 hbc2
        refine wpAnyH_ready (rs := [4, 8]) (by kernel_rfl) (by simp) (AllReadyH.cons (o := _) rfl (fun KQ hKQ => ?_) (AllReadyH.cons (o := _) rfl (fun KQ hKQ => ?_) AllReadyH.nil))
        · skip
          go_simp
          go_wp2_with (refine (impl6_any n k bs hb m l cs hcb _).mono ?_; rintro e wc3 ⟨rfl, hbc3⟩)
          have hS3 := HC2.out.trans (hbc3.mono HC2.out.size)
          rw [HV.out]
          refine hKQ.out _ _ ?_ (fun hNext => ?_)
          · exact hS3
          clear hKQ KQ hHeld
          have hHeld := hNext
          clear hNext
          have HC3 := hidd hS3
          clear hS3 hbc3
          refine wpAnyH_take (i := 5) (oi := _) (v := ?_) rfl (by kernel_rfl) (by kernel_rfl) (by kernel_rfl) (fun _ _ _ h => h) (Or.inl ⟨by rfl, ?_⟩) (by assumption) ?_
          rotate_left
          · intro wX hSw; (try dsimp only at hSw); go_simp; first | done | with_reducible rfl
          simp only [List.getElem_toArray, List.getElem_cons_succ, List.getElem_cons_zero, Act.put, List.setIfInBounds_toArray, List.set_cons_zero, List.set_cons_succ]
          refine wpAnyH_take (i := 6) (oi := _) (v := ?_) rfl (by kernel_rfl) (by kernel_rfl) (by kernel_rfl) (fun _ _ _ h => h) (Or.inl ⟨by rfl, ?_⟩) (by assumption) ?_
          rotate_left
          · intro wX hSw; (try dsimp only at hSw); go_simp; first | done | with_reducible rfl
          simp only [List.getElem_toArray, List.getElem_cons_succ, List.getElem_cons_zero, Act.put, List.setIfInBounds_toArray, List.set_cons_zero, List.set_cons_succ]
          refine wpAnyH_take (i := 7) (oi := _) (v := ?_) rfl (by kernel_rfl) (by kernel_rfl) (by kernel_rfl) (fun _ _ _ h => h) (Or.inl ⟨by rfl, ?_⟩) (by assumption) ?_
          rotate_left
          · intro wX hSw; (try dsimp only at hSw); go_simp; first | done | with_reducible rfl
          simp only [List.getElem_toArray, List.getElem_cons_succ, List.getElem_cons_zero, Act.put, List.setIfInBounds_toArray, List.set_cons_zero, List.set_cons_succ]
          refine wpAnyH_ready (rs := [8]) (by kernel_rfl) (by simp) (AllReadyH.cons (o := _) rfl (fun KQ hKQ => ?_) AllReadyH.nil)
          go_simp

          refine hKQ.out _ _ ?_ (fun hNext => ?_)
          · exact HC3.out.alloc HC3.out.size _
          clear hKQ KQ hHeld
          have hHeld := hNext
          clear hNext
          have HC4 := hidd (HC3.out.alloc HC3.out.size (.cells (ccells 0 0 zbl).toArray 25))
          have HX4 := hidd (And.intro (Blk.new wc3 (ccells 0 0 zbl).toArray 25 _ rfl) HC3.out.size)
          refine wpAnyH_ready (rs := [9]) (by kernel_rfl) (by simp) (AllReadyH.cons (o := _) rfl (fun KQ hKQ => ?_) AllReadyH.nil)
          rw [if_pos (by rfl)]
          refine wp_store_row 25 (.tmp 7) (.tmp 23) rfl _ _ rfl rfl 25 _ HX4.out.1 HSR.out HOR.out HAR.out ?_
          refine hKQ.out _ _ ?_ (fun hNext => ?_)
          · exact below_setRow HC4.out HX4.out.2 _
          clear hKQ KQ hHeld
          have hHeld := hNext
          clear hNext
          refine wpAnyH_ready (rs := [10]) (by kernel_rfl) (by simp) (AllReadyH.cons (o := _) rfl (fun KQ hKQ => ?_) AllReadyH.nil)
          go_simp
          refine hKQ.out _ _ ?_ (fun hNext => ?_)
          · exact hHeld
          clear hKQ KQ hHeld
          have hHeld := hNext
          clear hNext
          refine wpAnyH_done (by kernel_rfl) ?_ _
          exact HREST.out _ _ (HX4.out.1.rowSame _) hHeld
        · skip
          go_simp

          refine hKQ.out _ _ ?_ (fun hNext => ?_)
          · exact HC2.out.alloc HC2.out.size _
          clear hKQ KQ hHeld
          have hHeld := hNext
          clear hNext
          have HC3 := hidd (HC2.out.alloc HC2.out.size (.cells (ccells 0 0 zbl).toArray 25))
          have HX3 := hidd (And.intro (Blk.new wc2 (ccells 0 0 zbl).toArray 25 _ rfl) HC2.out.size)
          refine wpAnyH_ready (rs := [4]) (by kernel_rfl) (by simp) (AllReadyH.cons (o := _) rfl (fun KQ hKQ => ?_) AllReadyH.nil)
          go_simp
          go_wp2_with (refine (impl6_any n k bs hb m l cs hcb _).mono ?_; rintro e wc4 ⟨rfl, hbc4⟩)
          have hS4 := HC3.out.trans (hbc4.mono HC3.out.size)
          have hB4 := HX3.out.1.below hbc4 HX3.out.1.lt
          rw [HV.out]
          refine hKQ.out _ _ ?_ (fun hNext => ?_)
          · exact hS4
          clear hKQ KQ hHeld
          have hHeld := hNext
          clear hNext
          have HC4 := hidd hS4
          have HX4 := hidd (And.intro hB4 HX3.out.2)
          clear hS4 hbc4 hB4
          refine wpAnyH_take (i := 5) (oi := _) (v := ?_) rfl (by kernel_rfl) (by kernel_rfl) (by kernel_rfl) (fun _ _ _ h => h) (Or.inl ⟨by rfl, ?_⟩) (by assumption) ?_
          rotate_left
          · intro wX hSw; (try dsimp only at hSw); go_simp; first | done | with_reducible rfl
          simp only [List.getElem_toArray, List.getElem_cons_succ, List.getElem_cons_zero, Act.put, List.setIfInBounds_toArray, List.set_cons_zero, List.set_cons_succ]
          refine wpAnyH_take (i := 6) (oi := _) (v := ?_) rfl (by kernel_rfl) (by kernel_rfl) (by kernel_rfl) (fun _ _ _ h => h) (Or.inl ⟨by rfl, ?_⟩) (by assumption) ?_
          rotate_left
          · intro wX hSw; (try dsimp only at hSw); go_simp; first | done | with_reducible rfl
          simp only [List.getElem_toArray, List.getElem_cons_succ, List.getElem_cons_zero, Act.put, List.setIfInBounds_toArray, List.set_cons_zero, List.set_cons_succ]
          refine wpAnyH_take (i := 7) (oi := _) (v := ?_) rfl (by kernel_rfl) (by kernel_rfl) (by kernel_rfl) (fun _ _ _ h => h) (Or.inl ⟨by rfl, ?_⟩) (by assumption) ?_
          rotate_left
          · intro wX hSw; (try dsimp only at hSw); go_simp; first | done | with_reducible rfl
          simp only [List.getElem_toArray, List.getElem_cons_succ, List.getElem_cons_zero, Act.put, List.setIfInBounds_toArray, List.set_cons_zero, List.set_cons_succ]
          refine wpAnyH_ready (rs := [9]) (by kernel_rfl) (by simp) (AllReadyH.cons (o := _) rfl (fun KQ hKQ => ?_) AllReadyH.nil)
          rw [if_pos (by rfl)]
          refine wp_store_row 25 (.tmp 7) (.tmp 23) rfl _ _ rfl rfl 25 _ HX4.out.1 HSR.out HOR.out HAR.out ?_
          refine hKQ.out _ _ ?_ (fun hNext => ?_)
          · exact below_setRow HC4.out HX4.out.2 _
          clear hKQ KQ hHeld
          have hHeld := hNext
          clear hNext
          refine wpAnyH_ready (rs := [10]) (by kernel_rfl) (by simp) (AllReadyH.cons (o := _) rfl (fun KQ hKQ => ?_) AllReadyH.nil)
          go_simp
          refine hKQ.out _ _ ?_ (fun hNext => ?_)
          · exact hHeld
          clear hKQ KQ hHeld
          have hHeld := hNext
          clear hNext
          refine wpAnyH_done (by kernel_rfl) ?_ _
          exact HREST.out _ _ (HX4.out.1.rowSame _) hHeld
      · skip
        go_simp

        refine hKQ.out _ _ ?_ (fun hNext => ?_)
        · exact HC1.out.alloc HC1.out.size _
        clear hKQ KQ hHeld
        have hHeld := hNext
        clear hNext
        have HC2 := hidd (HC1.out.alloc HC1.out.size (.cells (ccells 0 0 zbl).toArray 25))
        have HX2 := hidd (And.intro (Blk.new wc1 (ccells 0 0 zbl).toArray 25 _ rfl) HC1.out.size)
        refine wpAnyH_ready (rs := [3]) (by kernel_rfl) (by simp) (AllReadyH.cons (o := _) rfl (fun KQ hKQ => ?_) AllReadyH.nil)
        go_simp
        go_wp2_with (refine (toCol_any m l cs _ hcb).mono ?_; rintro e wc3 ⟨rfl, hbc3⟩)
        have hS3 := HC2.out.trans (hbc3.mono HC2.out.size)
        have hB3 := HX2.out.1.below hbc3 HX2.out.1.lt
        refine hKQ.out _ _ ?_ (fun hNext => ?_)
        · exact hS3
        clear hKQ KQ hHeld
        have hHeld := hNext
        clear hNext
        have HC3 := hidd hS3
        have HX3 := hidd (And.intro hB3 HX2.out.2)
        clear hS3 hbc3 hB3
        refine wpAnyH_ready (rs := [4]) (by kernel_rfl) (by simp) (AllReadyH.cons (o := _) rfl (fun KQ hKQ => ?_) AllReadyH.nil)
        go_simp
        go_wp2_with (refine (impl6_any n k bs hb m l cs hcb _).mono ?_; rintro e wc4 ⟨rfl, hbc4⟩)
        have hS4 := HC3.out.trans (hbc4.mono HC3.out.size)
        have hB4 := HX3.out.1.below hbc4 HX3.out.1.lt
        rw [HV.out]
        refine hKQ.out _ _ ?_ (fun hNext => ?_)
        · exact hS4
        clear hKQ KQ hHeld
        have hHeld := hNext
        clear hNext
        have HC4 := hidd hS4
        have HX4 := hidd (And.intro hB4 HX3.out.2)
        clear hS4 hbc4 hB4
        refine wpAnyH_take (i := 5) (oi := _) (v := ?_) rfl (by kernel_rfl) (by kernel_rfl) (by kernel_rfl) (fun _ _ _ h => h) (Or.inl ⟨by rfl, ?_⟩) (by assumption) ?_
        rotate_left
        · intro wX hSw; (try dsimp only at hSw); go_simp; first | done | with_reducible rfl
        simp only [List.getElem_toArray, List.getElem_cons_succ, List.getElem_cons_zero, Act.put, List.setIfInBounds_toArray, List.set_cons_zero, List.set_cons_succ]
        refine wpAnyH_take (i := 6) (oi := _) (v := ?_) rfl (by kernel_rfl) (by kernel_rfl) (by kernel_rfl) (fun _ _ _ h => h) (Or.inl ⟨by rfl, ?_⟩) (by assumption) ?_
        rotate_left
        · intro wX hSw; (try dsimp only at hSw); go_simp; first | done | with_reducible rfl
        simp only [List.getElem_toArray, List.getElem_cons_succ, List.getElem_cons_zero, Act.put, List.setIfInBounds_toArray, List.set_cons_zero, List.set_cons_succ]
        refine wpAnyH_take (i := 7) (oi := _) (v := ?_) rfl (by kernel_rfl) (by kernel_rfl) (by kernel_rfl) (fun _ _ _ h => h) (Or.inl ⟨by rfl, ?_⟩) (by assumption) ?_
        rotate_left
        · intro wX hSw; (try dsimp only at hSw); go_simp; first | done | with_reducible rfl
        simp only [List.getElem_toArray, List.getElem_cons_succ, List.getElem_cons_zero, Act.put, List.setIfInBounds_toArray, List.set_cons_zero, List.set_cons_succ]
        refine wpAnyH_ready (rs := [9]) (by kernel_rfl) (by simp) (AllReadyH.cons (o := _) rfl (fun KQ hKQ => ?_) AllReadyH.nil)
        rw [if_pos (by rfl)]
        refine wp_store_row 25 (.tmp 7) (.tmp 23) rfl _ _ rfl rfl 25 _ HX4.out.1 HSR.out HOR.out HAR.out ?_
        refine hKQ.out _ _ ?_ (fun hNext => ?_)
        · exact below_setRow HC4.out HX4.out.2 _
        clear hKQ KQ hHeld
        have hHeld := hNext
        clear hNext
        refine wpAnyH_ready (rs := [10]) (by kernel_rfl) (by simp) (AllReadyH.cons (o := _) rfl (fun KQ hKQ => ?_) AllReadyH.nil)
        go_simp
        refine hKQ.out _ _ ?_ (fun hNext => ?_)
        · exact hHeld
        clear hKQ KQ hHeld
        have hHeld := hNext
        clear hNext
        refine wpAnyH_done (by kernel_rfl) ?_ _
        exact HREST.out _ _ (HX4.out.1.rowSame _) hHeld
    · skip
      go_simp

      refine hKQ.out _ _ ?_ (fun hNext => ?_)
      · exact HC0.out.alloc HC0.out.size _
      clear hKQ KQ hHeld
      have hHeld := hNext
      clear hNext
      have HC1 := hidd (HC0.out.alloc HC0.out.size (.cells (ccells 0 0 zbl).toArray 25))
      have HX1 := hidd (And.intro (Blk.new W2.drew (ccells 0 0 zbl).toArray 25 _ rfl) HC0.out.size)
      refine wpAnyH_ready (rs := [1]) (by kernel_rfl) (by simp) (AllReadyH.cons (o := _) rfl (fun KQ hKQ => ?_) AllReadyH.nil)
      go_simp
      go_wp2_with (refine (toCol_any n k bs _ hb).mono ?_; rintro e wc2 ⟨rfl, hbc2⟩)
      have hS2 := HC1.out.trans (hbc2.mono HC1.out.size)
      have hB2 := HX1.out.1.below hbc2 HX1.out.1.lt
      refine hKQ.out _ _ ?_ (fun hNext => ?_)
      · exact hS2
      clear hKQ KQ hHeld
      have hHeld := hNext
      clear hNext
      have HC2 := hidd hS2
      have HX2 := hidd (And.intro hB2 HX1.out.2)
      clear hS2 hbc2 hB2
      refine wpAnyH_ready (rs := [3]) (by kernel_rfl) (by simp) (AllReadyH.cons (o := _) rfl (fun KQ hKQ => ?_) AllReadyH.nil)
      go_simp
      go_wp2_with (refine (toCol_any m l cs _ hcb).mono ?_; rintro e wc3 ⟨rfl, hbc3⟩)
      have hS3 := HC2.out.trans (hbc3.mono HC2.out.size)
      have hB3 := HX2.out.1.below hbc3 HX2.out.1.lt
      refine hKQ.out _ _ ?_ (fun hNext => ?_)
      · exact hS3
      clear hKQ KQ hHeld
      have hHeld := hNext
      clear hNext
      have HC3 := hidd hS3
      have HX3 := hidd (And.intro hB3 HX2.out.2)
      clear hS3 hbc3 hB3
      refine wpAnyH_ready (rs := [4]) (by kernel_rfl) (by simp) (AllReadyH.cons (o := _) rfl (fun KQ hKQ => ?_) AllReadyH.nil)
      go_simp
      go_wp2_with (refine (impl6_any n k bs hb m l cs hcb _).mono ?_; rintro e wc4 ⟨rfl, hbc4⟩)
      have hS4 := HC3.out.trans (hbc4.mono HC3.out.size)
      have hB4 := HX3.out.1.below hbc4 HX3.out.1.lt
      rw [HV.out]
      refine hKQ.out _ _ ?_ (fun hNext => ?_)
      · exact hS4
      clear hKQ KQ hHeld
      have hHeld := hNext
      clear hNext
      have HC4 := hidd hS4
      have HX4 := hidd (And.intro hB4 HX3.out.2)
      clear hS4 hbc4 hB4
      refine wpAnyH_take (i := 5) (oi := _) (v := ?_) rfl (by kernel_rfl) (by kernel_rfl) (by kernel_rfl) (fun _ _ _ h => h) (Or.inl ⟨by rfl, ?_⟩) (by assumption) ?_
      rotate_left
      · intro wX hSw; (try dsimp only at hSw); go_simp; first | done | with_reducible rfl
      simp only [List.getElem_toArray, List.getElem_cons_succ, List.getElem_cons_zero, Act.put, List.setIfInBounds_toArray, List.set_cons_zero, List.set_cons_succ]
      refine wpAnyH_take (i := 6) (oi := _) (v := ?_) rfl (by kernel_rfl) (by kernel_rfl) (by kernel_rfl) (fun _ _ _ h => h) (Or.inl ⟨by rfl, ?_⟩) (by assumption) ?_
      rotate_left
      · intro wX hSw; (try dsimp only at hSw); go_simp; first | done | with_reducible rfl
      simp only [List.getElem_toArray, List.getElem_cons_succ, List.getElem_cons_zero, Act.put, List.setIfInBounds_toArray, List.set_cons_zero, List.set_cons_succ]
      refine wpAnyH_take (i := 7) (oi := _) (v := ?_) rfl (by kernel_rfl) (by kernel_rfl) (by kernel_rfl) (fun _ _ _ h => h) (Or.inl ⟨by rfl, ?_⟩) (by assumption) ?_
      rotate_left
      · intro wX hSw; (try dsimp only at hSw); go_simp; first | done | with_reducible rfl
      simp only [List.getElem_toArray, List.getElem_cons_succ, List.getElem_cons_zero, Act.put, List.setIfInBounds_toArray, List.set_cons_zero, List.set_cons_succ]
      refine wpAnyH_ready (rs := [9]) (by kernel_rfl) (by simp) (AllReadyH.cons (o := _) rfl (fun KQ hKQ => ?_) AllReadyH.nil)
      rw [if_pos (by rfl)]
      refine wp_store_row 25 (.tmp 7) (.tmp 23) rfl _ _ rfl rfl 25 _ HX4.out.1 HSR.out HOR.out HAR.out ?_
      refine hKQ.out _ _ ?_ (fun hNext => ?_)
      · exact below_setRow HC4.out HX4.out.2 _
      clear hKQ KQ hHeld
      have hHeld := hNext
      clear hNext
      refine wpAnyH_ready (rs := [10]) (by kernel_rfl) (by simp) (AllReadyH.cons (o := _) rfl (fun KQ hKQ => ?_) AllReadyH.nil)
      go_simp
      refine hKQ.out _ _ ?_ (fun hNext => ?_)
      · exact hHeld
      clear hKQ KQ hHeld
      have hHeld := hNext
      clear hNext
      refine wpAnyH_done (by kernel_rfl) ?_ _
      exact HREST.out _ _ (HX4.out.1.rowSame _) hHeld
  refine wp_region_held_drew (S := fun W' => Below W.heap.size W W') (by kernel_rfl) ?_ (fun hHeld => ?_)
  · exact (Below.refl _ _).drew
  have HC0 := hidd (show Below W.heap.size W W.drew from (Below.refl _ _).drew)
  refine wpAnyH_take (i := 0) (oi := _) (v := _) rfl (by kernel_rfl) (by kernel_rfl) (by kernel_rfl) (fun _ _ _ h => h) (yieldsIf_load_mid (by rfl) _ _ rfl _ _ rfl _ _ (HRX.out) Try.underlying24 rfl (HS.out)) (by assumption) ?_
  simp only [List.getElem_toArray, List.getElem_cons_succ, List.getElem_cons_zero, Act.put, List.setIfInBounds_toArray, List.set_cons_zero, List.set_cons_succ]
  refine wpAnyH_take (i := 2) (oi := _) (v := _) rfl (by kernel_rfl) (by kernel_rfl) (by kernel_rfl) (fun _ _ _ h => h) (yieldsIf_load_mid (by rfl) _ _ rfl _ _ rfl _ _ (HRY.out) Try.underlying24 rfl (HT.out)) (by assumption) ?_
  simp only [List.getElem_toArray, List.getElem_cons_succ, List.getElem_cons_zero, Act.put, List.setIfInBounds_toArray, List.set_cons_zero, List.set_cons_succ]
  refine wpAnyH_ready (rs := [1, 8]) (by kernel_rfl) (by simp) (AllReadyH.cons (o := _) rfl (fun KQ hKQ => ?_) (AllReadyH.cons (o := _) rfl (fun KQ hKQ => ?_) AllReadyH.nil))
  · skip
    go_simp
    go_wp2_with (refine (toCol_any n k bs _ hb).mono ?_; rintro e wc1 ⟨rfl, hbc1⟩)
    have hS1 := HC0.out.trans (hbc1.mono HC0.out.size)
    refine hKQ.out _ _ ?_ (fun hNext => ?_)
    · exact hS1
    clear hKQ KQ hHeld
    have hHeld := hNext
    clear hNext
    have HC1 := hidd hS1
    clear hS1 hbc1
    refine wpAnyH_ready (rs := [3, 8]) (by kernel_rfl) (by simp) (AllReadyH.cons (o := _) rfl (fun KQ hKQ => ?_) (AllReadyH.cons (o := _) rfl (fun KQ hKQ => ?_) AllReadyH.nil))
    · skip
      go_simp
      go_wp2_with (refine (toCol_any m l cs _ hcb).mono ?_; rintro e wc2 ⟨rfl, hbc2⟩)
      have hS2 := HC1.out.trans (hbc2.mono HC1.out.size)
      refine hKQ.out _ _ ?_ (fun hNext => ?_)
      · exact hS2
      clear hKQ KQ hHeld
      have hHeld := hNext
      clear hNext
      have HC2 := hidd hS2
      clear hS2 hbc2
      refine wpAnyH_ready (rs := [4, 8]) (by kernel_rfl) (by simp) (AllReadyH.cons (o := _) rfl (fun KQ hKQ => ?_) (AllReadyH.cons (o := _) rfl (fun KQ hKQ => ?_) AllReadyH.nil))
      · skip
        go_simp
        go_wp2_with (refine (spec4_any n k bs hb m l cs hcb _).mono ?_; rintro e wc3 ⟨rfl, hbc3⟩)
        have hS3 := HC2.out.trans (hbc3.mono HC2.out.size)
        rw [HV.out]
        refine hKQ.out _ _ ?_ (fun hNext => ?_)
        · exact hS3
        clear hKQ KQ hHeld
        have hHeld := hNext
        clear hNext
        have HC3 := hidd hS3
        clear hS3 hbc3
        refine wpAnyH_take (i := 5) (oi := _) (v := ?_) rfl (by kernel_rfl) (by kernel_rfl) (by kernel_rfl) (fun _ _ _ h => h) (Or.inl ⟨by rfl, ?_⟩) (by assumption) ?_
        rotate_left
        · intro wX hSw; (try dsimp only at hSw); go_simp; first | done | with_reducible rfl
        simp only [List.getElem_toArray, List.getElem_cons_succ, List.getElem_cons_zero, Act.put, List.setIfInBounds_toArray, List.set_cons_zero, List.set_cons_succ]
        refine wpAnyH_take (i := 6) (oi := _) (v := ?_) rfl (by kernel_rfl) (by kernel_rfl) (by kernel_rfl) (fun _ _ _ h => h) (Or.inl ⟨by rfl, ?_⟩) (by assumption) ?_
        rotate_left
        · intro wX hSw; (try dsimp only at hSw); go_simp; first | done | with_reducible rfl
        simp only [List.getElem_toArray, List.getElem_cons_succ, List.getElem_cons_zero, Act.put, List.setIfInBounds_toArray, List.set_cons_zero, List.set_cons_succ]
        refine wpAnyH_take (i := 7) (oi := _) (v := ?_) rfl (by kernel_rfl) (by kernel_rfl) (by kernel_rfl) (fun _ _ _ h => h) (Or.inl ⟨by rfl, ?_⟩) (by assumption) ?_
        rotate_left
        · intro wX hSw; (try dsimp only at hSw); go_simp; first | done | with_reducible rfl
        simp only [List.getElem_toArray, List.getElem_cons_succ, List.getElem_cons_zero, Act.put, List.setIfInBounds_toArray, List.set_cons_zero, List.set_cons_succ]
        refine wpAnyH_ready (rs := [8]) (by kernel_rfl) (by simp) (AllReadyH.cons (o := _) rfl (fun KQ hKQ => ?_) AllReadyH.nil)
        go_simp

        refine hKQ.out _ _ ?_ (fun hNext => ?_)
        · exact HC3.out.alloc HC3.out.size _
        clear hKQ KQ hHeld
        have hHeld := hNext
        clear hNext
        have HC4 := hidd (HC3.out.alloc HC3.out.size (.cells (ccells 0 0 zbl).toArray 25))
        have HX4 := hidd (And.intro (Blk.new wc3 (ccells 0 0 zbl).toArray 25 _ rfl) HC3.out.size)
        refine wpAnyH_ready (rs := [9]) (by kernel_rfl) (by simp) (AllReadyH.cons (o := _) rfl (fun KQ hKQ => ?_) AllReadyH.nil)
        rw [if_pos (by rfl)]
        refine wp_store_row 25 (.tmp 5) (.tmp 15) rfl _ _ rfl rfl 25 _ HX4.out.1 HSR.out HOR.out HAR.out ?_
        refine hKQ.out _ _ ?_ (fun hNext => ?_)
        · exact below_setRow HC4.out HX4.out.2 _
        clear hKQ KQ hHeld
        have hHeld := hNext
        clear hNext
        refine wpAnyH_ready (rs := [10]) (by kernel_rfl) (by simp) (AllReadyH.cons (o := _) rfl (fun KQ hKQ => ?_) AllReadyH.nil)
        go_simp
        refine hKQ.out _ _ ?_ (fun hNext => ?_)
        · exact hHeld
        clear hKQ KQ hHeld
        have hHeld := hNext
        clear hNext
        refine wpAnyH_done (by kernel_rfl) ?_ _
        exact HREST.out _ _ (HX4.out.1.rowSame _) hHeld
      · skip
        go_simp

        refine hKQ.out _ _ ?_ (fun hNext => ?_)
        · exact HC2.out.alloc HC2.out.size _
        clear hKQ KQ hHeld
        have hHeld := hNext
        clear hNext
        have HC3 := hidd (HC2.out.alloc HC2.out.size (.cells (ccells 0 0 zbl).toArray 25))
        have HX3 := hidd (And.intro (Blk.new wc2 (ccells 0 0 zbl).toArray 25 _ rfl) HC2.out.size)
        refine wpAnyH_ready (rs := [4]) (by kernel_rfl) (by simp) (AllReadyH.cons (o := _) rfl (fun KQ hKQ => ?_) AllReadyH.nil)
        go_simp
        go_wp2_with (refine (spec4_any n k bs hb m l cs hcb _).mono ?_; rintro e wc4 ⟨rfl, hbc4⟩)
        have hS4 := HC3.out.trans (hbc4.mono HC3.out.size)
        have hB4 := HX3.out.1.below hbc4 HX3.out.1.lt
        rw [HV.out]
        refine hKQ.out _ _ ?_ (fun hNext => ?_)
        · exact hS4
        clear hKQ KQ hHeld
        have hHeld := hNext
        clear hNext
        have HC4 := hidd hS4
        have HX4 := hidd (And.intro hB4 HX3.out.2)
        clear hS4 hbc4 hB4
        refine wpAnyH_take (i := 5) (oi := _) (v := ?_) rfl (by kernel_rfl) (by kernel_rfl) (by kernel_rfl) (fun _ _ _ h => h) (Or.inl ⟨by rfl, ?_⟩) (by assumption) ?_
        rotate_left
        · intro wX hSw; (try dsimp only at hSw); go_simp; first | done | with_reducible rfl
        simp only [List.getElem_toArray, List.getElem_cons_succ, List.getElem_cons_zero, Act.put, List.setIfInBounds_toArray, List.set_cons_zero, List.set_cons_succ]
        refine wpAnyH_take (i := 6) (oi := _) (v := ?_) rfl (by kernel_rfl) (by kernel_rfl) (by kernel_rfl) (fun _ _ _ h => h) (Or.inl ⟨by rfl, ?_⟩) (by assumption) ?_
        rotate_left
        · intro wX hSw; (try dsimp only at hSw); go_simp; first | done | with_reducible rfl
        simp only [List.getElem_toArray, List.getElem_cons_succ, List.getElem_cons_zero, Act.put, List.setIfInBounds_toArray, List.set_cons_zero, List.set_cons_succ]
        refine wpAnyH_take (i := 7) (oi := _) (v := ?_) rfl (by kernel_rfl) (by kernel_rfl) (by kernel_rfl) (fun _ _ _ h => h) (Or.inl ⟨by rfl, ?_⟩) (by assumption) ?_
        rotate_left
        · intro wX hSw; (try dsimp only at hSw); go_simp; first | done | with_reducible rfl
        simp only [List.getElem_toArray, List.getElem_cons_succ, List.getElem_cons_zero, Act.put, List.setIfInBounds_toArray, List.set_cons_zero, List.set_cons_succ]
        refine wpAnyH_ready (rs := [9]) (by kernel_rfl) (by simp) (AllReadyH.cons (o := _) rfl (fun KQ hKQ => ?_) AllReadyH.nil)
        rw [if_pos (by rfl)]
        refine wp_store_row 25 (.tmp 5) (.tmp 15) rfl _ _ rfl rfl 25 _ HX4.out.1 HSR.out HOR.out HAR.out ?_
        refine hKQ.out _ _ ?_ (fun hNext => ?_)
        · exact below_setRow HC4.out HX4.out.2 _
        clear hKQ KQ hHeld
        have hHeld := hNext
        clear hNext
        refine wpAnyH_ready (rs := [10]) (by kernel_rfl) (by simp) (AllReadyH.cons (o := _) rfl (fun KQ hKQ => ?_) AllReadyH.nil)
        go_simp
        refine hKQ.out _ _ ?_ (fun hNext => ?_)
        · exact hHeld
        clear hKQ KQ hHeld
        have hHeld := hNext
        clear hNext
        refine wpAnyH_done (by kernel_rfl) ?_ _
        exact HREST.out _ _ (HX4.out.1.rowSame _) hHeld
    · skip
      go_simp

      refine hKQ.out _ _ ?_ (fun hNext => ?_)
      · exact HC1.out.alloc HC1.out.size _
      clear hKQ KQ hHeld
      have hHeld := hNext
      clear hNext
      have HC2 := hidd (HC1.out.alloc HC1.out.size (.cells (ccells 0 0 zbl).toArray 25))
      have HX2 := hidd (And.intro (Blk.new wc1 (ccells 0 0 zbl).toArray 25 _ rfl) HC1.out.size)
      refine wpAnyH_ready (rs := [3]) (by kernel_rfl) (by simp) (AllReadyH.cons (o := _) rfl (fun KQ hKQ => ?_) AllReadyH.nil)
      go_simp
      go_wp2_with (refine (toCol_any m l cs _ hcb).mono ?_; rintro e wc3 ⟨rfl, hbc3⟩)
      have hS3 := HC2.out.trans (hbc3.mono HC2.out.size)
      have hB3 := HX2.out.1.below hbc3 HX2.out.1.lt
      refine hKQ.out _ _ ?_ (fun hNext => ?_)
      · exact hS3
      clear hKQ KQ hHeld
      have hHeld := hNext
      clear hNext
      have HC3 := hidd hS3
      have HX3 := hidd (And.intro hB3 HX2.out.2)
      clear hS3 hbc3 hB3
      refine wpAnyH_ready (rs := [4]) (by kernel_rfl) (by simp) (AllReadyH.cons (o := _) rfl (fun KQ hKQ => ?_) AllReadyH.nil)
      go_simp
      go_wp2_with (refine (spec4_any n k bs hb m l cs hcb _).mono ?_; rintro e wc4 ⟨rfl, hbc4⟩)
      have hS4 := HC3.out.trans (hbc4.mono HC3.out.size)
      have hB4 := HX3.out.1.below hbc4 HX3.out.1.lt
      rw [HV.out]
      refine hKQ.out _ _ ?_ (fun hNext => ?_)
      · exact hS4
      clear hKQ KQ hHeld
      have hHeld := hNext
      clear hNext
      have HC4 := hidd hS4
      have HX4 := hidd (And.intro hB4 HX3.out.2)
      clear hS4 hbc4 hB4
      refine wpAnyH_take (i := 5) (oi := _) (v := ?_) rfl (by kernel_rfl) (by kernel_rfl) (by kernel_rfl) (fun _ _ _ h => h) (Or.inl ⟨by rfl, ?_⟩) (by assumption) ?_
      rotate_left
      · intro wX hSw; (try dsimp only at hSw); go_simp; first | done | with_reducible rfl
      simp only [List.getElem_toArray, List.getElem_cons_succ, List.getElem_cons_zero, Act.put, List.setIfInBounds_toArray, List.set_cons_zero, List.set_cons_succ]
      refine wpAnyH_take (i := 6) (oi := _) (v := ?_) rfl (by kernel_rfl) (by kernel_rfl) (by kernel_rfl) (fun _ _ _ h => h) (Or.inl ⟨by rfl, ?_⟩) (by assumption) ?_
      rotate_left
      · intro wX hSw; (try dsimp only at hSw); go_simp; first | done | with_reducible rfl
      simp only [List.getElem_toArray, List.getElem_cons_succ, List.getElem_cons_zero, Act.put, List.setIfInBounds_toArray, List.set_cons_zero, List.set_cons_succ]
      refine wpAnyH_take (i := 7) (oi := _) (v := ?_) rfl (by kernel_rfl) (by kernel_rfl) (by kernel_rfl) (fun _ _ _ h => h) (Or.inl ⟨by rfl, ?_⟩) (by assumption) ?_
      rotate_left
      · intro wX hSw; (try dsimp only at hSw); go_simp; first | done | with_reducible rfl
      simp only [List.getElem_toArray, List.getElem_cons_succ, List.getElem_cons_zero, Act.put, List.setIfInBounds_toArray, List.set_cons_zero, List.set_cons_succ]
      refine wpAnyH_ready (rs := [9]) (by kernel_rfl) (by simp) (AllReadyH.cons (o := _) rfl (fun KQ hKQ => ?_) AllReadyH.nil)
      rw [if_pos (by rfl)]
      refine wp_store_row 25 (.tmp 5) (.tmp 15) rfl _ _ rfl rfl 25 _ HX4.out.1 HSR.out HOR.out HAR.out ?_
      refine hKQ.out _ _ ?_ (fun hNext => ?_)
      · exact below_setRow HC4.out HX4.out.2 _
      clear hKQ KQ hHeld
      have hHeld := hNext
      clear hNext
      refine wpAnyH_ready (rs := [10]) (by kernel_rfl) (by simp) (AllReadyH.cons (o := _) rfl (fun KQ hKQ => ?_) AllReadyH.nil)
      go_simp
      refine hKQ.out _ _ ?_ (fun hNext => ?_)
      · exact hHeld
      clear hKQ KQ hHeld
      have hHeld := hNext
      clear hNext
      refine wpAnyH_done (by kernel_rfl) ?_ _
      exact HREST.out _ _ (HX4.out.1.rowSame _) hHeld
  · skip
    go_simp

    refine hKQ.out _ _ ?_ (fun hNext => ?_)
    · exact HC0.out.alloc HC0.out.size _
    clear hKQ KQ hHeld
    have hHeld := hNext
    clear hNext
    have HC1 := hidd (HC0.out.alloc HC0.out.size (.cells (ccells 0 0 zbl).toArray 25))
    have HX1 := hidd (And.intro (Blk.new W.drew (ccells 0 0 zbl).toArray 25 _ rfl) HC0.out.size)
    refine wpAnyH_ready (rs := [1]) (by kernel_rfl) (by simp) (AllReadyH.cons (o := _) rfl (fun KQ hKQ => ?_) AllReadyH.nil)
    go_simp
    go_wp2_with (refine (toCol_any n k bs _ hb).mono ?_; rintro e wc2 ⟨rfl, hbc2⟩)
    have hS2 := HC1.out.trans (hbc2.mono HC1.out.size)
    have hB2 := HX1.out.1.below hbc2 HX1.out.1.lt
    refine hKQ.out _ _ ?_ (fun hNext => ?_)
    · exact hS2
    clear hKQ KQ hHeld
    have hHeld := hNext
    clear hNext
    have HC2 := hidd hS2
    have HX2 := hidd (And.intro hB2 HX1.out.2)
    clear hS2 hbc2 hB2
    refine wpAnyH_ready (rs := [3]) (by kernel_rfl) (by simp) (AllReadyH.cons (o := _) rfl (fun KQ hKQ => ?_) AllReadyH.nil)
    go_simp
    go_wp2_with (refine (toCol_any m l cs _ hcb).mono ?_; rintro e wc3 ⟨rfl, hbc3⟩)
    have hS3 := HC2.out.trans (hbc3.mono HC2.out.size)
    have hB3 := HX2.out.1.below hbc3 HX2.out.1.lt
    refine hKQ.out _ _ ?_ (fun hNext => ?_)
    · exact hS3
    clear hKQ KQ hHeld
    have hHeld := hNext
    clear hNext
    have HC3 := hidd hS3
    have HX3 := hidd (And.intro hB3 HX2.out.2)
    clear hS3 hbc3 hB3
    refine wpAnyH_ready (rs := [4]) (by kernel_rfl) (by simp) (AllReadyH.cons (o := _) rfl (fun KQ hKQ => ?_) AllReadyH.nil)
    go_simp
    go_wp2_with (refine (spec4_any n k bs hb m l cs hcb _).mono ?_; rintro e wc4 ⟨rfl, hbc4⟩)
    have hS4 := HC3.out.trans (hbc4.mono HC3.out.size)
    have hB4 := HX3.out.1.below hbc4 HX3.out.1.lt
    rw [HV.out]
    refine hKQ.out _ _ ?_ (fun hNext => ?_)
    · exact hS4
    clear hKQ KQ hHeld
    have hHeld := hNext
    clear hNext
    have HC4 := hidd hS4
    have HX4 := hidd (And.intro hB4 HX3.out.2)
    clear hS4 hbc4 hB4
    refine wpAnyH_take (i := 5) (oi := _) (v := ?_) rfl (by kernel_rfl) (by kernel_rfl) (by kernel_rfl) (fun _ _ _ h => h) (Or.inl ⟨by rfl, ?_⟩) (by assumption) ?_
    rotate_left
    · intro wX hSw; (try dsimp only at hSw); go_simp; first | done | with_reducible rfl
    simp only [List.getElem_toArray, List.getElem_cons_succ, List.getElem_cons_zero, Act.put, List.setIfInBounds_toArray, List.set_cons_zero, List.set_cons_succ]
    refine wpAnyH_take (i := 6) (oi := _) (v := ?_) rfl (by kernel_rfl) (by kernel_rfl) (by kernel_rfl) (fun _ _ _ h => h) (Or.inl ⟨by rfl, ?_⟩) (by assumption) ?_
    rotate_left
    · intro wX hSw; (try dsimp only at hSw); go_simp; first | done | with_reducible rfl
    simp only [List.getElem_toArray, List.getElem_cons_succ, List.getElem_cons_zero, Act.put, List.setIfInBounds_toArray, List.set_cons_zero, List.set_cons_succ]
    refine wpAnyH_take (i := 7) (oi := _) (v := ?_) rfl (by kernel_rfl) (by kernel_rfl) (by kernel_rfl) (fun _ _ _ h => h) (Or.inl ⟨by rfl, ?_⟩) (by assumption) ?_
    rotate_left
    · intro wX hSw; (try dsimp only at hSw); go_simp; first | done | with_reducible rfl
    simp only [List.getElem_toArray, List.getElem_cons_succ, List.getElem_cons_zero, Act.put, List.setIfInBounds_toArray, List.set_cons_zero, List.set_cons_succ]
    refine wpAnyH_ready (rs := [9]) (by kernel_rfl) (by simp) (AllReadyH.cons (o := _) rfl (fun KQ hKQ => ?_) AllReadyH.nil)
    rw [if_pos (by rfl)]
    refine wp_store_row 25 (.tmp 5) (.tmp 15) rfl _ _ rfl rfl 25 _ HX4.out.1 HSR.out HOR.out HAR.out ?_
    refine hKQ.out _ _ ?_ (fun hNext => ?_)
    · exact below_setRow HC4.out HX4.out.2 _
    clear hKQ KQ hHeld
    have hHeld := hNext
    clear hNext
    refine wpAnyH_ready (rs := [10]) (by kernel_rfl) (by simp) (AllReadyH.cons (o := _) rfl (fun KQ hKQ => ?_) AllReadyH.nil)
    go_simp
    refine hKQ.out _ _ ?_ (fun hNext => ?_)
    · exact hHeld
    clear hKQ KQ hHeld
    have hHeld := hNext
    clear hNext
    refine wpAnyH_done (by kernel_rfl) ?_ _
    exact HREST.out _ _ (HX4.out.1.rowSame _) hHeld
set_option maxRecDepth 100000 in
theorem lifted3 (os : Os) (started : os.Started) (H : Type) (enc : TypeId × Value → H) :
    ReturnsInHanded {} Try.checked os 3 .any (Rows.fnExactProductColouringSpec.pre6 enc Try.prog Try.f3 Rows.fnExactProductColouringRow.domain false) (Rows.fnExactProductColouringSpec.post enc Try.prog Try.f3 false true false false) := by
  refine returnsInHanded_of_change (C := Try.checked) own started (by kernel_rfl) Try.func3
    (ChangeSpec.witness6 (enc := enc) (C := Try.checked) false ⟨#[], #[.agg (ccells 0 0 zbl).toArray, .agg (ccells 0 0 zbl).toArray], []⟩ 8 (by kernel_rfl) (by kernel_rfl) (by kernel_rfl) (by kernel_rfl)) ?_
  intro W base args ds gs before hval0 hW hcnd _
  have hval : ∀ (j : Nat) t v, Try.f3.params[j]? = some t → args[j]? = some v → Value.okWide Try.prog W .any base t v := hval0
  have hW' := hW
  obtain ⟨p, q, hA0, hV, rfl, hfz, hnd⟩ := hW
  have hA : DataW.TrodAll enc Try.prog W 0 (fun _ => true) true Try.f3.params.toList args.toList ds p := hA0
  rw [Try.params3] at hA hval
  obtain ⟨v0, vs0, d0, ds0, p0, q0, hargs, rfl, rfl, h0, r0⟩ := trodAll_cons hA
  obtain ⟨v1, vs1, d1, ds1, p1, q1, rfl, rfl, rfl, h1, r1⟩ := trodAll_cons r0
  obtain ⟨rfl, rfl, rfl⟩ := trodAll_nil r1
  obtain rfl : args = #[v0, v1] := by cases args; simp_all
  obtain ⟨rfl, rfl⟩ := trodVars_none hV
  have k0 := h0
  have lt0 := lt_of_trod k0
  obtain ⟨n0, c0, b0, rfl, hb0, _, _⟩ := open_col Try.underlying24 cells24 (hval 0 24 v0 rfl rfl) h0
  have k1 := h1
  have lt1 := lt_of_trod k1
  obtain ⟨n1, c1, b1, rfl, hb1, _, _⟩ := open_col Try.underlying24 cells24 (hval 1 24 v1 rfl rfl) h1
  clear hA0 hval0
  refine (walk3 n0 c0 b0 hb0 n1 c1 b1 hb1 W ).mono fun e W' ⟨he, bel⟩ => ?_
  subst he
  exact ⟨_, rfl, _, _, _, [], _, [], hW', trodAll_mk1 (shut_bool Try.underlying4 _), (trodAll_cons_mk (Below.trod laidOut read24 row24 k0 bel lt0) (trodAll_cons_mk (Below.trod laidOut read24 row24 k1 bel lt1) trodAll_mk0)), rfl, bel.frame _, fun h => by cases h⟩
theorem fnExactProductColouring_holds : Rows.FnExactProductColouringSaid :=
  OpenClaim.holds_of_wide 3 Try.f3 rfl rfl rfl rfl rfl rfl rfl ⟨rfl, rfl, rfl, rfl, rfl⟩ rfl rfl rfl rfl rfl (by kernel_rfl) Try.func3 (by kernel_rfl)
    (of_decide_eq_true (by kernel_rfl)) (by unfold Func.isWrapper; first | (rw [if_pos (by decide +kernel)]; kernel_rfl) | (rw [if_neg (by decide +kernel)]; exact ⟨rfl, rfl⟩))
    (fun os started H enc _ => lifted3 os started H enc)
#print axioms fnExactProductColouring_holds
end Go.Proofs.Ytblehhiojednhaa
