/- CircularOf: the program and its model. -/
import Derived.Test.YtikcmgmgdbbcfaaDig
import Derived.Test.YtikcmgmgdbbcfaaGc
namespace Go.Proofs.Ytikcmgmgdbbcfaa
set_option linter.unusedVariables false
set_option linter.unusedSimpArgs false
open Go Go.RowKit Go.Shelf
def ciOk (n k : Int) (zs : List Int) : Prop := inB n 2 17 = true ∧ inB k 1 4 = true ∧ (zs.length : Int) = n / 2 ∧ allB zs k = true
instance (n k : Int) (zs : List Int) : Decidable (ciOk n k zs) := by unfold ciOk; infer_instance
def ciCode (n k : Int) (zs : List Int) : Int := if ciOk n k zs then 0 else 2
def ciN (n k : Int) (zs : List Int) : Int := if ciOk n k zs then n else 0
def ciK (n k : Int) (zs : List Int) : Int := if ciOk n k zs then k else 0
def ciB (n k : Int) (zs : List Int) : List Nat := if ciOk n k zs then paintB n.toNat (fun lo hi => zs.getD (dst n.toNat lo hi - 1) 0) else zbl
/-- What CircularOf returns. -/
def ciOut (n k : Int) (zs : List Int) : Value := .tuple #[.agg (ccells (ciN n k zs) (ciK n k zs) (ciB n k zs)).toArray, .int .i64 (ciCode n k zs)]
theorem ciOut_bad {n k : Int} {zs : List Int} (h : ¬ ciOk n k zs) : ciOut n k zs = .tuple #[.agg (ccells 0 0 zbl).toArray, .int .i64 2] := by simp [ciOut, ciN, ciK, ciB, ciCode, h]
theorem ciOut_good {n k : Int} {zs : List Int} (h : ciOk n k zs) : ciOut n k zs = .tuple #[.agg (ccells n k (paintB n.toNat (fun lo hi => zs.getD (dst n.toNat lo hi - 1) 0))).toArray, .int .i64 0] := by simp [ciOut, ciN, ciK, ciB, ciCode, h]
theorem all_rng {zs : List Int} {k : Int} (h : allB zs k = true) (hk : k ≤ 4) (j : Nat) : 0 ≤ zs.getD j 0 ∧ zs.getD j 0 < 256 := by
  by_cases hj : j < zs.length
  · exact all_lt h hk j hj
  · rw [List.getD, List.getElem?_eq_none (by omega)]; simp
theorem lst15_rng {zs : List Int} (h : ∀ j, 0 ≤ zs.getD j 0 ∧ zs.getD j 0 < 256) (j : Nat) : 0 ≤ (lst15 zs).getD j 0 ∧ (lst15 zs).getD j 0 < 256 := by
  by_cases hj : j < 15
  · rw [lst15_get zs hj]; exact h j
  · rw [List.getD, List.getElem?_eq_none (by rw [lst15_len]; omega)]; simp
theorem ciB_bys (n k : Int) (zs : List Int) : Bys (ciB n k zs) := by
  unfold ciB
  split
  · rename_i h
    exact paintB_bys fun lo hi => all_rng h.2.2.2 (inB_bd h.2.1).2 _
  · exact zbl_bys
theorem circ_lst (N : Nat) (zs : List Int) (hN : N ≤ 17) : paintB N (fun lo hi => (lst15 zs).getD (dst N lo hi - 1) 0) = paintB N (fun lo hi => zs.getD (dst N lo hi - 1) 0) :=
  paint_congr fun lo hi h1 h2 => lst15_get zs (by have := dst_bd h1 h2; omega)
set_option maxRecDepth 100000 in
set_option maxHeartbeats 2000000 in
theorem spec14c (n k : Int) (zs : List Int) (a : Option Addr) (cap : Nat) (w : World) (hs : SlI w a zs) (hl : zs.length ≤ 9223372036854775807) :
    Calls Try.prog 14 #[.int .i64 n, .int .i64 k, .slice a zs.length cap] w fun e w' => e = .returned (ciOut n k zs) ∧ Below w.heap.size w w' := by
  have Hz := zero26
  have HZS := hidd size_z26
  have HZ1 := hidd (ccells_one 0 0 zbl)
  have HSL := hidd hs
  have hb0 : Below w.heap.size w (w.alloc (.cells (ccells 0 0 zbl).toArray 25)) := (Below.refl _ _).alloc (Nat.le_refl _) _
  have hB0 := Blk.new w (ccells 0 0 zbl).toArray 25 _ rfl
  have G := hidd (And.intro (hB0.rowSame (ccells 0 0 zbl).toArray) (below_setRow hb0 (Nat.le_refl _) (ccells 0 0 zbl).toArray))
  have HB0 := hidd (And.intro hB0 hb0)
  clear hs hB0 hb0
  cases c1 : inB n 2 17 with
  | false =>
    have H1 := hidd c1
    have H := hidd (ciOut_bad (n := n) (k := k) (zs := zs) (fun h => by have h1 := h.1; rw [c1] at h1; cases h1))
    clear c1
    go_enter Try.func14, Try.ntmps14
    go_wp2_with (first
      | (go_at_call 42; refine (in49 _ _ _ _).mono ?_; rintro e w' ⟨rfl, rfl⟩; rw [H1.out])
      | (refine wpList_zero26 rfl rfl ?_)
      | (refine wpList_store_row rfl 25 (.tmp 6) (.tmp 29) rfl w.heap.size _ rfl rfl 25 _ HB0.out.1 HZS.out rfl HZ1.out ?_))
    exact ret_col rfl zbl_bys rfl G.out.1 rfl rfl ⟨by rw [H.out]; rfl, G.out.2⟩
  | true =>
    have H1 := hidd c1
    obtain ⟨n1, n2⟩ := inB_bd c1
    cases c2 : inB k 1 4 with
    | false =>
      have H2 := hidd c2
      have H := hidd (ciOut_bad (n := n) (k := k) (zs := zs) (fun h => by have h1 := h.2.1; rw [c2] at h1; cases h1))
      clear c1 c2
      go_enter Try.func14, Try.ntmps14
      go_wp2_with (first
        | (go_at_call 42; refine (in49 _ _ _ _).mono ?_; rintro e w' ⟨rfl, rfl⟩; first | rw [H1.out] | rw [H2.out])
        | (refine wpList_zero26 rfl rfl ?_)
        | (refine wpList_store_row rfl 25 (.tmp 6) (.tmp 29) rfl w.heap.size _ rfl rfl 25 _ HB0.out.1 HZS.out rfl HZ1.out ?_))
      exact ret_col rfl zbl_bys rfl G.out.1 rfl rfl ⟨by rw [H.out]; rfl, G.out.2⟩
    | true =>
      have H2 := hidd c2
      obtain ⟨k1, k2⟩ := inB_bd c2
      obtain ⟨N, rfl⟩ := Int.eq_ofNat_of_zero_le (show 0 ≤ n by omega)
      have HM := hidd (show (N : Int) / 2 = ((N / 2 : Nat) : Int) by omega)
      by_cases c3 : zs.length = N / 2
      · have hq : ((zs.length : Int) != (N : Int) / 2) = false := by simp; omega
        cases c4 : allB zs k with
        | false =>
          have H4 := hidd c4
          have H := hidd (ciOut_bad (n := (N : Int)) (k := k) (zs := zs) (fun h => by have h4 := h.2.2.2; rw [c4] at h4; cases h4))
          clear c1 c2 c3 c4
          go_enter Try.func14, Try.ntmps14
          go_wp2_with (first
            | (go_at_call 42; refine (in49 _ _ _ _).mono ?_; rintro e w' ⟨rfl, rfl⟩; first | rw [H1.out] | rw [H2.out])
            | (go_at_call 43; refine (all50 _ _ _ _ _ (HSL.out.below HB0.out.2 (Nat.le_refl _)) hl (by omega) (by omega)).mono ?_; rintro e w' ⟨rfl, rfl⟩; rw [H4.out])
            | (refine wpList_zero26 rfl rfl ?_)
            | (refine wpList_store_row rfl 25 (.tmp 6) (.tmp 29) rfl w.heap.size _ rfl rfl 25 _ HB0.out.1 HZS.out rfl HZ1.out ?_))
          exact ret_col rfl zbl_bys rfl G.out.1 rfl rfl ⟨by rw [H.out]; rfl, G.out.2⟩
        | true =>
          have H4 := hidd c4
          have HLN := hidd c3
          have H := hidd (ciOut_good (n := (N : Int)) (k := k) (zs := zs) ⟨c1, c2, by omega, c4⟩)
          rw [Int.toNat_natCast] at H
          obtain ⟨PB, hPB⟩ : ∃ PB, PB = paintB N (fun lo hi => zs.getD (dst N lo hi - 1) 0) := ⟨_, rfl⟩
          have HRG := hidd (all_rng c4 k2)
          have HPB := hidd (show Bys PB by rw [hPB]; exact paintB_bys fun lo hi => HRG.out _)
          have HC := hidd (fun W hW => scirc44 N k zs a cap W hW (by omega) (by omega) c3 HRG.out)
          rw [← hPB] at H HC
          have HPS := hidd (size_c26 (N : Int) k HPB.out)
          have HPO := hidd (size_cc 0 0 (N : Int) k zbl_bys HPB.out)
          have HPA := hidd (ccells_one (N : Int) k PB)
          clear c1 c2 c3 c4 hPB
          go_enter Try.func14, Try.ntmps14
          go_wp2_with (first
            | (go_at_call 42; refine (in49 _ _ _ _).mono ?_; rintro e w' ⟨rfl, rfl⟩; first | rw [H1.out] | rw [H2.out])
            | (go_at_call 43; refine (all50 _ _ _ _ _ (HSL.out.below HB0.out.2 (Nat.le_refl _)) hl (by omega) (by omega)).mono ?_; rintro e w' ⟨rfl, rfl⟩; rw [H4.out]))
          refine (HC.out _ (HSL.out.below HB0.out.2 (Nat.le_refl _))).mono ?_
          rintro e w2 ⟨rfl, hb2⟩
          have b2 := HB0.out.2.trans (hb2.mono (by simp))
          have z2 := HB0.out.1.below hb2 (by simp)
          have R := hidd (And.intro z2 (And.intro (z2.rowSame (ccells (N : Int) k PB).toArray) (below_setRow b2 (g := w.heap.size) (Nat.le_refl _) (ccells (N : Int) k PB).toArray)))
          clear hb2 b2 z2
          go_wp2_with (refine wpList_store_row rfl 25 (.tmp 6) (.tmp 33) rfl w.heap.size _ rfl rfl 25 _ R.out.1 HPS.out HPO.out HPA.out ?_)
          exact ret_col rfl HPB.out rfl R.out.2.1 rfl rfl ⟨by rw [H.out]; rfl, R.out.2.2⟩
      · have hq : ((zs.length : Int) != (N : Int) / 2) = true := by rw [bne_iff_ne]; omega
        have H := hidd (ciOut_bad (n := (N : Int)) (k := k) (zs := zs) (fun h => c3 (by have := h.2.2.1; omega)))
        clear c1 c2 c3
        go_enter Try.func14, Try.ntmps14
        go_wp2_with (first
          | (go_at_call 42; refine (in49 _ _ _ _).mono ?_; rintro e w' ⟨rfl, rfl⟩; first | rw [H1.out] | rw [H2.out])
          | (refine wpList_zero26 rfl rfl ?_)
          | (refine wpList_store_row rfl 25 (.tmp 6) (.tmp 29) rfl w.heap.size _ rfl rfl 25 _ HB0.out.1 HZS.out rfl HZ1.out ?_))
        exact ret_col rfl zbl_bys rfl G.out.1 rfl rfl ⟨by rw [H.out]; rfl, G.out.2⟩
set_option maxRecDepth 100000 in
set_option maxHeartbeats 2000000 in
theorem impl16c (n k : Int) (zs : List Int) (a : Option Addr) (cap : Nat) (w : World) (hs : SlI w a zs) (hl : zs.length ≤ 9223372036854775807) :
    Calls Try.prog 16 #[.int .i64 n, .int .i64 k, .slice a zs.length cap] w fun e w' => e = .returned (ciOut n k zs) ∧ Below w.heap.size w w' := by
  have Hz := zero26
  have HZS := hidd size_z26
  have HZ1 := hidd (ccells_one 0 0 zbl)
  have HSL := hidd hs
  have hb0 : Below w.heap.size w (w.alloc (.cells (ccells 0 0 zbl).toArray 25)) := (Below.refl _ _).alloc (Nat.le_refl _) _
  have hB0 := Blk.new w (ccells 0 0 zbl).toArray 25 _ rfl
  have G := hidd (And.intro (hB0.rowSame (ccells 0 0 zbl).toArray) (below_setRow hb0 (Nat.le_refl _) (ccells 0 0 zbl).toArray))
  have HB0 := hidd (And.intro hB0 hb0)
  clear hs hB0 hb0
  cases c1 : inB n 2 17 with
  | false =>
    have H1 := hidd c1
    have H := hidd (ciOut_bad (n := n) (k := k) (zs := zs) (fun h => by have h1 := h.1; rw [c1] at h1; cases h1))
    clear c1
    go_enter Try.func16, Try.ntmps16
    go_wp2_with (first
      | (go_at_call 45; refine (within45 _ _ _ _).mono ?_; rintro e w' ⟨rfl, rfl⟩; rw [H1.out])
      | (refine wpList_zero26 rfl rfl ?_)
      | (refine wpList_store_row rfl 25 (.tmp 6) (.tmp 24) rfl w.heap.size _ rfl rfl 25 _ HB0.out.1 HZS.out rfl HZ1.out ?_))
    exact ret_col rfl zbl_bys rfl G.out.1 rfl rfl ⟨by rw [H.out]; rfl, G.out.2⟩
  | true =>
    have H1 := hidd c1
    obtain ⟨n1, n2⟩ := inB_bd c1
    cases c2 : inB k 1 4 with
    | false =>
      have H2 := hidd c2
      have H := hidd (ciOut_bad (n := n) (k := k) (zs := zs) (fun h => by have h1 := h.2.1; rw [c2] at h1; cases h1))
      clear c1 c2
      go_enter Try.func16, Try.ntmps16
      go_wp2_with (first
        | (go_at_call 45; refine (within45 _ _ _ _).mono ?_; rintro e w' ⟨rfl, rfl⟩; first | rw [H1.out] | rw [H2.out])
        | (refine wpList_zero26 rfl rfl ?_)
        | (refine wpList_store_row rfl 25 (.tmp 6) (.tmp 24) rfl w.heap.size _ rfl rfl 25 _ HB0.out.1 HZS.out rfl HZ1.out ?_))
      exact ret_col rfl zbl_bys rfl G.out.1 rfl rfl ⟨by rw [H.out]; rfl, G.out.2⟩
    | true =>
      have H2 := hidd c2
      obtain ⟨k1, k2⟩ := inB_bd c2
      obtain ⟨N, rfl⟩ := Int.eq_ofNat_of_zero_le (show 0 ≤ n by omega)
      have HM := hidd (show (N : Int) / 2 = ((N / 2 : Nat) : Int) by omega)
      cases c3 : isListB zs ((N : Int) / 2) k with
      | false =>
        have HI := hidd c3
        have H := hidd (ciOut_bad (n := (N : Int)) (k := k) (zs := zs) (fun h => by unfold isListB at c3; rw [h.2.2.2, decide_eq_true h.2.2.1] at c3; cases c3))
        clear c1 c2 c3
        go_enter Try.func16, Try.ntmps16
        go_wp2_with (first
          | (go_at_call 45; refine (within45 _ _ _ _).mono ?_; rintro e w' ⟨rfl, rfl⟩; first | rw [H1.out] | rw [H2.out])
          | (go_at_call 46; refine (isList46 zs a cap _ k _ (HSL.out.below HB0.out.2 (Nat.le_refl _)) hl).mono ?_; rintro e w' ⟨rfl, rfl⟩; rw [HI.out])
          | (refine wpList_zero26 rfl rfl ?_)
          | (refine wpList_store_row rfl 25 (.tmp 6) (.tmp 24) rfl w.heap.size _ rfl rfl 25 _ HB0.out.1 HZS.out rfl HZ1.out ?_))
        exact ret_col rfl zbl_bys rfl G.out.1 rfl rfl ⟨by rw [H.out]; rfl, G.out.2⟩
      | true =>
        have HI := hidd c3
        obtain ⟨c3a, c4⟩ : (zs.length : Int) = (N : Int) / 2 ∧ allB zs k = true := by unfold isListB at c3; rw [Bool.and_eq_true] at c3; exact ⟨of_decide_eq_true c3.1, c3.2⟩
        have H := hidd (ciOut_good (n := (N : Int)) (k := k) (zs := zs) ⟨c1, c2, c3a, c4⟩)
        rw [Int.toNat_natCast] at H
        obtain ⟨PB, hPB⟩ : ∃ PB, PB = paintB N (fun lo hi => zs.getD (dst N lo hi - 1) 0) := ⟨_, rfl⟩
        have HRG := hidd (all_rng c4 k2)
        have HPB := hidd (show Bys PB by rw [hPB]; exact paintB_bys fun lo hi => HRG.out _)
        have HC := hidd (fun W => circ47 (lst15 zs) N k W (lst15_len zs) (by omega) (by omega) (lst15_rng HRG.out))
        rw [circ_lst N zs (by omega), ← hPB] at HC
        rw [← hPB] at H
        have HL := hidd (fun W hW => list48 zs a cap W hW (by omega) (by omega))
        have HPS := hidd (size_c26 (N : Int) k HPB.out)
        have HPO := hidd (size_cc 0 0 (N : Int) k zbl_bys HPB.out)
        have HPA := hidd (ccells_one (N : Int) k PB)
        clear c1 c2 c3 c3a c4 hPB
        go_enter Try.func16, Try.ntmps16
        go_wp2_with (first
          | (go_at_call 45; refine (within45 _ _ _ _).mono ?_; rintro e w' ⟨rfl, rfl⟩; first | rw [H1.out] | rw [H2.out])
          | (go_at_call 46; refine (isList46 zs a cap _ k _ (HSL.out.below HB0.out.2 (Nat.le_refl _)) hl).mono ?_; rintro e w' ⟨rfl, rfl⟩; rw [HI.out])
          | fail)
        refine (HL.out _ (HSL.out.below HB0.out.2 (Nat.le_refl _))).mono ?_
        rintro e w1 ⟨rfl, hb1⟩
        have G1 := hidd (And.intro (HB0.out.1.below hb1 (by simp)) (HB0.out.2.trans (hb1.mono (by simp))))
        clear hb1
        go_wp2_with fail
        refine (HC.out _).mono ?_
        rintro e w2 ⟨rfl, hb2⟩
        have b2 := G1.out.2.trans (hb2.mono G1.out.2.size)
        have z2 := G1.out.1.below hb2 G1.out.1.lt
        have R := hidd (And.intro z2 (And.intro (z2.rowSame (ccells (N : Int) k PB).toArray) (below_setRow b2 (g := w.heap.size) (Nat.le_refl _) (ccells (N : Int) k PB).toArray)))
        clear hb2 b2 z2
        go_wp2_with (refine wpList_store_row rfl 25 (.tmp 6) (.tmp 29) rfl w.heap.size _ rfl rfl 25 _ R.out.1 HPS.out HPO.out HPA.out ?_)
        exact ret_col rfl HPB.out rfl R.out.2.1 rfl rfl ⟨by rw [H.out]; rfl, R.out.2.2⟩
end Go.Proofs.Ytikcmgmgdbbcfaa
