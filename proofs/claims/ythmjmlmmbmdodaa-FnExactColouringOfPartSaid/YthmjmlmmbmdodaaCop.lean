/- ColouringOfPart: the program and its model. -/
import Derived.Test.YthmjmlmmbmdodaaPtd
namespace Go.Proofs.Ythmjmlmmbmdodaa
set_option linter.unusedVariables false
set_option linter.unusedSimpArgs false
open Go Go.RowKit Go.Shelf
def cpOk (k : Int) (zs : List Int) : Prop := partB k zs = true ∧ (zs.length : Int) ≤ 16
instance (k : Int) (zs : List Int) : Decidable (cpOk k zs) := by unfold cpOk; infer_instance
def cpCode (k : Int) (zs : List Int) : Int := if cpOk k zs then 0 else 2
def cpN (k : Int) (zs : List Int) : Int := if cpOk k zs then ((zs.length + 1 : Nat) : Int) else 0
def cpK (k : Int) (zs : List Int) : Int := if cpOk k zs then k else 0
def cpB (k : Int) (zs : List Int) : List Nat := if cpOk k zs then paintB (zs.length + 1) (prR zs) else zbl
/-- What ColouringOfPart returns. -/
def cpOut (k : Int) (zs : List Int) : Value := .tuple #[.agg (ccells (cpN k zs) (cpK k zs) (cpB k zs)).toArray, .int .i64 (cpCode k zs)]
theorem cpOut_bad {k : Int} {zs : List Int} (h : ¬ cpOk k zs) : cpOut k zs = .tuple #[.agg (ccells 0 0 zbl).toArray, .int .i64 2] := by simp [cpOut, cpN, cpK, cpB, cpCode, h]
theorem cpOut_good {k : Int} {zs : List Int} (h : cpOk k zs) : cpOut k zs = .tuple #[.agg (ccells ((zs.length + 1 : Nat) : Int) k (paintB (zs.length + 1) (prR zs))).toArray, .int .i64 0] := by simp [cpOut, cpN, cpK, cpB, cpCode, h]
theorem all_rng {zs : List Int} {k : Int} (h : allB zs k = true) (hk : k ≤ 4) (j : Nat) : 0 ≤ zs.getD j 0 ∧ zs.getD j 0 < 256 := by
  by_cases hj : j < zs.length
  · exact all_lt h hk j hj
  · rw [List.getD, List.getElem?_eq_none (by omega)]; simp
theorem cpB_bys (k : Int) (zs : List Int) : Bys (cpB k zs) := by
  unfold cpB
  split
  · rename_i h
    have hp := partB_bd h.1
    exact paintB_bys fun lo hi => all_rng hp.2.2.2 (by omega) _
  · exact zbl_bys
set_option maxRecDepth 100000 in
set_option maxHeartbeats 2000000 in
theorem spec23p (k : Int) (zs : List Int) (a : Option Addr) (cap : Nat) (w : World) (hs : SlI w a zs) (hl : zs.length ≤ 9223372036854775807) :
    Calls Try.prog 23 #[.int .i64 k, .slice a zs.length cap] w fun e w' => e = .returned (cpOut k zs) ∧ Below w.heap.size w w' := by
  have Hz := zero26
  have HZS := hidd size_z26
  have HZ1 := hidd (ccells_one 0 0 zbl)
  have HSL := hidd hs
  have hb0 : Below w.heap.size w (w.alloc (.cells (ccells 0 0 zbl).toArray 35)) := (Below.refl _ _).alloc (Nat.le_refl _) _
  have hB0 := Blk.new w (ccells 0 0 zbl).toArray 35 _ rfl
  have G := hidd (And.intro (hB0.rowSame (ccells 0 0 zbl).toArray) (below_setRow hb0 (Nat.le_refl _) (ccells 0 0 zbl).toArray))
  have HB0 := hidd (And.intro hB0 hb0)
  clear hs hB0 hb0
  cases c1 : partB k zs with
  | false =>
    have H1 := hidd (ptCode_p (kind := 0) c1)
    have H := hidd (cpOut_bad (k := k) (zs := zs) (fun h => by have h1 := h.1; rw [c1] at h1; cases h1))
    clear c1
    go_enter Try.func23, Try.ntmps23
    go_wp2_with (first
      | (go_at_call 33; refine (code33 _ _ _ _ _ _ (HSL.out.below HB0.out.2 (Nat.le_refl _)) hl).mono ?_; rintro e w' ⟨rfl, rfl⟩; rw [H1.out])
      | (refine wpList_zero26 rfl rfl ?_)
      | (refine wpList_store_row rfl 35 (.tmp 4) (.tmp 15) rfl w.heap.size _ rfl rfl 35 _ HB0.out.1 HZS.out rfl HZ1.out ?_))
    exact ret_col rfl zbl_bys rfl G.out.1 rfl rfl ⟨by rw [H.out]; rfl, G.out.2⟩
  | true =>
    have H1 := hidd (ptCode_0 c1 (show inB 0 0 2 = true by decide))
    obtain ⟨k1, k2, l1, hall⟩ := partB_bd c1
    by_cases c2 : (zs.length : Int) ≤ 16
    · have H := hidd (cpOut_good (k := k) (zs := zs) ⟨c1, c2⟩)
      have HRG := hidd (all_rng hall (by omega))
      obtain ⟨N, hN⟩ : ∃ N, N = zs.length + 1 := ⟨_, rfl⟩
      rw [← hN] at H
      obtain ⟨PB, hPB⟩ : ∃ PB, PB = paintB N (prR zs) := ⟨_, rfl⟩
      have HPB := hidd (show Bys PB by rw [hPB]; exact paintB_bys fun lo hi => HRG.out _)
      have HC := hidd (fun W hW => scol42 zs a cap N k W hW (by omega) hN HRG.out)
      rw [← hPB] at H HC
      have HPS := hidd (size_c26 (N : Int) k HPB.out)
      have HPO := hidd (size_cc 0 0 (N : Int) k zbl_bys HPB.out)
      have HPA := hidd (ccells_one (N : Int) k PB)
      have hd : decide (16 < (zs.length : Int)) = false := by simpa using c2
      clear c1 hPB hN hall
      go_enter Try.func23, Try.ntmps23
      go_wp2_with (first
        | (go_at_call 33; refine (code33 _ _ _ _ _ _ (HSL.out.below HB0.out.2 (Nat.le_refl _)) hl).mono ?_; rintro e w' ⟨rfl, rfl⟩; rw [H1.out]))
      refine (HC.out _ (HSL.out.below HB0.out.2 (Nat.le_refl _))).mono ?_
      rintro e w2 ⟨rfl, hb2⟩
      have b2 := HB0.out.2.trans (hb2.mono (by simp))
      have z2 := HB0.out.1.below hb2 (by simp)
      have R := hidd (And.intro z2 (And.intro (z2.rowSame (ccells (N : Int) k PB).toArray) (below_setRow b2 (g := w.heap.size) (Nat.le_refl _) (ccells (N : Int) k PB).toArray)))
      clear hb2 b2 z2
      go_wp2_with (refine wpList_store_row rfl 35 (.tmp 4) (.tmp 18) rfl w.heap.size _ rfl rfl 35 _ R.out.1 HPS.out HPO.out HPA.out ?_)
      exact ret_col rfl HPB.out rfl R.out.2.1 rfl rfl ⟨by rw [H.out]; rfl, R.out.2.2⟩
    · have H := hidd (cpOut_bad (k := k) (zs := zs) (fun h => c2 h.2))
      have hd : 16 < (zs.length : Int) := by omega
      clear c1 c2 hall
      go_enter Try.func23, Try.ntmps23
      go_wp2_with (first
        | (go_at_call 33; refine (code33 _ _ _ _ _ _ (HSL.out.below HB0.out.2 (Nat.le_refl _)) hl).mono ?_; rintro e w' ⟨rfl, rfl⟩; rw [H1.out])
        | (refine wpList_zero26 rfl rfl ?_)
        | (refine wpList_store_row rfl 35 (.tmp 4) (.tmp 15) rfl w.heap.size _ rfl rfl 35 _ HB0.out.1 HZS.out rfl HZ1.out ?_))
      exact ret_col rfl zbl_bys rfl G.out.1 rfl rfl ⟨by rw [H.out]; rfl, G.out.2⟩
set_option maxRecDepth 100000 in
set_option maxHeartbeats 2000000 in
theorem impl24p (k : Int) (zs : List Int) (a : Option Addr) (cap : Nat) (w : World) (hs : SlI w a zs) (hl : zs.length ≤ 9223372036854775807) :
    Calls Try.prog 24 #[.int .i64 k, .slice a zs.length cap] w fun e w' => e = .returned (cpOut k zs) ∧ Below w.heap.size w w' := by
  have Hz := zero26
  have HZS := hidd size_z26
  have HZ1 := hidd (ccells_one 0 0 zbl)
  have HSL := hidd hs
  have hb0 : Below w.heap.size w (w.alloc (.cells (ccells 0 0 zbl).toArray 35)) := (Below.refl _ _).alloc (Nat.le_refl _) _
  have hB0 := Blk.new w (ccells 0 0 zbl).toArray 35 _ rfl
  have G := hidd (And.intro (hB0.rowSame (ccells 0 0 zbl).toArray) (below_setRow hb0 (Nat.le_refl _) (ccells 0 0 zbl).toArray))
  have HB0 := hidd (And.intro hB0 hb0)
  clear hs hB0 hb0
  cases c1 : partB k zs with
  | false =>
    have H1 := hidd (c1)
    have H := hidd (cpOut_bad (k := k) (zs := zs) (fun h => by have h1 := h.1; rw [c1] at h1; cases h1))
    clear c1
    go_enter Try.func24, Try.ntmps24
    go_wp2_with (first
      | (go_at_call 43; refine (isPart43 _ _ _ _ _ (HSL.out.below HB0.out.2 (Nat.le_refl _)) hl).mono ?_; rintro e w' ⟨rfl, rfl⟩; rw [H1.out])
      | (refine wpList_zero26 rfl rfl ?_)
      | (refine wpList_store_row rfl 35 (.tmp 4) (.tmp 15) rfl w.heap.size _ rfl rfl 35 _ HB0.out.1 HZS.out rfl HZ1.out ?_))
    exact ret_col rfl zbl_bys rfl G.out.1 rfl rfl ⟨by rw [H.out]; rfl, G.out.2⟩
  | true =>
    have H1 := hidd (c1)
    obtain ⟨k1, k2, l1, hall⟩ := partB_bd c1
    by_cases c2 : (zs.length : Int) ≤ 16
    · have H := hidd (cpOut_good (k := k) (zs := zs) ⟨c1, c2⟩)
      have HRG := hidd (all_rng hall (by omega))
      obtain ⟨N, hN⟩ : ∃ N, N = zs.length + 1 := ⟨_, rfl⟩
      rw [← hN] at H
      obtain ⟨PB, hPB⟩ : ∃ PB, PB = paintB N (prR zs) := ⟨_, rfl⟩
      have HPB := hidd (show Bys PB by rw [hPB]; exact paintB_bys fun lo hi => HRG.out _)
      have HC := hidd (fun W hW => pcol44 zs a cap N k W hW (by omega) hN HRG.out)
      rw [← hPB] at H HC
      have HPS := hidd (size_c26 (N : Int) k HPB.out)
      have HPO := hidd (size_cc 0 0 (N : Int) k zbl_bys HPB.out)
      have HPA := hidd (ccells_one (N : Int) k PB)
      have hd : decide (17 ≤ (zs.length : Int)) = false := by simp; omega
      clear c1 hPB hN hall
      go_enter Try.func24, Try.ntmps24
      go_wp2_with (first
        | (go_at_call 43; refine (isPart43 _ _ _ _ _ (HSL.out.below HB0.out.2 (Nat.le_refl _)) hl).mono ?_; rintro e w' ⟨rfl, rfl⟩; rw [H1.out]))
      refine (HC.out _ (HSL.out.below HB0.out.2 (Nat.le_refl _))).mono ?_
      rintro e w2 ⟨rfl, hb2⟩
      have b2 := HB0.out.2.trans (hb2.mono (by simp))
      have z2 := HB0.out.1.below hb2 (by simp)
      have R := hidd (And.intro z2 (And.intro (z2.rowSame (ccells (N : Int) k PB).toArray) (below_setRow b2 (g := w.heap.size) (Nat.le_refl _) (ccells (N : Int) k PB).toArray)))
      clear hb2 b2 z2
      go_wp2_with (refine wpList_store_row rfl 35 (.tmp 4) (.tmp 18) rfl w.heap.size _ rfl rfl 35 _ R.out.1 HPS.out HPO.out HPA.out ?_)
      exact ret_col rfl HPB.out rfl R.out.2.1 rfl rfl ⟨by rw [H.out]; rfl, R.out.2.2⟩
    · have H := hidd (cpOut_bad (k := k) (zs := zs) (fun h => c2 h.2))
      have hd : 17 ≤ (zs.length : Int) := by omega
      clear c1 c2 hall
      go_enter Try.func24, Try.ntmps24
      go_wp2_with (first
        | (go_at_call 43; refine (isPart43 _ _ _ _ _ (HSL.out.below HB0.out.2 (Nat.le_refl _)) hl).mono ?_; rintro e w' ⟨rfl, rfl⟩; rw [H1.out])
        | (refine wpList_zero26 rfl rfl ?_)
        | (refine wpList_store_row rfl 35 (.tmp 4) (.tmp 15) rfl w.heap.size _ rfl rfl 35 _ HB0.out.1 HZS.out rfl HZ1.out ?_))
      exact ret_col rfl zbl_bys rfl G.out.1 rfl rfl ⟨by rw [H.out]; rfl, G.out.2⟩
end Go.Proofs.Ythmjmlmmbmdodaa