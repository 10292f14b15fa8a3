/- FirstAvoiding: what it answers; the model. -/
import Derived.Test.YtckffliiidgilaaDoorFiq
namespace Go.Proofs.YtckffliiidgilaaDoor
set_option linter.unusedVariables false
set_option linter.unusedSimpArgs false
open Go Go.RowKit Go.Shelf
def fiOk (n : Int) (zs : List Int) : Bool := inB n 1 8 && szOk 2 zs
/-- All of them, in order. -/
def fiA (n : Int) (zs : List Int) : List (List Nat) := gwL zs 2 n.toNat 1 zbl
def fiC (n : Int) (zs : List Int) : Int := if fiOk n zs = true then (if (fiA n zs).isEmpty = true then 4 else 0) else 2
def fiV (n : Int) (zs : List Int) : List Value := if fiOk n zs = true then fvC n.toNat 2 (fiA n zs) else ccells 0 0 zbl
theorem fi_bad {n : Int} {zs : List Int} (h : fiOk n zs = false) : fiV n zs = ccells 0 0 zbl ∧ fiC n zs = 2 := by unfold fiV fiC; rw [h]; exact ⟨rfl, rfl⟩
theorem fi_none {n : Int} {zs : List Int} (h : fiOk n zs = true) (h0 : fiA n zs = []) : fiV n zs = ccells 0 0 zbl ∧ fiC n zs = 4 := by unfold fiV fiC; rw [if_pos h, if_pos h, h0]; exact ⟨rfl, rfl⟩
theorem fi_some {n : Int} {zs : List Int} (h : fiOk n zs = true) {b : List Nat} {r : List (List Nat)} (h0 : fiA n zs = b :: r) : fiV n zs = ccells (n.toNat : Int) 2 b ∧ fiC n zs = 0 := by unfold fiV fiC; rw [if_pos h, if_pos h, h0]; exact ⟨rfl, rfl⟩
theorem fi_bd {n : Int} {zs : List Int} (h : fiOk n zs = true) : 1 ≤ n ∧ n ≤ 8 ∧ zs.length = 2 ∧ szP zs 2 = true := by
  unfold fiOk at h
  rw [Bool.and_eq_true] at h
  have h1 := inB_bd h.1
  have h2 := szOk_bd h.2
  have h3 : zs.length = 2 := by omega
  rw [h3] at h2
  exact ⟨h1.1, h1.2, h3, h2.2⟩
theorem fiA_bys {n : Int} {zs : List Int} : ∀ b ∈ fiA n zs, Bys b := by
  intro b hb
  unfold fiA gwL at hb
  split at hb
  · exact grL_bys (by decide) _ _ _ zbl_bys b hb
  · cases hb
set_option maxRecDepth 100000 in
set_option maxHeartbeats 4000000 in
theorem spec35 (n : Int) (zs : List Int) (a : Option Addr) (cap : Nat) (w : World) (hs : SlI w a zs) (hl : zs.length ≤ 1048576) :
    Calls Tryd.prog 35 #[.int .i64 n, .slice a zs.length cap] w fun e w' => e = .returned (.tuple #[.agg (fiV n zs).toArray, .int .i64 (fiC n zs)]) ∧ Below w.heap.size w w' := by
  have HSL := hidd hs
  have HSZ := hidd (fun W h => sizes60 2 zs a cap W h hl)
  have Hz := zero26
  have HZ := hidd (show (Tryd.prog.info? 28).map (·.size) = some (ccells 0 0 zbl).toArray.size ∧ (ccells 0 0 zbl).toArray.all (·.oneCell') = true from ⟨size_z26, ccells_one _ _ _⟩)
  have HB0 := hidd (And.intro (Blk.new w (ccells 0 0 zbl).toArray 28 _ rfl) ((Below.refl w.heap.size w).alloc (Nat.le_refl _) (.cells (ccells 0 0 zbl).toArray 28)))
  have L0 := hidd (And.intro (HB0.out.1.rowSame (ccells 0 0 zbl).toArray) (below_setRow HB0.out.2 (Nat.le_refl _) (ccells 0 0 zbl).toArray))
  have hok : fiOk n zs = (inB n 1 8 && decide ((if szOk 2 zs then (0 : Int) else 2) = 0)) := by
    unfold fiOk
    congr 1
    cases szOk 2 zs <;> rfl
  have HOK := hidd hok
  clear hok
  obtain ⟨x1, hx1⟩ : ∃ x1, x1 = inB n 1 8 := ⟨_, rfl⟩
  obtain ⟨x3, hx3⟩ : ∃ x3 : Int, x3 = if szOk 2 zs then 0 else 2 := ⟨_, rfl⟩
  have hz3 : x3 = 0 ∨ x3 = 2 := by rw [hx3]; split <;> simp
  rw [← hx1, ← hx3] at HOK
  have HX1 := hidd (show inB n 1 8 = x1 from hx1.symm)
  have HX3 := hidd (show (if szOk 2 zs then (0 : Int) else 2) = x3 from hx3.symm)
  clear hx1 hx3
  cases x1 with
  | false =>
    have HV := hidd (fi_bad (n := n) (zs := zs) (by rw [HOK.out]; rfl))
    rw [HV.out.1, HV.out.2]
    clear hz3
    go_enter Tryd.func35, Tryd.ntmps35
    go_wp2_with (first
      | (go_at_call 59; refine (in49 _ _ _ _).mono ?_; rintro e w' ⟨rfl, rfl⟩; rw [HX1.out])
      | (go_at_call 60; refine (HSZ.out _ (HSL.out.below HB0.out.2 (Nat.le_refl _))).mono ?_; rintro e w' ⟨rfl, rfl⟩; rw [HX3.out])
      | (refine wpList_zero26 rfl rfl ?_)
      | (refine wpList_store_row rfl 28 (.tmp 4) (.tmp 17) rfl w.heap.size _ rfl rfl 28 _ HB0.out.1 HZ.out.1 rfl HZ.out.2 ?_))
    exact ret_sz28 rfl HZ.out.1 rfl L0.out.1 rfl rfl ⟨rfl, L0.out.2⟩
  | true =>
    rcases hz3 with rfl | rfl
    · have hOKt : fiOk n zs = true := by rw [HOK.out]; rfl
      obtain ⟨b1, b2, b3, b4⟩ := fi_bd hOKt
      obtain ⟨N, rfl⟩ := Int.eq_ofNat_of_zero_le (show 0 ≤ n by omega)
      have HNO := hidd (fun h => fi_none (n := (N : Int)) (zs := zs) hOKt h)
      have HSO := hidd (fun (b : List Nat) r h => fi_some (n := (N : Int)) (zs := zs) (b := b) (r := r) hOKt h)
      have hfa : fiA (N : Int) zs = if avP 1 zbl zs 2 = true then grL zs 2 (N - 1) 1 zbl else [] := rfl
      have HFB := fiA_bys (n := (N : Int)) (zs := zs)
      rw [hfa] at HNO HSO HFB
      rw [b3] at HSZ ⊢
      have HAV := hidd (fun W h => avoids44 1 2 zbl zbl_bys zs a cap W h b3 (by omega) (by omega) (by omega) b4)
      have HFI := hidd (fun (h2 : no1 zs 2) W h => spec65 zs 2 a cap N b3 (by omega) (by omega) h2 b4 (by omega) (N - 1) 1 zbl W (by omega) (by omega) zbl_bys h)
      have HN1 := hidd (fun (h : avP 1 zbl zs 2 = true) => no1_of_av (by omega) b4 h)
      have HSC := hidd (show (Tryd.prog.info? 28).map (·.size) = some (ccells (1 : Int) (2 : Int) zbl).toArray.size ∧ (ccells 0 0 zbl).toArray.size = (ccells (1 : Int) (2 : Int) zbl).toArray.size ∧ (ccells (1 : Int) (2 : Int) zbl).toArray.all (·.oneCell') = true from ⟨size_c26 1 2 zbl_bys, rfl, ccells_one _ _ _⟩)
      obtain ⟨C, hC⟩ : ∃ C, C = (ccells (1 : Int) (2 : Int) zbl).toArray := ⟨_, rfl⟩
      have HC := hidd hC
      have hC1 : (ccells ((1 : Nat) : Int) ((2 : Nat) : Int) zbl).toArray = C := hC.symm
      rw [hC1] at HAV HFI
      rw [← hC] at HSC
      clear hC hC1 hfa hOKt b1 b2 b3 b4
      have HB1 := hidd (show Blk ((w.alloc (.cells (ccells 0 0 zbl).toArray 28)).alloc (.cells (ccells 0 0 zbl).toArray 28)) (w.heap.size + 1) (ccells 0 0 zbl).toArray 28 from Blk.new _ _ _ _ (by simp))
      obtain ⟨W2, hW2⟩ : ∃ W2, W2 = ((w.alloc (.cells (ccells 0 0 zbl).toArray 28)).alloc (.cells (ccells 0 0 zbl).toArray 28)).setRow (w.heap.size + 1) C := ⟨_, rfl⟩
      have G := hidd (show Blk W2 (w.heap.size + 1) C 28 ∧ Blk W2 w.heap.size (ccells 0 0 zbl).toArray 28 ∧ Below w.heap.size w W2 from by
        rw [hW2]; exact ⟨HB1.out.rowSame _, (HB0.out.1.alloc _).rowOther _ _ (by omega), below_setRow (HB0.out.2.alloc (by simp) _) (by omega) _⟩)
      go_enter Tryd.func35, Tryd.ntmps35
      go_upto_region 4 with (first
        | (go_at_call 59; refine (in49 _ _ _ _).mono ?_; rintro e w' ⟨rfl, rfl⟩; rw [HX1.out])
        | (go_at_call 60; refine (HSZ.out _ (HSL.out.below HB0.out.2 (Nat.le_refl _))).mono ?_; rintro e w' ⟨rfl, rfl⟩; rw [HX3.out])
        | (refine wpList_nk rfl _ _ rfl rfl rfl ?_; rw [← HC.out])
        | (refine wpList_store_row rfl 28 (.tmp 6) (.tmp 18) rfl (w.heap.size + 1) _ rfl rfl 28 _ HB1.out HSC.out.1 HSC.out.2.1 HSC.out.2.2 ?_; rw [← hW2]; clear hW2))
      go_wp2_with (refine wpList_load_row rfl 28 (.tmp 6) rfl (w.heap.size + 1) rfl 28 _ (0,0) _ G.out.1 Tryd.underlying28 rfl HSC.out.1 ?_)
      refine (HAV.out _ (HSL.out.below G.out.2.2 (Nat.le_refl _))).mono ?_
      rintro e w3 ⟨rfl, hb3⟩
      have G3 := hidd (show Blk w3 (w.heap.size + 1) C 28 ∧ Blk w3 w.heap.size (ccells 0 0 zbl).toArray 28 ∧ Below w.heap.size w w3 from
        ⟨G.out.1.below hb3 G.out.1.lt, G.out.2.1.below hb3 G.out.2.1.lt, G.out.2.2.trans (hb3.mono G.out.2.2.size)⟩)
      clear hb3
      obtain ⟨av, hav⟩ : ∃ av, av = avP 1 zbl zs 2 := ⟨_, rfl⟩
      rw [← hav] at HNO HSO HFB HN1 ⊢
      cases av with
      | false =>
        have HV := hidd (HNO.out rfl)
        have L := hidd (And.intro (G3.out.2.1.rowSame (ccells 0 0 zbl).toArray) (below_setRow G3.out.2.2 (Nat.le_refl _) (ccells 0 0 zbl).toArray))
        clear hav
        go_wp2_with (first
          | (refine wpList_zero26 rfl rfl ?_)
          | (refine wpList_store_row rfl 28 (.tmp 4) (.tmp 23) rfl w.heap.size _ rfl rfl 28 _ G3.out.2.1 HZ.out.1 rfl HZ.out.2 ?_))
        exact ret_sz28 rfl HZ.out.1 rfl L.out.1 rfl rfl ⟨by rw [HV.out.1, HV.out.2]; rfl, L.out.2⟩
      | true =>
        have HFV := hidd (HFI.out (HN1.out rfl))
        clear hav HFI HN1
        rw [if_pos rfl] at HNO HSO HFB
        obtain ⟨T, hT⟩ : ∃ T, T = grL zs 2 (N - 1) 1 zbl := ⟨_, rfl⟩
        rw [← hT] at HNO HSO HFB HFV
        have HF := hidd (fvC_sz N 2 (l := T) HFB)
        obtain ⟨F, hF⟩ : ∃ F, F = (fvC N 2 T).toArray := ⟨_, rfl⟩
        rw [← hF] at HF HFV
        have HFF := hidd hF
        clear hT hF HFB
        go_wp2_with (refine wpList_load_row rfl 28 (.tmp 6) rfl (w.heap.size + 1) rfl 28 _ (0,0) _ G3.out.1 Tryd.underlying28 rfl HSC.out.1 ?_)
        refine (HFV.out _ (HSL.out.below G3.out.2.2 (Nat.le_refl _))).mono ?_
        rintro e w4 ⟨rfl, hb4⟩
        have HB4 := hidd (Blk.new w4 (ccells 0 0 zbl).toArray 28 _ rfl)
        obtain ⟨W5, hW5⟩ : ∃ W5, W5 = (w4.alloc (.cells (ccells 0 0 zbl).toArray 28)).setRow w4.heap.size F := ⟨_, rfl⟩
        have G5 := hidd (show Blk W5 w4.heap.size F 28 ∧ Blk W5 w.heap.size (ccells 0 0 zbl).toArray 28 ∧ Below w.heap.size w W5 from by
          have k1 := G3.out.2.1.below hb4 G3.out.2.1.lt
          have k2 := G3.out.2.2.trans (hb4.mono G3.out.2.2.size)
          have k3 := k1.lt
          rw [hW5]; exact ⟨HB4.out.rowSame _, (k1.alloc _).rowOther _ _ (by omega), below_setRow (k2.alloc k2.size _) k2.size _⟩)
        have L5 := hidd (And.intro (G5.out.2.1.rowSame F) (below_setRow G5.out.2.2 (Nat.le_refl _) F))
        have L6 := hidd (And.intro (G5.out.2.1.rowSame (ccells 0 0 zbl).toArray) (below_setRow G5.out.2.2 (Nat.le_refl _) (ccells 0 0 zbl).toArray))
        clear hb4
        cases T with
        | nil =>
          have HV := hidd (HNO.out rfl)
          go_wp2_with (first
            | (refine wpList_store_row rfl 28 (.tmp 7) (.tmp 29) rfl w4.heap.size _ rfl rfl 28 _ HB4.out HF.out.1 HF.out.2.1 HF.out.2.2 ?_; rw [← hW5]; clear hW5)
            | (refine wpList_zero26 rfl rfl ?_)
            | (refine wpList_store_row rfl 28 (.tmp 4) (.tmp 33) rfl w.heap.size _ rfl rfl 28 _ G5.out.2.1 HZ.out.1 rfl HZ.out.2 ?_))
          exact ret_sz28 rfl HZ.out.1 rfl L6.out.1 rfl rfl ⟨by rw [HV.out.1, HV.out.2]; rfl, L6.out.2⟩
        | cons b0 r0 =>
          have HV := hidd (HSO.out b0 r0 rfl)
          have HFE := hidd (show (ccells ((N : Int).toNat : Int) 2 b0).toArray = F from HFF.out.symm)
          go_wp2_with (first
            | (refine wpList_store_row rfl 28 (.tmp 7) (.tmp 29) rfl w4.heap.size _ rfl rfl 28 _ HB4.out HF.out.1 HF.out.2.1 HF.out.2.2 ?_; rw [← hW5]; clear hW5)
            | (refine wpList_load_row rfl 28 (.tmp 7) rfl w4.heap.size rfl 28 _ (0,0) _ G5.out.1 Tryd.underlying28 rfl HF.out.1 ?_)
            | (refine wpList_store_row rfl 28 (.tmp 4) (.tmp 34) rfl w.heap.size _ rfl rfl 28 _ G5.out.2.1 HF.out.1 HF.out.2.1 HF.out.2.2 ?_))
          exact ret_sz28 rfl HF.out.1 rfl L5.out.1 rfl rfl ⟨by rw [HV.out.1, HV.out.2, HFE.out]; rfl, L5.out.2⟩
    · have HV := hidd (fi_bad (n := n) (zs := zs) (by rw [HOK.out]; rfl))
      rw [HV.out.1, HV.out.2]
      go_enter Tryd.func35, Tryd.ntmps35
      go_wp2_with (first
        | (go_at_call 59; refine (in49 _ _ _ _).mono ?_; rintro e w' ⟨rfl, rfl⟩; rw [HX1.out])
        | (go_at_call 60; refine (HSZ.out _ (HSL.out.below HB0.out.2 (Nat.le_refl _))).mono ?_; rintro e w' ⟨rfl, rfl⟩; rw [HX3.out])
        | (refine wpList_zero26 rfl rfl ?_)
        | (refine wpList_store_row rfl 28 (.tmp 4) (.tmp 17) rfl w.heap.size _ rfl rfl 28 _ HB0.out.1 HZ.out.1 rfl HZ.out.2 ?_))
      exact ret_sz28 rfl HZ.out.1 rfl L0.out.1 rfl rfl ⟨rfl, L0.out.2⟩
end Go.Proofs.YtckffliiidgilaaDoor
