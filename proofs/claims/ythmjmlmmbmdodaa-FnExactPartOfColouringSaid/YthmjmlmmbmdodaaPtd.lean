/- The colouring of a part: the model. -/
import Derived.Test.YthmjmlmmbmdodaaPtc
import Derived.StillTailTactics
namespace Go.Proofs.Ythmjmlmmbmdodaa
set_option linter.unusedVariables false
set_option linter.unusedSimpArgs false
open Go Go.RowKit Go.Shelf
theorem RelSc.drew {n k : Int} {zs : List Int} {a : Option Addr} {r : Nat → Nat → Int} {w : World} {j i : Nat} {wr : World} (h : RelSc n k zs a r w j i wr) : RelSc n k zs a r w j i wr.drew :=
  ⟨h.1.drew, h.2.1.drew, h.2.2.1, below_drewN h.2.2.2 1⟩
set_option maxRecDepth 100000 in
set_option maxHeartbeats 4000000 in
theorem scol42 (zs : List Int) (a : Option Addr) (cap : Nat) (N : Nat) (k : Int) (w : World) (hs : SlI w a zs) (hl : zs.length ≤ 16) (hN : N = zs.length + 1) (hz : ∀ j, 0 ≤ zs.getD j 0 ∧ zs.getD j 0 < 256) :
    Calls Try.prog 42 #[.int .i64 k, .slice a zs.length cap] w fun e w' => e = .returned (.agg (ccells (N : Int) k (paintB N (prR zs))).toArray) ∧ Below w.heap.size w w' := by
  have Hz := zero26
  obtain ⟨r, hr⟩ : ∃ r : Nat → Nat → Int, r = prR zs := ⟨_, rfl⟩
  have HRB := hidd (show ∀ lo hi, 0 ≤ r lo hi ∧ r lo hi < 256 from fun lo hi => by rw [hr]; exact hz _)
  rw [← hr]
  have HR := hidd hr
  have HSL := hidd hs
  have HLN := hidd hN
  have hNI : (zs.length : Int) + 1 = (N : Int) := by omega
  have hl16 : (zs.length : Int) ≤ 16 := by omega
  have n1 : 1 ≤ N := by omega
  have n2 : N ≤ 17 := by omega
  have hset26 : ((ccells 0 0 zbl).set 0 (Value.int .i64 (N : Int))).set 1 (Value.int .i64 k) = ccells (N : Int) k zbl := rfl
  have HNS := hidd (size_c26 (N : Int) k zbl_bys)
  have HNO := hidd (size_cc 0 0 (N : Int) k zbl_bys zbl_bys)
  have HNA := hidd (ccells_one (N : Int) k zbl)
  have hPB : Bys (paintB N r) := paintB_bys HRB.out
  have HPB := hidd hPB
  have HPS := hidd (size_c26 (N : Int) k hPB)
  have HPO := hidd (size_cc 0 0 (N : Int) k zbl_bys hPB)
  have HPA := hidd (ccells_one (N : Int) k (paintB N r))
  clear hr hs hN hz hPB
  go_enter Try.func42, Try.ntmps42
  go_wp2_with (first
    | (refine wpList_store_row rfl 35 (.tmp 5) (.tmp 12) rfl (w.heap.size + 1) _ rfl rfl 35 _ (Blk.new _ _ _ _ (by simp)) HNS.out HNO.out HNA.out ?_))
  clear hNI
  go_loopw [6] (fun e wr => ∃ j : Nat, 1 ≤ j ∧ j ≤ N ∧ e = .int .i64 j ∧ RelSc (N : Int) k zs a r w j 0 wr) (fun e _ => N - (intOf e).toNat)
  case atStart =>
    have hb0 := ((Below.refl w.heap.size w).alloc (Nat.le_refl _) (.cells (ccells 0 0 zbl).toArray 35)).alloc (by simp) (.cells (ccells 0 0 zbl).toArray 35)
    have hbe := below_setRow hb0 (g := w.heap.size + 1) (by omega) (ccells (N : Int) k zbl).toArray
    exact ⟨1, by omega, n1, rfl, ((Blk.new _ _ _ _ rfl).alloc _).rowOther _ _ (by omega), (Blk.new _ _ _ _ (by simp)).rowSame _, HSL.out.below hbe (Nat.le_refl _), hbe⟩
  case round =>
    obtain ⟨j, hj1, hj, rfl, HR1⟩ := hrel
    have HK := hidd HR1
    clear HR1
    have cN := HK.out.2.1.cell (j := 0) (show _ = some (Value.int .i64 (N : Int)) from rfl)
    by_cases hlt : j < N
    · go_wp2_with fail
      clear cN
      go_loopw [7] (fun e wr => ∃ i : Nat, i ≤ j ∧ e = .int .i64 i ∧ RelSc (N : Int) k zs a r w j i wr) (fun e _ => j - (intOf e).toNat)
      case atStart => exact ⟨0, by omega, rfl, HK.out⟩
      case round =>
        obtain ⟨i, hi, rfl, HR2⟩ := hrel
        have HK2 := hidd HR2
        clear HR2
        by_cases hil : i < j
        · rcases HK2.out.2.2.1 with hzz | ⟨b, off, ha, hc⟩
          · have := HLN.out; subst hzz; simp at this; omega
          · subst ha
            obtain ⟨F, hF⟩ : ∃ F, F = j - i - 1 := ⟨_, rfl⟩
            have hFl : F < zs.length := by have := HLN.out; omega
            have cF := hc F hFl
            obtain ⟨v, hv⟩ : ∃ v, v = zs.getD F 0 := ⟨_, rfl⟩
            rw [← hv] at cF
            have hvr : v = r i j := by rw [HR.out, hv, hF]; rfl
            have hx : (j : Int) - (i : Int) - 1 = (F : Int) := by omega
            have hx1 : IntKind.i64.wrap ((j : Int) - (i : Int)) = (j : Int) - (i : Int) := IntWalk.i64_in _ (by omega)
            have hx2 : IntKind.i64.wrap ((j : Int) - (i : Int) - 1) = (F : Int) := by rw [hx]; exact IntWalk.i64_in _ (by omega)
            have hvb := HRB.out i j
            rw [← hvr] at hvb
            obtain ⟨v0, v1⟩ := hvb
            have hwr : IntKind.u8.wrap v = v := u8_in v0 v1
            have h136 := eN_mono (show j + 1 ≤ 17 by omega)
            rw [eN, show eN 17 = 136 from rfl] at h136
            obtain ⟨E, hE⟩ : ∃ E, E = eN j + i := ⟨_, rfl⟩
            have HEX := hidd (show eix (i : Int) (j : Int) = (E : Int) by rw [eix_eN hil, hE])
            have hE136 : E < 136 := by omega
            have hEI : (E : Int) < 136 := by omega
            obtain ⟨⟨old, cE⟩, fE, hst⟩ := HK2.out.put HRB.out HSL.out hE hE136 hvr
            have K := hidd hst
            have hFI : (F : Int) < (zs.length : Int) := by omega
            have hF9 : (F : Int) ≤ 15 := by omega
            have hwF : IntKind.i64.wrap (F : Int) = (F : Int) := IntWalk.i64_in _ (by omega)
            clear hc hv hF hvr hE h136 hst
            go_wp2_with fail
            refine wp_region_still_tail 13 (by kernel_rfl) (by kernel_rfl) ?_
            simp only [List.take_succ_cons, List.take_zero, List.drop_succ_cons, List.drop_zero]
            still_step
            still_step
            still_call ((edge79 _ _ _ (by omega) (by omega) (by omega) (by omega)).mono fun _ _ h => ⟨h.1, h.2.symm⟩)
            rw [HEX.out]
            iterate 10 still_step
            refine wpStill_nil ?_
            go_wp2
            go_roundw
            case rel => exact ⟨i + 1, by omega, by go_num, K.out.drew⟩
            case measure => simp [intOf]; omega
        · have hij : i = j := by omega
          subst hij
          have K := hidd (show RelSc (N : Int) k zs a r w (i + 1) 0 wr by have := HK2.out; unfold RelSc at this ⊢; rwa [ptB_row] at this)
          clear HK2
          go_wp2_with fail
          go_roundw
          case rel => exact ⟨i + 1, by omega, by omega, by go_num, K.out⟩
          case measure => simp [intOf]; omega
    · have hjN : j = N := by omega
      subst hjN
      obtain ⟨q1, q2, q3, q4⟩ := HK.out
      rw [ptB_done] at q2
      have R := hidd (And.intro q1 (And.intro q2 (And.intro (q1.rowSame (ccells (j : Int) k (paintB j r)).toArray) (below_setRow q4 (g := w.heap.size) (Nat.le_refl _) (ccells (j : Int) k (paintB j r)).toArray))))
      clear HK q1 q2 q3 q4
      go_wp2_with (first
        | (refine wpList_load_row rfl 35 (.tmp 5) rfl (w.heap.size + 1) rfl 35 _ (0,0) _ R.out.2.1 Try.underlying35 rfl HPS.out ?_)
        | (refine wpList_store_row rfl 35 (.tmp 4) (.tmp 37) rfl w.heap.size _ rfl rfl 35 _ R.out.1 HPS.out HPO.out HPA.out ?_))
      refine bodyPost_ret (results_cell_row rfl _ _ w.heap.size 35 _ (0,0) _ rfl R.out.2.2.1 Try.underlying35 rfl HPS.out) rfl ⟨rfl, R.out.2.2.2⟩
end Go.Proofs.Ythmjmlmmbmdodaa
