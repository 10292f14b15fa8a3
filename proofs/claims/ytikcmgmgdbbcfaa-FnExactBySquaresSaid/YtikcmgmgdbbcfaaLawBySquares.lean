/- For every number the law FnExactBySquares returns true: BySquares answers as its model does. No condition beside the row's own. -/
import Derived.Test.YtikcmgmgdbbcfaaGe
import Derived.Test.YtikcmgmgdbbcfaaBySq
namespace Go.Proofs.Ytikcmgmgdbbcfaa
set_option linter.unusedVariables false
set_option linter.unusedSimpArgs false
open Go Go.RowKit Go.ChangeShapes Go.WideShapes Go.ChangeAt
set_option maxRecDepth 100000 in
set_option maxHeartbeats 1000000 in
theorem walk7 (p : Int) (w : World) :
    Calls Try.prog 7 #[.int .i64 p] w fun e w' => e = .returned (.bool true) ∧ Below w.heap.size w w' := by
  have Hz := zero26
  obtain ⟨rn, hrn⟩ : ∃ v, v = bqN p := ⟨_, rfl⟩
  obtain ⟨rk, hrk⟩ : ∃ v, v = bqK p := ⟨_, rfl⟩
  obtain ⟨rb, hrb⟩ : ∃ v, v = bqB p := ⟨_, rfl⟩
  obtain ⟨cd, hcd⟩ : ∃ v, v = bqCode p := ⟨_, rfl⟩
  have hbr : Bys rb := by rw [hrb]; exact bqB_bys p
  have HV := hidd (show bqOut p = .tuple #[.agg (ccells rn rk rb).toArray, .int .i64 cd] by rw [hrn, hrk, hrb, hcd]; rfl)
  have HSR := hidd (size_c26 rn rk hbr)
  have HOR := hidd (size_cc 0 0 rn rk zbl_bys hbr)
  have HAR := hidd (ccells_one rn rk rb)
  clear hrn hrk hrb hcd
  go_enter Try.func7, Try.ntmps7
  go_wp2_with fail
  refine (spec26q p _).mono ?_
  rintro e w3 ⟨rfl, b3⟩
  rw [HV.out]
  have G3 := hidd (show Blk ((w3.alloc (.cells (ccells 0 0 zbl).toArray 25)).setRow w3.heap.size (ccells rn rk rb).toArray) w3.heap.size (ccells rn rk rb).toArray 25 ∧ Below w.heap.size w ((w3.alloc (.cells (ccells 0 0 zbl).toArray 25)).setRow w3.heap.size (ccells rn rk rb).toArray) from ⟨(Blk.new _ _ _ _ rfl).rowSame _, below_setRow (b3.alloc b3.size _) b3.size _⟩)
  clear b3
  go_wp2_with (first
    | (refine wpList_store_row rfl 25 (.tmp 3) (.tmp 10) rfl w3.heap.size _ rfl rfl 25 _ (Blk.new _ _ _ _ rfl) HSR.out HOR.out HAR.out ?_))
  refine (impl27q p _).mono ?_
  rintro e w6 ⟨rfl, hb6⟩
  rw [HV.out]
  have b6 := G3.out.2.trans (hb6.mono G3.out.2.size)
  have c6 := G3.out.1.below hb6 G3.out.1.lt
  have G6 := hidd (kept_row (D := (ccells rn rk rb).toArray) c6 b6 (ccells 0 0 zbl).toArray)
  clear hb6 b6 c6
  go_wp2_with (first
    | (refine wpList_store_row rfl 25 (.tmp 5) (.tmp 15) rfl w6.heap.size _ rfl rfl 25 _ (Blk.new _ _ _ _ rfl) HSR.out HOR.out HAR.out ?_)
    | (refine wpList_load_row rfl 25 (.tmp 5) rfl w6.heap.size rfl 25 _ (0,0) _ G6.out.2.1 Try.underlying25 rfl HSR.out ?_)
    | (refine wpList_load_row rfl 25 (.tmp 3) rfl w3.heap.size rfl 25 _ (0,0) _ G6.out.1 Try.underlying25 rfl HSR.out ?_))
  refine (eqCol_same rn rk rb hbr _).mono ?_
  rintro e w7 ⟨rfl, hb7⟩
  have G7 := hidd (G6.out.2.2.trans (hb7.mono G6.out.2.2.size))
  have hne : (cd != cd) = false := by simp
  clear hb7
  go_wp2_with fail
  go_ret
  exact ⟨rfl, G7.out⟩
set_option maxRecDepth 100000 in
theorem lifted7 (os : Os) (started : os.Started) (H : Type) (enc : TypeId × Value → H) :
    ReturnsInHanded {} Try.checked os 7 .any (Rows.fnExactBySquaresSpec.pre6 enc Try.prog Try.f7 Rows.fnExactBySquaresRow.domain false) (Rows.fnExactBySquaresSpec.post enc Try.prog Try.f7 false true false false) := by
  refine returnsInHanded_of_change (C := Try.checked) own started (by kernel_rfl) Try.func7
    (ChangeSpec.witness6 (enc := enc) (C := Try.checked) false ⟨#[], #[.int .i64 0], []⟩ 8 (by kernel_rfl) (by kernel_rfl) (by kernel_rfl) (by kernel_rfl)) ?_
  intro W base args ds gs before hval0 hW hcnd _
  have hval : ∀ (j : Nat) t v, Try.f7.params[j]? = some t → args[j]? = some v → Value.okWide Try.prog W .any base t v := hval0
  have hW' := hW
  obtain ⟨p, q, hA0, hV, rfl, hfz, hnd⟩ := hW
  have hA : DataW.TrodAll enc Try.prog W 0 (fun _ => true) true Try.f7.params.toList args.toList ds p := hA0
  rw [Try.params7] at hA hval
  obtain ⟨v0, vs0, d0, ds0, p0, q0, hargs, rfl, rfl, h0, r0⟩ := trodAll_cons hA
  obtain ⟨rfl, rfl, rfl⟩ := trodAll_nil r0
  obtain rfl : args = #[v0] := by cases args; simp_all
  obtain ⟨rfl, rfl⟩ := trodVars_none hV
  have k0 := h0
  have lt0 := lt_of_trod k0
  obtain ⟨a0, rfl, x0, y0⟩ := open_num (hval 0 2 v0 rfl rfl) h0
  clear hA0 hval0
  refine (walk7 a0 W).mono fun e W' ⟨he, bel⟩ => ?_
  subst he
  exact ⟨_, rfl, _, _, _, [], _, [], hW', trodAll_mk1 (shut_bool Try.underlying4 _), (trodAll_cons_mk (Below.trod laidOut read2 row2 k0 bel lt0) trodAll_mk0), rfl, bel.frame _, fun h => by cases h⟩
theorem fnExactBySquares_holds : Rows.FnExactBySquaresSaid :=
  OpenClaim.holds_of_wide 7 Try.f7 rfl rfl rfl rfl rfl rfl rfl ⟨rfl, rfl, rfl, rfl, rfl⟩ rfl rfl rfl rfl rfl (by kernel_rfl) Try.func7 (by kernel_rfl)
    (of_decide_eq_true (by kernel_rfl)) (by unfold Func.isWrapper; first | (rw [if_pos (by decide +kernel)]; kernel_rfl) | (rw [if_neg (by decide +kernel)]; exact ⟨rfl, rfl⟩))
    (fun os started H enc _ => lifted7 os started H enc)
#print axioms fnExactBySquares_holds
end Go.Proofs.Ytikcmgmgdbbcfaa
