/- For every struct of two numbers and 136 bytes and every number the law FnExactTurnColouring returns true: TurnColouring answers as its model does. No condition beside the row's own. -/
import Derived.Test.YtikcmgmgdbbcfaaGe
import Derived.Test.YtikcmgmgdbbcfaaTcol
namespace Go.Proofs.Ytikcmgmgdbbcfaa
set_option linter.unusedVariables false
set_option linter.unusedSimpArgs false
open Go Go.RowKit Go.ChangeShapes Go.WideShapes Go.ChangeAt
set_option maxRecDepth 100000 in
set_option maxHeartbeats 1000000 in
theorem walk5 (n k : Int) (bs : List Nat) (hb : Bys bs) (t : Int) (_ : -9223372036854775808 ≤ t) (_ : t ≤ 9223372036854775807) (w : World) :
    Calls Try.prog 5 #[.agg (ccells n k bs).toArray, .int .i64 t] w fun e w' => e = .returned (.bool true) ∧ Below w.heap.size w w' := by
  have Hz := zero26
  have HS := hidd (size_c24 n k hb)
  obtain ⟨rn, hrn⟩ : ∃ v, v = toN n k bs t := ⟨_, rfl⟩
  obtain ⟨rk, hrk⟩ : ∃ v, v = toK n k bs t := ⟨_, rfl⟩
  obtain ⟨rb, hrb⟩ : ∃ v, v = toB n k bs t := ⟨_, rfl⟩
  obtain ⟨cd, hcd⟩ : ∃ v, v = toCode n k bs t := ⟨_, rfl⟩
  have hbr : Bys rb := by rw [hrb]; exact toB_bys hb t
  have HV := hidd (show toOut n k bs t = .tuple #[.agg (ccells rn rk rb).toArray, .int .i64 cd] by rw [hrn, hrk, hrb, hcd]; rfl)
  have HSR := hidd (size_c26 rn rk hbr)
  have HOR := hidd (size_cc 0 0 rn rk zbl_bys hbr)
  have HAR := hidd (ccells_one rn rk rb)
  clear hrn hrk hrb hcd
  go_enter Try.func5, Try.ntmps5
  go_wp2_with (refine wpList_load_row rfl 32 (.tmp 2) rfl w.heap.size rfl 32 _ (0,0) _ (Blk.new _ _ _ _ rfl) Try.underlying32 rfl HS.out ?_)
  refine (toCol_any n k bs _ hb).mono ?_
  rintro e w1 ⟨rfl, hb1⟩
  go_wp2_with fail
  refine (spec21t n k bs hb t _).mono ?_
  rintro e w2 ⟨rfl, hb2⟩
  rw [HV.out]
  have hc2 := hb1.trans (hb2.mono hb1.size)
  have hc := ((Below.refl w.heap.size w).alloc (Nat.le_refl _) (.cells (ccells n k bs).toArray 32)).trans (hc2.mono (by simp))
  have g := (Blk.new w (ccells n k bs).toArray 32 _ rfl).below hc2 (by simp)
  have G := hidd (kept_row (D := (ccells rn rk rb).toArray) g hc (ccells 0 0 zbl).toArray)
  clear hb1 hb2 hc2 hc g
  go_wp2_with (first
    | (refine wpList_store_row rfl 25 (.tmp 5) (.tmp 14) rfl w2.heap.size _ rfl rfl 25 _ (Blk.new _ _ _ _ rfl) HSR.out HOR.out HAR.out ?_)
    | (refine wpList_load_row rfl 32 (.tmp 2) rfl w.heap.size rfl 32 _ (0,0) _ G.out.1 Try.underlying32 rfl HS.out ?_))
  refine (toCol_any n k bs _ hb).mono ?_
  rintro e w3 ⟨rfl, hb3⟩
  go_wp2_with fail
  refine (impl23t n k bs hb t _).mono ?_
  rintro e w4 ⟨rfl, hb4⟩
  rw [HV.out]
  have hc4 := hb3.trans (hb4.mono hb3.size)
  have g4 := G.out.2.1.below hc4 G.out.2.1.lt
  have K := hidd (kept_row (D := (ccells rn rk rb).toArray) g4 (G.out.2.2.trans (hc4.mono G.out.2.2.size)) (ccells 0 0 zbl).toArray)
  clear hb3 hb4 hc4 g4
  go_wp2_with (first
    | (refine wpList_store_row rfl 25 (.tmp 7) (.tmp 21) rfl w4.heap.size _ rfl rfl 25 _ (Blk.new _ _ _ _ rfl) HSR.out HOR.out HAR.out ?_)
    | (refine wpList_load_row rfl 25 (.tmp 7) rfl w4.heap.size rfl 25 _ (0,0) _ K.out.2.1 Try.underlying25 rfl HSR.out ?_)
    | (refine wpList_load_row rfl 25 (.tmp 5) rfl w2.heap.size rfl 25 _ (0,0) _ K.out.1 Try.underlying25 rfl HSR.out ?_))
  refine (eqCol_same rn rk rb hbr _).mono ?_
  rintro e w5 ⟨rfl, hb5⟩
  have L := hidd (K.out.2.2.trans (hb5.mono K.out.2.2.size))
  have hne : (cd != cd) = false := by simp
  clear hb5
  go_wp2
  go_ret
  exact ⟨rfl, L.out⟩
set_option maxRecDepth 100000 in
theorem lifted5 (os : Os) (started : os.Started) (H : Type) (enc : TypeId × Value → H) :
    ReturnsInHanded {} Try.checked os 5 .any (Rows.fnExactTurnColouringSpec.pre6 enc Try.prog Try.f5 Rows.fnExactTurnColouringRow.domain false) (Rows.fnExactTurnColouringSpec.post enc Try.prog Try.f5 false true false false) := by
  refine returnsInHanded_of_change (C := Try.checked) own started (by kernel_rfl) Try.func5
    (ChangeSpec.witness6 (enc := enc) (C := Try.checked) false ⟨#[], #[.agg (ccells 0 0 zbl).toArray, .int .i64 0], []⟩ 8 (by kernel_rfl) (by kernel_rfl) (by kernel_rfl) (by kernel_rfl)) ?_
  intro W base args ds gs before hval0 hW hcnd _
  have hval : ∀ (j : Nat) t v, Try.f5.params[j]? = some t → args[j]? = some v → Value.okWide Try.prog W .any base t v := hval0
  have hW' := hW
  obtain ⟨p, q, hA0, hV, rfl, hfz, hnd⟩ := hW
  have hA : DataW.TrodAll enc Try.prog W 0 (fun _ => true) true Try.f5.params.toList args.toList ds p := hA0
  rw [Try.params5] at hA hval
  obtain ⟨v0, vs0, d0, ds0, p0, q0, hargs, rfl, rfl, h0, r0⟩ := trodAll_cons hA
  obtain ⟨v1, vs1, d1, ds1, p1, q1, rfl, rfl, rfl, h1, r1⟩ := trodAll_cons r0
  obtain ⟨rfl, rfl, rfl⟩ := trodAll_nil r1
  obtain rfl : args = #[v0, v1] := by cases args; simp_all
  obtain ⟨rfl, rfl⟩ := trodVars_none hV
  have k0 := h0
  have lt0 := lt_of_trod k0
  obtain ⟨n0, c0, b0, rfl, hb0, _, _⟩ := open_col Try.underlying32 cells24 (hval 0 32 v0 rfl rfl) h0
  have k1 := h1
  have lt1 := lt_of_trod k1
  obtain ⟨a1, rfl, x1, y1⟩ := open_num (hval 1 2 v1 rfl rfl) h1
  clear hA0 hval0
  refine (walk5 n0 c0 b0 hb0 a1 x1 y1 W ).mono fun e W' ⟨he, bel⟩ => ?_
  subst he
  exact ⟨_, rfl, _, _, _, [], _, [], hW', trodAll_mk1 (shut_bool Try.underlying4 _), (trodAll_cons_mk (Below.trod laidOut read24 row24 k0 bel lt0) (trodAll_cons_mk (Below.trod laidOut read2 row2 k1 bel lt1) trodAll_mk0)), rfl, bel.frame _, fun h => by cases h⟩
theorem fnExactTurnColouring_holds : Rows.FnExactTurnColouringSaid :=
  OpenClaim.holds_of_wide 5 Try.f5 rfl rfl rfl rfl rfl rfl rfl ⟨rfl, rfl, rfl, rfl, rfl⟩ rfl rfl rfl rfl rfl (by kernel_rfl) Try.func5 (by kernel_rfl)
    (of_decide_eq_true (by kernel_rfl)) (by unfold Func.isWrapper; first | (rw [if_pos (by decide +kernel)]; kernel_rfl) | (rw [if_neg (by decide +kernel)]; exact ⟨rfl, rfl⟩))
    (fun os started H enc _ => lifted5 os started H enc)
#print axioms fnExactTurnColouring_holds
end Go.Proofs.Ytikcmgmgdbbcfaa
