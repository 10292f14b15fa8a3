/- For every argument the law FnExactPartOfColouring returns true: PartOfColouring answers as its model does, and each answer is a list of its own. No condition beside the row's own. -/
import Derived.Test.YthmjmlmmbmdodaaGe
import Derived.Test.YthmjmlmmbmdodaaPoc
namespace Go.Proofs.Ythmjmlmmbmdodaa
set_option linter.unusedVariables false
set_option linter.unusedSimpArgs false
open Go Go.RowKit Go.ChangeShapes Go.WideShapes Go.ChangeAt
set_option maxRecDepth 100000 in
set_option maxHeartbeats 2000000 in
theorem walk8 (n k : Int) (bs : List Nat) (hb : Bys bs) (w : World) :
    Calls Try.prog 8 #[.agg (ccells n k bs).toArray] w fun e w' => e = .returned (.bool true) ∧ Below w.heap.size w w' := by
  have HS := hidd (size_c24 n k hb)
  have hS := spec26o n k bs hb
  have hI := impl28o n k bs hb
  have hl : (qoList n k bs).length ≤ 17 := qoList_len
  generalize qoList n k bs = zs at hS hI hl
  generalize qoCode n k bs = cd at hS hI
  have HSP := hidd hS
  have HIM := hidd hI
  clear hS hI
  have hne : (cd != cd) = false := by simp
  have hm : ((1 + (zs.length : Int)) != (1 + (zs.length : Int))) = false := by simp
  go_enter Try.func8, Try.ntmps8
  go_wp2_with (refine wpList_load_row rfl 40 (.tmp 1) rfl w.heap.size rfl 40 _ (0,0) _ (Blk.new _ _ _ _ rfl) Try.underlying40 rfl HS.out ?_)
  refine (toCol_any n k bs _ hb).mono ?_
  rintro e w1 ⟨rfl, hb1⟩
  have b1 := ((Below.refl w.heap.size w).alloc (Nat.le_refl _) (.cells (ccells n k bs).toArray 40)).trans (hb1.mono (by simp))
  have c1 := (Blk.new w (ccells n k bs).toArray 40 _ rfl).below hb1 (by simp)
  have G1 := hidd (And.intro b1 c1)
  clear hb1 b1 c1
  go_wp2_with fail
  refine (HSP.out _).mono ?_
  rintro e w2 ⟨a0, cap0, rfl, o0, hb2⟩
  have G2 := hidd (And.intro (G1.out.1.trans (hb2.mono G1.out.1.size)) (And.intro (G1.out.2.below hb2 G1.out.2.lt) o0))
  clear hb2 o0
  go_wp2_with (refine wpList_load_row rfl 40 (.tmp 1) rfl w.heap.size rfl 40 _ (0,0) _ G2.out.2.1 Try.underlying40 rfl HS.out ?_)
  refine (toCol_any n k bs _ hb).mono ?_
  rintro e w3 ⟨rfl, hb3⟩
  have G3 := hidd (And.intro (G2.out.1.trans (hb3.mono G2.out.1.size)) (And.intro (G2.out.2.1.below hb3 G2.out.2.1.lt) (G2.out.2.2.below hb3 (Nat.le_refl _))))
  clear hb3
  go_wp2_with fail
  refine (HIM.out _).mono ?_
  rintro e w4 ⟨a1, cap1, rfl, o1, hb4⟩
  have G4 := hidd (And.intro hb4 (And.intro o1 (G3.out.2.2.below hb4 (Nat.le_refl _))))
  clear hb4 o1
  go_wp2_with fail
  refine (eq22 zs a1 a0 _ _ _ G4.out.2.1.sl G4.out.2.2.sl (by omega)).mono ?_
  rintro e w5 ⟨rfl, hb5⟩
  have G5 := hidd (And.intro (G4.out.1.trans (hb5.mono G4.out.1.size)) (G4.out.2.1.below hb5 (Nat.le_refl _)))
  clear hb5
  go_wp2_with fail
  refine (mark29 zs.length a1 _ w3.heap.size 1 zs _ rfl G5.out.2 G5.out.1.size (by omega) (by omega) (by omega)).mono ?_
  rintro e w6 ⟨rfl, o6, hb6⟩
  have d6 := G5.out.1.trans hb6
  have G6 := hidd (And.intro (G3.out.1.trans (d6.mono G3.out.1.size)) (And.intro (G3.out.2.1.below d6 G3.out.2.1.lt) (And.intro (G3.out.2.2.below d6 (Nat.le_refl _)) o6)))
  clear hb6 o6 d6
  go_wp2_with fail
  refine (held30 zs.length a1 _ w3.heap.size 1 _ G6.out.2.2.2 (by omega) (by omega) (by omega)).mono ?_
  rintro e w' ⟨rfl, rfl⟩
  go_wp2_with (refine wpList_load_row rfl 40 (.tmp 1) rfl w.heap.size rfl 40 _ (0,0) _ G6.out.2.1 Try.underlying40 rfl HS.out ?_)
  refine (toCol_any n k bs _ hb).mono ?_
  rintro e w7 ⟨rfl, hb7⟩
  have G7 := hidd (And.intro (G6.out.1.trans (hb7.mono G6.out.1.size)) (And.intro (G6.out.2.2.1.below hb7 (Nat.le_refl _)) (G6.out.2.2.2.below hb7 (Nat.le_refl _))))
  clear hb7
  go_wp2_with fail
  refine (HIM.out _).mono ?_
  rintro e w8 ⟨a2, cap2, rfl, o8, hb8⟩
  have G8 := hidd (And.intro (G7.out.1.trans (hb8.mono G7.out.1.size)) (And.intro (G7.out.2.1.below hb8 (Nat.le_refl _)) (And.intro (G7.out.2.2.below hb8 (Nat.le_refl _)) o8)))
  clear hb8 o8
  go_wp2_with fail
  refine (eq22 zs a2 a0 _ _ _ G8.out.2.2.2.sl G8.out.2.1.sl (by omega)).mono ?_
  rintro e w9 ⟨rfl, hb9⟩
  have G9 := hidd (And.intro (G8.out.1.trans (hb9.mono G8.out.1.size)) (G8.out.2.2.1.below hb9 (Nat.le_refl _)))
  clear hb9
  go_wp2_with fail
  refine (held30 zs.length a1 _ w3.heap.size 1 _ G9.out.2 (by omega) (by omega) (by omega)).mono ?_
  rintro e w' ⟨rfl, rfl⟩
  go_wp2
  go_ret
  exact ⟨rfl, G9.out.1⟩
set_option maxRecDepth 100000 in
theorem lifted8 (os : Os) (started : os.Started) (H : Type) (enc : TypeId × Value → H) :
    ReturnsInHanded {} Try.checked os 8 .any (Rows.fnExactPartOfColouringSpec.pre6 enc Try.prog Try.f8 Rows.fnExactPartOfColouringRow.domain false) (Rows.fnExactPartOfColouringSpec.post enc Try.prog Try.f8 false true false false) := by
  refine returnsInHanded_of_change (C := Try.checked) own started (by kernel_rfl) Try.func8
    (ChangeSpec.witness6 (enc := enc) (C := Try.checked) false ⟨#[], #[.agg (ccells 0 0 zbl).toArray], []⟩ 8 (by kernel_rfl) (by kernel_rfl) (by kernel_rfl) (by kernel_rfl)) ?_
  intro W base args ds gs before hval0 hW hcnd _
  have hval : ∀ (j : Nat) t v, Try.f8.params[j]? = some t → args[j]? = some v → Value.okWide Try.prog W .any base t v := hval0
  have hW' := hW
  obtain ⟨p, q, hA0, hV, rfl, hfz, hnd⟩ := hW
  have hA : DataW.TrodAll enc Try.prog W 0 (fun _ => true) true Try.f8.params.toList args.toList ds p := hA0
  rw [Try.params8] at hA hval
  obtain ⟨v0, vs0, d0, ds0, p0, q0, hargs, rfl, rfl, h0, r0⟩ := trodAll_cons hA
  obtain ⟨rfl, rfl, rfl⟩ := trodAll_nil r0
  obtain rfl : args = #[v0] := by cases args; simp_all
  obtain ⟨rfl, rfl⟩ := trodVars_none hV
  have k0 := h0
  have lt0 := lt_of_trod k0
  obtain ⟨n0, c0, b0, rfl, hb0, _, _⟩ := open_col Try.underlying40 cells24 (hval 0 40 v0 rfl rfl) h0
  clear hA0 hval0
  refine (walk8 n0 c0 b0 hb0 W ).mono fun e W' ⟨he, bel⟩ => ?_
  subst he
  exact ⟨_, rfl, _, _, _, [], _, [], hW', trodAll_mk1 (shut_bool Try.underlying4 _), (trodAll_cons_mk (Below.trod laidOut read24 row24 k0 bel lt0) trodAll_mk0), rfl, bel.frame _, fun h => by cases h⟩
theorem fnExactPartOfColouring_holds : Rows.FnExactPartOfColouringSaid :=
  OpenClaim.holds_of_wide 8 Try.f8 rfl rfl rfl rfl rfl rfl rfl ⟨rfl, rfl, rfl, rfl, rfl⟩ rfl rfl rfl rfl rfl (by kernel_rfl) Try.func8 (by kernel_rfl)
    (of_decide_eq_true (by kernel_rfl)) (by unfold Func.isWrapper; first | (rw [if_pos (by decide +kernel)]; kernel_rfl) | (rw [if_neg (by decide +kernel)]; exact ⟨rfl, rfl⟩))
    (fun os started H enc _ => lifted8 os started H enc)
#print axioms fnExactPartOfColouring_holds
end Go.Proofs.Ythmjmlmmbmdodaa
