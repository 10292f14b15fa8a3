/- For every struct of two numbers and 136 bytes the law FnExactIsBalanced returns true: IsBalanced answers as its model does. No condition beside the row's own. -/
import Derived.Test.YtikcmgmgdbbcfaaGe
import Derived.Test.YtikcmgmgdbbcfaaBal
namespace Go.Proofs.Ytikcmgmgdbbcfaa
set_option linter.unusedVariables false
set_option linter.unusedSimpArgs false
open Go Go.RowKit Go.ChangeShapes Go.WideShapes Go.ChangeAt
set_option maxRecDepth 100000 in
set_option maxHeartbeats 1000000 in
theorem walk6 (n k : Int) (bs : List Nat) (hb : Bys bs)  (w : World) :
    Calls Try.prog 6 #[.agg (ccells n k bs).toArray] w fun e w' => e = .returned (.bool true) ∧ Below w.heap.size w w' := by
  have HS := hidd (size_c24 n k hb)
  obtain ⟨v, hv⟩ : ∃ v, v = blVal n k bs  := ⟨_, rfl⟩
  obtain ⟨c, hc⟩ : ∃ c, c = blCode n k bs  := ⟨_, rfl⟩
  have HV := hidd (And.intro hv hc)
  clear hv hc
  go_enter Try.func6, Try.ntmps6
  go_wp2_with (refine wpList_load_row rfl 32 (.tmp 1) rfl w.heap.size rfl 32 _ (0,0) _ (Blk.new _ _ _ _ rfl) Try.underlying32 rfl HS.out ?_)
  refine (toCol_any n k bs _ hb).mono ?_
  rintro e w1 ⟨rfl, hb1⟩
  go_wp2_with fail
  refine (spec24b n k bs hb  _).mono ?_
  rintro e w2 ⟨rfl, hb2⟩
  rw [← HV.out.1, ← HV.out.2]
  have hc2 := hb1.trans (hb2.mono hb1.size)
  have hc := ((Below.refl w.heap.size w).alloc (Nat.le_refl _) (.cells (ccells n k bs).toArray 32)).trans (hc2.mono (by simp))
  have g := (Blk.new w (ccells n k bs).toArray 32 _ rfl).below hc2 (by simp)
  have G := hidd (And.intro hc g)
  clear hb1 hb2 hc2 hc g
  go_wp2_with (refine wpList_load_row rfl 32 (.tmp 1) rfl w.heap.size rfl 32 _ (0,0) _ G.out.2 Try.underlying32 rfl HS.out ?_)
  refine (toCol_any n k bs _ hb).mono ?_
  rintro e w3 ⟨rfl, hb3⟩
  go_wp2_with fail
  refine (impl25b n k bs hb  _).mono ?_
  rintro e w4 ⟨rfl, hb4⟩
  rw [← HV.out.1, ← HV.out.2]
  have hc4 := G.out.1.trans ((hb3.trans (hb4.mono hb3.size)).mono G.out.1.size)
  have hne : (v != v) = false := by simp
  have hne2 : (c != c) = false := by simp
  clear hb3 hb4
  go_wp2
  go_ret
  exact ⟨rfl, hc4⟩
set_option maxRecDepth 100000 in
theorem lifted6 (os : Os) (started : os.Started) (H : Type) (enc : TypeId × Value → H) :
    ReturnsInHanded {} Try.checked os 6 .any (Rows.fnExactIsBalancedSpec.pre6 enc Try.prog Try.f6 Rows.fnExactIsBalancedRow.domain false) (Rows.fnExactIsBalancedSpec.post enc Try.prog Try.f6 false true false false) := by
  refine returnsInHanded_of_change (C := Try.checked) own started (by kernel_rfl) Try.func6
    (ChangeSpec.witness6 (enc := enc) (C := Try.checked) false ⟨#[], #[.agg (ccells 0 0 zbl).toArray], []⟩ 8 (by kernel_rfl) (by kernel_rfl) (by kernel_rfl) (by kernel_rfl)) ?_
  intro W base args ds gs before hval0 hW hcnd _
  have hval : ∀ (j : Nat) t v, Try.f6.params[j]? = some t → args[j]? = some v → Value.okWide Try.prog W .any base t v := hval0
  have hW' := hW
  obtain ⟨p, q, hA0, hV, rfl, hfz, hnd⟩ := hW
  have hA : DataW.TrodAll enc Try.prog W 0 (fun _ => true) true Try.f6.params.toList args.toList ds p := hA0
  rw [Try.params6] at hA hval
  obtain ⟨v0, vs0, d0, ds0, p0, q0, hargs, rfl, rfl, h0, r0⟩ := trodAll_cons hA
  obtain ⟨rfl, rfl, rfl⟩ := trodAll_nil r0
  obtain rfl : args = #[v0] := by cases args; simp_all
  obtain ⟨rfl, rfl⟩ := trodVars_none hV
  have k0 := h0
  have lt0 := lt_of_trod k0
  obtain ⟨n0, c0, b0, rfl, hb0, _, _⟩ := open_col Try.underlying32 cells24 (hval 0 32 v0 rfl rfl) h0
  clear hA0 hval0
  refine (walk6 n0 c0 b0 hb0 W ).mono fun e W' ⟨he, bel⟩ => ?_
  subst he
  exact ⟨_, rfl, _, _, _, [], _, [], hW', trodAll_mk1 (shut_bool Try.underlying4 _), (trodAll_cons_mk (Below.trod laidOut read24 row24 k0 bel lt0) trodAll_mk0), rfl, bel.frame _, fun h => by cases h⟩
theorem fnExactIsBalanced_holds : Rows.FnExactIsBalancedSaid :=
  OpenClaim.holds_of_wide 6 Try.f6 rfl rfl rfl rfl rfl rfl rfl ⟨rfl, rfl, rfl, rfl, rfl⟩ rfl rfl rfl rfl rfl (by kernel_rfl) Try.func6 (by kernel_rfl)
    (of_decide_eq_true (by kernel_rfl)) (by unfold Func.isWrapper; first | (rw [if_pos (by decide +kernel)]; kernel_rfl) | (rw [if_neg (by decide +kernel)]; exact ⟨rfl, rfl⟩))
    (fun os started H enc _ => lifted6 os started H enc)
#print axioms fnExactIsBalanced_holds
end Go.Proofs.Ytikcmgmgdbbcfaa
