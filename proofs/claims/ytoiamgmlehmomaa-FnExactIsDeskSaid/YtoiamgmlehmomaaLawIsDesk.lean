/- For every desk of two structs of two numbers and 136 bytes each the law FnExactIsDesk returns true: IsDesk answers as its model does. No condition beside the row's own. -/
import Derived.Test.YtoiamgmlehmomaaDsl
namespace Go.Proofs.Ytoiamgmlehmomaa
set_option linter.unusedVariables false
set_option linter.unusedSimpArgs false
open Go Go.RowKit Go.ChangeShapes Go.WideShapes Go.ChangeAt
set_option maxRecDepth 100000 in
set_option maxHeartbeats 1000000 in
theorem walk5 (n k : Int) (bs : List Nat) (m l : Int) (cs : List Nat) (hb : Bys bs) (hc : Bys cs) (w : World) :
    Calls Try.prog 5 #[.agg (dcl n k bs m l cs).toArray] w fun e w' => e = .returned (.bool true) ∧ Below w.heap.size w w' := by
  have HS := hidd (size_d36 (n := n) (k := k) (m := m) (l := l) hb hc)
  have A1 := hidd (fun w => toDesk_any n k bs m l cs hb hc w)
  have A2 := hidd (fun w => specIs_any n k bs m l cs hb hc w)
  have A3 := hidd (fun w => implIsD n k bs m l cs hb hc w)
  obtain ⟨C, hC⟩ : ∃ C, C = (dcl n k bs m l cs).toArray := ⟨_, rfl⟩
  obtain ⟨v, hv⟩ : ∃ v, v = (isCol n k bs && isCol m l cs) := ⟨_, rfl⟩
  rw [← hC] at HS A1 A2 A3
  rw [← hv] at A2 A3
  rw [← hC]
  clear hC hv
  go_enter Try.func5, Try.ntmps5
  go_wp2_with (refine wpList_load_row rfl 36 (.tmp 1) rfl w.heap.size rfl 36 _ (0,0) _ (Blk.new _ _ _ _ rfl) Try.underlying36 rfl HS.out ?_)
  refine (A1.out _).mono ?_
  rintro e w1 ⟨rfl, hb1⟩
  go_wp2_with fail
  refine (A2.out _).mono ?_
  rintro e w2 ⟨rfl, hb2⟩
  have hc2 := hb1.trans (hb2.mono hb1.size)
  have hc := ((Below.refl w.heap.size w).alloc (Nat.le_refl _) (.cells C 36)).trans (hc2.mono (by simp))
  have g := (Blk.new w C 36 _ rfl).below hc2 (by simp)
  have G := hidd (And.intro hc g)
  clear hb1 hb2 hc2 hc g
  go_wp2_with (refine wpList_load_row rfl 36 (.tmp 1) rfl w.heap.size rfl 36 _ (0,0) _ G.out.2 Try.underlying36 rfl HS.out ?_)
  refine (A1.out _).mono ?_
  rintro e w3 ⟨rfl, hb3⟩
  go_wp2_with fail
  refine (A3.out _).mono ?_
  rintro e w4 ⟨rfl, hb4⟩
  have hc4 := G.out.1.trans ((hb3.trans (hb4.mono hb3.size)).mono G.out.1.size)
  have hne : (v != v) = false := by simp
  clear hb3 hb4
  go_wp2
  go_ret
  exact ⟨rfl, hc4⟩
set_option maxRecDepth 100000 in
theorem lifted5 (os : Os) (started : os.Started) (H : Type) (enc : TypeId × Value → H) :
    ReturnsInHanded {} Try.checked os 5 .any (Rows.fnExactIsDeskSpec.pre6 enc Try.prog Try.f5 Rows.fnExactIsDeskRow.domain false) (Rows.fnExactIsDeskSpec.post enc Try.prog Try.f5 false true false false) := by
  refine returnsInHanded_of_change (C := Try.checked) own started (by kernel_rfl) Try.func5
    (ChangeSpec.witness6 (enc := enc) (C := Try.checked) false ⟨#[], #[.agg (dcl 0 0 zbl 0 0 zbl).toArray], []⟩ 8 (by kernel_rfl) (by kernel_rfl) (by kernel_rfl) (by kernel_rfl)) ?_
  intro W base args ds gs before hval0 hW hcnd _
  have hval : ∀ (j : Nat) t v, Try.f5.params[j]? = some t → args[j]? = some v → Value.okWide Try.prog W .any base t v := hval0
  have hW' := hW
  obtain ⟨p, q, hA0, hV, rfl, hfz, hnd⟩ := hW
  have hA : DataW.TrodAll enc Try.prog W 0 (fun _ => true) true Try.f5.params.toList args.toList ds p := hA0
  rw [Try.params5] at hA hval
  obtain ⟨v0, vs0, d0, ds0, p0, q0, hargs, rfl, rfl, h0, r0⟩ := trodAll_cons hA
  obtain ⟨rfl, rfl, rfl⟩ := trodAll_nil r0
  obtain rfl : args = #[v0] := by cases args; simp_all
  obtain ⟨rfl, rfl⟩ := trodVars_none hV
  have k0 := h0
  have lt0 : ∀ x ∈ p0, x.block < W.heap.size := by obtain ⟨m, hm⟩ := k0; exact DataW.trod_lt m _ _ _ hm
  obtain ⟨n, k, bs, m, l, cs, rfl, hb, hc⟩ := open_desk (hval 0 36 v0 rfl rfl) h0
  clear hA0 hval0
  refine (walk5 n k bs m l cs hb hc W).mono fun e W' ⟨he, bel⟩ => ?_
  subst he
  exact ⟨_, rfl, _, _, _, [], _, [], hW', trodAll_mk1 (shut_bool Try.underlying4 _), (trodAll_cons_mk (Below.trod laidOut (by kernel_rfl) (of_decide_eq_true (by kernel_rfl)) k0 bel lt0) trodAll_mk0), rfl, bel.frame _, fun h => by cases h⟩
theorem fnExactIsDesk_holds : Rows.FnExactIsDeskSaid :=
  OpenClaim.holds_of_wide 5 Try.f5 rfl rfl rfl rfl rfl rfl rfl ⟨rfl, rfl, rfl, rfl, rfl⟩ rfl rfl rfl rfl rfl (by kernel_rfl) Try.func5 (by kernel_rfl)
    (of_decide_eq_true (by kernel_rfl)) (by unfold Func.isWrapper; first | (rw [if_pos (by decide +kernel)]; kernel_rfl) | (rw [if_neg (by decide +kernel)]; exact ⟨rfl, rfl⟩))
    (fun os started H enc _ => lifted5 os started H enc)
#print axioms fnExactIsDesk_holds
end Go.Proofs.Ytoiamgmlehmomaa
