/- For every argument the law FnExactColouringText returns true: ColouringText answers as its model does. No condition beside the row's own. -/
import Derived.Test.YtilpfhiebbbbjaaDoorCte
import Derived.Test.YtilpfhiebbbbjaaDoorGe
import Derived.Test.YtilpfhiebbbbjaaDoorTab3
import Derived.Test.YtilpfhiebbbbjaaDoorTie
import Derived.Test.YtilpfhiebbbbjaaDoorCards
namespace Go.Proofs.YtilpfhiebbbbjaaDoor
set_option linter.unusedVariables false
set_option linter.unusedSimpArgs false
open Go Go.RowKit Go.ChangeShapes Go.WideShapes Go.ChangeAt
set_option maxRecDepth 100000 in
set_option maxHeartbeats 1000000 in
theorem walk3 (n k : Int) (bs : List Nat) (hb : Bys bs) (w : World) (hT : Tz w) :
    Calls Tryd.prog 3 #[.agg (ccells n k bs).toArray] w fun e w' => e = .returned (.bool true) ∧ Below w.heap.size w w' := by
  have HS := hidd (size_c24 n k hb)
  have HSP := hidd (fun W => spec4c n k bs hb W)
  have HIM := hidd (fun W => impl6c n k bs hb W)
  obtain ⟨v, hv⟩ : ∃ v, v = ctV n k bs := ⟨_, rfl⟩
  obtain ⟨c, hc⟩ : ∃ c, c = ceCode n k bs := ⟨_, rfl⟩
  rw [← hv, ← hc] at HSP HIM
  clear hv hc
  have hne2 : (c != c) = false := by simp
  go_enter Tryd.func3, Tryd.ntmps3
  go_wp2_with (refine wpList_load_row rfl 24 (.tmp 1) rfl w.heap.size rfl 24 _ (0,0) _ (Blk.new _ _ _ _ rfl) Tryd.underlying24 rfl HS.out ?_)
  refine (toCol_any n k bs _ hb).mono ?_
  rintro e w1 ⟨rfl, hb1⟩
  go_wp2_with fail
  refine (HSP.out _).mono ?_
  rintro e w2 ⟨rfl, hb2⟩
  have hc2 := hb1.trans (hb2.mono hb1.size)
  have hc := ((Below.refl w.heap.size w).alloc (Nat.le_refl _) (.cells (ccells n k bs).toArray 24)).trans (hc2.mono (by simp))
  have g := (Blk.new w (ccells n k bs).toArray 24 _ rfl).below hc2 (by simp)
  have G := hidd (And.intro hc g)
  clear hb1 hb2 hc2 hc g
  go_wp2_with (refine wpList_load_row rfl 24 (.tmp 1) rfl w.heap.size rfl 24 _ (0,0) _ G.out.2 Tryd.underlying24 rfl HS.out ?_)
  refine (toCol_any n k bs _ hb).mono ?_
  rintro e w3 ⟨rfl, hb3⟩
  go_wp2_with fail
  refine (HIM.out _).mono ?_
  rintro e w4 ⟨rfl, hb4⟩
  have hc4 := hidd (G.out.1.trans ((hb3.trans (hb4.mono hb3.size)).mono G.out.1.size))
  clear hb3 hb4
  go_wp2
  go_ret
  exact ⟨rfl, hc4.out⟩
set_option maxRecDepth 100000 in
theorem lifted3 (os : Os) (started : os.Started) (H : Type) (enc : TypeId × Value → H) :
    ReturnsInHanded {} Tryd.checked os 3 .any (fun w args => (Rows.fnExactColouringTextSpec.pre enc Tryd.prog Tryd.f3 [] false w args ∧ laidMetH Tryd.prog Rows.fnExactColouringTextRow.laid w) ∧ sizedMet enc Tryd.prog Tryd.f3 (OpenSpec.ofChange Rows.fnExactColouringTextSpec) false w args) (Rows.fnExactColouringTextSpec.post enc Tryd.prog Tryd.f3 false true false false) := by
  refine returnsInHanded_of_change_and (C := Tryd.checked) (X := fun w _ => laidMetH Tryd.prog Rows.fnExactColouringTextRow.laid w) (fun _ _ _ hh h => h.of_heap hh) own started (by kernel_rfl) Tryd.func3
    (ChangeSpec.witness_at (enc := enc) (C := Tryd.checked) (X := fun w _ => laidMetH Tryd.prog Rows.fnExactColouringTextRow.laid w) false (laidWorld os #[.agg (ccells 0 0 zbl).toArray]) #[.agg (ccells 0 0 zbl).toArray] 8 rfl (by kernel_rfl) (by kernel_rfl) (by kernel_rfl) (by kernel_rfl) (by kernel_rfl) (laid_met os _)) ?_
  intro W base args ds gs before hval0 hW hcnd _ hL _
  have hval : ∀ (j : Nat) t v, Tryd.f3.params[j]? = some t → args[j]? = some v → Value.okWide Tryd.prog W .any base t v := hval0
  have hT : Tz W := tz_of hL
  have hW' := hW
  obtain ⟨p, q, hA0, hV, rfl, hfz, hnd⟩ := hW
  have hA : DataW.TrodAll enc Tryd.prog W 0 (fun _ => true) true Tryd.f3.params.toList args.toList ds p := hA0
  rw [Tryd.params3] at hA hval
  obtain ⟨v0, vs0, d0, ds0, p0, q0, hargs, rfl, rfl, h0, r0⟩ := trodAll_cons hA
  obtain ⟨rfl, rfl, rfl⟩ := trodAll_nil r0
  obtain rfl : args = #[v0] := by cases args; simp_all
  obtain ⟨rfl, rfl⟩ := trodVars_none hV
  have k0 := h0
  have lt0 := lt_of_trod k0
  obtain ⟨n0, c0, b0, rfl, hb0, _, _⟩ := open_col Tryd.underlying24 cells24 (hval 0 24 v0 rfl rfl) h0
  clear hA0 hval0
  refine (walk3 n0 c0 b0 hb0 W hT ).mono fun e W' ⟨he, bel⟩ => ?_
  subst he
  exact ⟨_, rfl, _, _, _, [], _, [], hW', trodAll_mk1 (shut_bool Tryd.underlying4 _), (trodAll_cons_mk (Below.trod laidOut read24 row24 k0 bel lt0) trodAll_mk0), rfl, bel.frame _, fun h => by cases h⟩
theorem fnExactColouringText_holds : Rows.FnExactColouringTextSaid :=
  OpenClaim.holds_of_wide 3 Tryd.f3 rfl rfl rfl rfl rfl rfl rfl ⟨rfl, rfl, rfl, rfl, rfl⟩ rfl rfl rfl rfl rfl (by kernel_rfl) Tryd.func3 (by kernel_rfl)
    (of_decide_eq_true (by kernel_rfl)) (by unfold Func.isWrapper; first | (rw [if_pos (by decide +kernel)]; kernel_rfl) | (rw [if_neg (by decide +kernel)]; exact ⟨rfl, rfl⟩))
    (fun os started H enc _ => lifted3 os started H enc)
theorem plain3 (f : FuncId) (fn : Func) (hf : Tryd.pinned.checked.prog.funcNamed "loop.example/g01362/laws.FnExactColouringText" = some f) (hfn : Tryd.pinned.checked.prog.funcs[f]? = some fn) :
    false = Tryd.pinned.checked.prog.looks [] ∧ ∀ (j : Nat) t, fn.params[j]? = some t → Tryd.pinned.checked.prog.wantsStandIn t = false := by
  obtain rfl : f = 3 := Option.some.inj ((show Tryd.prog.funcNamed "loop.example/g01362/laws.FnExactColouringText" = some 3 by kernel_rfl).symm.trans hf) |>.symm
  obtain rfl : fn = Tryd.f3 := (Option.some.inj (Tryd.func3.symm.trans hfn)).symm
  refine ⟨by kernel_rfl, fun j t ht => ?_⟩
  rw [Tryd.params3] at ht
  have hm : t ∈ [24] := by simpa using Array.mem_of_getElem? ht
  have hall : ([24].all fun u => !Tryd.prog.wantsStandIn u) = true := by kernel_rfl
  exact (show Tryd.prog.wantsStandIn t = false by simpa using List.all_eq_true.1 hall t hm)
theorem fnExactColouringText_card : Rows.FnExactColouringTextCardSaid :=
  Claim7.holds_tied_plain_at .later [] _ _ _ _ fnExactColouringText_holds (fun _ h => by cases h) (by kernel_rfl) (fun _ h => by cases h) fnExactColouringText_row_tie rfl ⟨rfl, rfl⟩ (by kernel_rfl) rfl plain3 (by kernel_rfl)
#print axioms fnExactColouringText_card
end Go.Proofs.YtilpfhiebbbbjaaDoor
