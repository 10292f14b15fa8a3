/- For every argument the law FnExactCupNumber returns true. The condition is the row's own: the package's one sentinel lies as its initialiser lays it; the card ties that to the program's text. -/
import Derived.Test.YtlnelmickndoaaaDoorWit
import Derived.Test.YtlnelmickndoaaaDoorTie
import Derived.Test.YtlnelmickndoaaaDoorCards
import Derived.Test.YtlnelmickndoaaaDoorCup
namespace Go.Proofs.YtlnelmickndoaaaDoor
set_option linter.unusedVariables false
set_option linter.unusedSimpArgs false
open Go Go.RowKit Go.ChangeShapes Go.WideShapes Go.ChangeAt
set_option maxRecDepth 100000 in
set_option maxHeartbeats 2000000 in
theorem walk3 (u0 : Int) (_ : -9223372036854775808 ≤ u0) (_ : u0 ≤ 9223372036854775807) (u1 : Int) (_ : -9223372036854775808 ≤ u1) (_ : u1 ≤ 9223372036854775807) (e0 : Addr) (w : World) (hT : Er w e0) :
    Calls Tryd.prog 3 #[.int .i64 u0, .int .i64 u1] w fun e w' => e = .returned (.bool true) ∧ Below w.heap.size w w' := by
  have hS := spec4c u0 u1
  have hI := impl5c u0 u1 e0
  have HT := hidd hT
  generalize cuV u0 u1 = x1 at hS hI
  generalize cuC u0 u1 = cd at hS hI
  have HSP := hidd hS
  have HIM := hidd hI
  clear hS hI hT
  have hne1 : (x1 != x1) = false := by simp
  have hne3 : (cd != cd) = false := by simp
  go_enter Tryd.func3, Tryd.ntmps3
  go_wp2_with fail
  refine (HSP.out _).mono ?_
  rintro e w1 ⟨rfl, hb1⟩
  have G1 := hidd (And.intro hb1 (HT.out.below hb1 HT.out.lt))
  clear hb1
  go_wp2_with fail
  refine (HIM.out _ G1.out.2).mono ?_
  rintro e w2 ⟨rfl, hb2⟩
  have G2 := hidd (G1.out.1.trans (hb2.mono G1.out.1.size))
  clear hb2
  go_wp2_with fail
  go_ret
  exact ⟨rfl, G2.out⟩
set_option maxRecDepth 100000 in
theorem lifted3 (os : Os) (started : os.Started) (H : Type) (enc : TypeId × Value → H) :
    ReturnsInHanded {} Tryd.checked os 3 .any (fun w args => (Rows.fnExactCupNumberSpec.pre enc Tryd.prog Tryd.f3 [] false w args ∧ laidMetH Tryd.prog Rows.fnExactCupNumberRow.laid w) ∧ sizedMet enc Tryd.prog Tryd.f3 (OpenSpec.ofChange Rows.fnExactCupNumberSpec) false w args) (Rows.fnExactCupNumberSpec.post enc Tryd.prog Tryd.f3 false true false false) := by
  refine returnsInHanded_of_change_and (C := Tryd.checked) (X := fun w _ => laidMetH Tryd.prog Rows.fnExactCupNumberRow.laid w) (fun _ _ _ hh h => h.of_heap hh) own started (by kernel_rfl) Tryd.func3
    (ChangeSpec.witness_at (enc := enc) (C := Tryd.checked) (X := fun w _ => laidMetH Tryd.prog Rows.fnExactCupNumberRow.laid w) false (laidWorld os) #[.int .i64 0, .int .i64 0] 8 rfl (by kernel_rfl) (by kernel_rfl) (by kernel_rfl) (by kernel_rfl) (by kernel_rfl) (laid_met os _)) ?_
  intro W base args ds gs before hval0 hW hcnd _ hL _
  have hval : ∀ (j : Nat) t v, Tryd.f3.params[j]? = some t → args[j]? = some v → Value.okWide Tryd.prog W .any base t v := hval0
  have hW' := hW
  obtain ⟨p, q, hA0, hV0, rfl, hfz, hnd⟩ := hW
  have hA : DataW.TrodAll enc Tryd.prog W 0 (fun _ => true) true Tryd.f3.params.toList args.toList ds p := hA0
  have hV : DataW.TrodVars enc Tryd.prog W (fun _ => true) ["loop.example/g01362/impl.errOutside"] gs q := hV0
  obtain ⟨e0, hT, hv0⟩ := er_of2 hL
  obtain ⟨rfl, rfl⟩ := hV.unique (vars_read enc hv0 trivial _)
  rw [Tryd.params3] at hA hval
  obtain ⟨v0, vs0, d0, ds0, p0, q0, hargs, rfl, rfl, h0, r0⟩ := trodAll_cons hA
  obtain ⟨v1, vs1, d1, ds1, p1, q1, rfl, rfl, rfl, h1, r1⟩ := trodAll_cons r0
  obtain ⟨rfl, rfl, rfl⟩ := trodAll_nil r1
  obtain rfl : args = #[v0, v1] := by cases args; simp_all
  have k0 := h0
  have lt0 := lt_of_trod k0
  obtain ⟨u0, rfl, lo0, hi0⟩ := open_num (hval 0 2 v0 rfl rfl) h0
  have k1 := h1
  have lt1 := lt_of_trod k1
  obtain ⟨u1, rfl, lo1, hi1⟩ := open_num (hval 1 2 v1 rfl rfl) h1
  clear hA0 hV0 hval0
  refine (walk3 u0 lo0 hi0 u1 lo1 hi1 e0 W hT).mono fun e W' ⟨he, bel⟩ => ?_
  subst he
  exact ⟨_, rfl, _, _, _, [], _, [.cell 0 0], hW', trodAll_mk1 (shut_bool Tryd.underlying4 _), (trodAll_cons_mk (Below.trod laidOut read2 row2 k0 bel lt0) (trodAll_cons_mk (Below.trod laidOut read2 row2 k1 bel lt1) trodAll_mk0)), vars_read enc (var_below bel hv0) trivial _, bel.frame _, fun h => by cases h⟩
theorem fnExactCupNumber_holds : Rows.FnExactCupNumberSaid :=
  OpenClaim.holds_of_wide 3 Tryd.f3 rfl rfl rfl rfl rfl rfl rfl ⟨rfl, rfl, rfl, rfl, rfl⟩ rfl rfl rfl rfl rfl (by kernel_rfl) Tryd.func3 (by kernel_rfl)
    (of_decide_eq_true (by kernel_rfl)) (by unfold Func.isWrapper; first | (rw [if_pos (by decide +kernel)]; kernel_rfl) | (rw [if_neg (by decide +kernel)]; exact ⟨rfl, rfl⟩))
    (fun os started H enc _ => lifted3 os started H enc)
theorem plain3 (f : FuncId) (fn : Func) (hf : Tryd.pinned.checked.prog.funcNamed "loop.example/g01362/laws.FnExactCupNumber" = some f) (hfn : Tryd.pinned.checked.prog.funcs[f]? = some fn) :
    true = Tryd.pinned.checked.prog.looks [] ∧ ∀ (j : Nat) t, fn.params[j]? = some t → Tryd.pinned.checked.prog.wantsStandIn t = false := by
  obtain rfl : f = 3 := Option.some.inj ((show Tryd.prog.funcNamed "loop.example/g01362/laws.FnExactCupNumber" = some 3 by kernel_rfl).symm.trans hf) |>.symm
  obtain rfl : fn = Tryd.f3 := (Option.some.inj (Tryd.func3.symm.trans hfn)).symm
  refine ⟨by kernel_rfl, fun j t ht => ?_⟩
  rw [Tryd.params3] at ht
  have hm : t ∈ [2, 2] := by simpa using Array.mem_of_getElem? ht
  have hall : ([2, 2].all fun u => !Tryd.prog.wantsStandIn u) = true := by kernel_rfl
  exact (show Tryd.prog.wantsStandIn t = false by simpa using List.all_eq_true.1 hall t hm)
theorem fnExactCupNumber_card : Rows.FnExactCupNumberCardSaid :=
  Claim7.holds_tied_plain_at .later [] _ _ _ _ fnExactCupNumber_holds (fun _ h => by cases h) (by kernel_rfl) (fun _ h => by cases h) fnExactCupNumber_row_tie rfl ⟨rfl, rfl⟩ (by kernel_rfl) rfl plain3 (by kernel_rfl)
#print axioms fnExactCupNumber_card
end Go.Proofs.YtlnelmickndoaaaDoor
