/- For every argument the law FnExactConnectedColours returns true: ConnectedColours answers as its model does, and each answer is a list of its own. The condition is the row's own: math/bits' table of trailing zeros lies as its initialiser lays it; the card ties that to the program's text. -/
import Derived.Test.YtkiocedhibeieaaDoorTab
import Derived.Test.YtkiocedhibeieaaDoorCni
import Derived.Test.YtkiocedhibeieaaDoorHg
import Derived.Test.YtkiocedhibeieaaDoorHi
import Derived.Test.YtkiocedhibeieaaDoorHh
namespace Go.Proofs.YtkiocedhibeieaaDoor
set_option linter.unusedVariables false
set_option linter.unusedSimpArgs false
open Go Go.RowKit Go.ChangeShapes Go.WideShapes Go.ChangeAt
set_option maxRecDepth 100000 in
set_option maxHeartbeats 2000000 in
theorem walk11 (n k : Int) (bs : List Nat) (hb : Bys bs) (w : World) (hT : Tz w) :
    Calls Tryd.prog 11 #[.agg (ccells n k bs).toArray] w fun e w' => e = .returned (.bool true) ∧ Below w.heap.size w w' := by
  have HS := hidd (size_c24 n k hb)
  have hS := spec37 n k bs hb
  have hI := impl38 n k bs hb
  have HW0 := hidd (tz_pos hT)
  have HT := hidd hT
  have hl : (cnL n k bs).length ≤ 17 := cnL_len n k bs
  generalize cnL n k bs = zs at hS hI hl
  generalize cnCode n k bs = cd at hS hI
  have HSP := hidd hS
  have HIM := hidd hI
  clear hS hI hT
  have hne : (cd != cd) = false := by simp
  have hm : ((1 + (zs.length : Int)) != (1 + (zs.length : Int))) = false := by simp
  go_enter Tryd.func11, Tryd.ntmps11
  go_wp2_with (refine wpList_load_row rfl 24 (.tmp 1) rfl w.heap.size rfl 24 _ (0,0) _ (Blk.new _ _ _ _ rfl) Tryd.underlying24 rfl HS.out ?_)
  refine (toCol_any n k bs _ hb).mono ?_
  rintro e w1 ⟨rfl, hb1⟩
  have b1 := ((Below.refl w.heap.size w).alloc (Nat.le_refl _) (.cells (ccells n k bs).toArray 24)).trans (hb1.mono (by simp))
  have c1 := (Blk.new w (ccells n k bs).toArray 24 _ rfl).below hb1 (by simp)
  have G1 := hidd (And.intro b1 c1)
  clear hb1 b1 c1
  go_wp2_with fail
  refine (HSP.out _).mono ?_
  rintro e w2 ⟨a0, cap0, rfl, o0, hb2⟩
  have G2 := hidd (And.intro (G1.out.1.trans (hb2.mono G1.out.1.size)) (And.intro (G1.out.2.below hb2 G1.out.2.lt) (ownL_base o0 (Nat.zero_le _))))
  clear hb2 o0
  go_wp2_with (refine wpList_load_row rfl 24 (.tmp 1) rfl w.heap.size rfl 24 _ (0,0) _ G2.out.2.1 Tryd.underlying24 rfl HS.out ?_)
  refine (toCol_any n k bs _ hb).mono ?_
  rintro e w3 ⟨rfl, hb3⟩
  have G3 := hidd (And.intro (G2.out.1.trans (hb3.mono G2.out.1.size)) (And.intro (G2.out.2.1.below hb3 G2.out.2.1.lt) (G2.out.2.2.below hb3 (Nat.le_refl _))))
  have HT3 := hidd (And.intro (HT.out.below G3.out.1 HW0.out) (Nat.lt_of_lt_of_le HW0.out G3.out.1.size))
  clear hb3
  go_wp2_with fail
  refine (HIM.out _ HT3.out.1 HT3.out.2).mono ?_
  rintro e w4 ⟨a1, cap1, rfl, o1, hb4⟩
  have G4 := hidd (And.intro hb4 (And.intro o1 (G3.out.2.2.below hb4 (Nat.le_refl _))))
  clear hb4 o1
  go_wp2_with fail
  refine (eq22 zs a1 a0 _ _ _ G4.out.2.1.sl G4.out.2.2.sl (by omega)).mono ?_
  rintro e w5 ⟨rfl, hb5⟩
  have G5 := hidd (And.intro (G4.out.1.trans (hb5.mono G4.out.1.size)) (G4.out.2.1.below hb5 (Nat.le_refl _)))
  clear hb5
  go_wp2_with fail
  refine (mark29 zs.length a1 _ w3.heap.size 1 zs _ rfl G5.out.2 G5.out.1.size (by omega) (by omega) (by omega)).mono ?_
  rintro e w6 ⟨rfl, o6, hb6⟩
  have d6 := G5.out.1.trans hb6
  have G6 := hidd (And.intro (G3.out.1.trans (d6.mono G3.out.1.size)) (And.intro (G3.out.2.1.below d6 G3.out.2.1.lt) (And.intro (G3.out.2.2.below d6 (Nat.le_refl _)) o6)))
  clear hb6 o6 d6
  go_wp2_with fail
  refine (held30 zs.length a1 _ w3.heap.size 1 _ G6.out.2.2.2 (by omega) (by omega) (by omega)).mono ?_
  rintro e w' ⟨rfl, rfl⟩
  go_wp2_with (refine wpList_load_row rfl 24 (.tmp 1) rfl w.heap.size rfl 24 _ (0,0) _ G6.out.2.1 Tryd.underlying24 rfl HS.out ?_)
  refine (toCol_any n k bs _ hb).mono ?_
  rintro e w7 ⟨rfl, hb7⟩
  have G7 := hidd (And.intro (G6.out.1.trans (hb7.mono G6.out.1.size)) (And.intro (G6.out.2.2.1.below hb7 (Nat.le_refl _)) (G6.out.2.2.2.below hb7 (Nat.le_refl _))))
  have HT7 := hidd (And.intro (HT.out.below G7.out.1 HW0.out) (Nat.lt_of_lt_of_le HW0.out G7.out.1.size))
  clear hb7
  go_wp2_with fail
  refine (HIM.out _ HT7.out.1 HT7.out.2).mono ?_
  rintro e w8 ⟨a2, cap2, rfl, o8, hb8⟩
  have G8 := hidd (And.intro (G7.out.1.trans (hb8.mono G7.out.1.size)) (And.intro (G7.out.2.1.below hb8 (Nat.le_refl _)) (And.intro (G7.out.2.2.below hb8 (Nat.le_refl _)) o8)))
  clear hb8 o8
  go_wp2_with fail
  refine (eq22 zs a2 a0 _ _ _ G8.out.2.2.2.sl G8.out.2.1.sl (by omega)).mono ?_
  rintro e w9 ⟨rfl, hb9⟩
  have G9 := hidd (And.intro (G8.out.1.trans (hb9.mono G8.out.1.size)) (G8.out.2.2.1.below hb9 (Nat.le_refl _)))
  clear hb9
  go_wp2_with fail
  refine (held30 zs.length a1 _ w3.heap.size 1 _ G9.out.2 (by omega) (by omega) (by omega)).mono ?_
  rintro e w' ⟨rfl, rfl⟩
  go_wp2
  go_ret
  exact ⟨rfl, G9.out.1⟩
set_option maxRecDepth 100000 in
theorem lifted11 (os : Os) (started : os.Started) (H : Type) (enc : TypeId × Value → H) :
    ReturnsInHanded {} Tryd.checked os 11 .any (fun w args => (Rows.fnExactConnectedColoursSpec.pre enc Tryd.prog Tryd.f11 [] false w args ∧ laidMetH Tryd.prog Rows.fnExactConnectedColoursRow.laid w) ∧ sizedMet enc Tryd.prog Tryd.f11 (OpenSpec.ofChange Rows.fnExactConnectedColoursSpec) false w args) (Rows.fnExactConnectedColoursSpec.post enc Tryd.prog Tryd.f11 false true false false) := by
  refine returnsInHanded_of_change_and (C := Tryd.checked) (X := fun w _ => laidMetH Tryd.prog Rows.fnExactConnectedColoursRow.laid w) (fun _ _ _ hh h => h.of_heap hh) own started (by kernel_rfl) Tryd.func11
    (ChangeSpec.witness_at (enc := enc) (C := Tryd.checked) (X := fun w _ => laidMetH Tryd.prog Rows.fnExactConnectedColoursRow.laid w) false (laidWorld os #[.agg (ccells 0 0 zbl).toArray]) #[.agg (ccells 0 0 zbl).toArray] 8 rfl (by kernel_rfl) (by kernel_rfl) (by kernel_rfl) (by kernel_rfl) (by kernel_rfl) (laid_met os _)) ?_
  intro W base args ds gs before hval0 hW hcnd _ hL _
  have hval : ∀ (j : Nat) t v, Tryd.f11.params[j]? = some t → args[j]? = some v → Value.okWide Tryd.prog W .any base t v := hval0
  have hT : Tz W := tz_of hL
  have hW' := hW
  obtain ⟨p, q, hA0, hV, rfl, hfz, hnd⟩ := hW
  have hA : DataW.TrodAll enc Tryd.prog W 0 (fun _ => true) true Tryd.f11.params.toList args.toList ds p := hA0
  rw [Tryd.params11] at hA hval
  obtain ⟨v0, vs0, d0, ds0, p0, q0, hargs, rfl, rfl, h0, r0⟩ := trodAll_cons hA
  obtain ⟨rfl, rfl, rfl⟩ := trodAll_nil r0
  obtain rfl : args = #[v0] := by cases args; simp_all
  obtain ⟨rfl, rfl⟩ := trodVars_none hV
  have k0 := h0
  have lt0 := lt_of_trod k0
  obtain ⟨n0, c0, b0, rfl, hb0, _, _⟩ := open_col Tryd.underlying24 cells24 (hval 0 24 v0 rfl rfl) h0
  clear hA0 hval0
  refine (walk11 n0 c0 b0 hb0 W hT ).mono fun e W' ⟨he, bel⟩ => ?_
  subst he
  exact ⟨_, rfl, _, _, _, [], _, [], hW', trodAll_mk1 (shut_bool Tryd.underlying4 _), (trodAll_cons_mk (Below.trod laidOut read24 row24 k0 bel lt0) trodAll_mk0), rfl, bel.frame _, fun h => by cases h⟩
theorem fnExactConnectedColours_holds : Rows.FnExactConnectedColoursSaid :=
  OpenClaim.holds_of_wide 11 Tryd.f11 rfl rfl rfl rfl rfl rfl rfl ⟨rfl, rfl, rfl, rfl, rfl⟩ rfl rfl rfl rfl rfl (by kernel_rfl) Tryd.func11 (by kernel_rfl)
    (of_decide_eq_true (by kernel_rfl)) (by unfold Func.isWrapper; first | (rw [if_pos (by decide +kernel)]; kernel_rfl) | (rw [if_neg (by decide +kernel)]; exact ⟨rfl, rfl⟩))
    (fun os started H enc _ => lifted11 os started H enc)
theorem plain11 (f : FuncId) (fn : Func) (hf : Tryd.pinned.checked.prog.funcNamed "loop.example/g01362/laws.FnExactConnectedColours" = some f) (hfn : Tryd.pinned.checked.prog.funcs[f]? = some fn) :
    false = Tryd.pinned.checked.prog.looks [] ∧ ∀ (j : Nat) t, fn.params[j]? = some t → Tryd.pinned.checked.prog.wantsStandIn t = false := by
  obtain rfl : f = 11 := Option.some.inj ((show Tryd.prog.funcNamed "loop.example/g01362/laws.FnExactConnectedColours" = some 11 by kernel_rfl).symm.trans hf) |>.symm
  obtain rfl : fn = Tryd.f11 := (Option.some.inj (Tryd.func11.symm.trans hfn)).symm
  refine ⟨by kernel_rfl, fun j t ht => ?_⟩
  rw [Tryd.params11] at ht
  have hm : t ∈ [24] := by simpa using Array.mem_of_getElem? ht
  have hall : ([24].all fun u => !Tryd.prog.wantsStandIn u) = true := by kernel_rfl
  exact (show Tryd.prog.wantsStandIn t = false by simpa using List.all_eq_true.1 hall t hm)
theorem fnExactConnectedColours_card : Rows.FnExactConnectedColoursCardSaid :=
  Claim7.holds_tied_plain_at .later [] _ _ _ _ fnExactConnectedColours_holds (fun _ h => by cases h) (by kernel_rfl) (fun _ h => by cases h) fnExactConnectedColours_row_tie rfl ⟨rfl, rfl⟩ (by kernel_rfl) rfl plain11 (by kernel_rfl)
#print axioms fnExactConnectedColours_card
end Go.Proofs.YtkiocedhibeieaaDoor
