/- For every argument the law FnExactFullCliques returns true: FullCliques answers as its model does, and each answer is a list of lists of its own. The condition is the row's own: math/bits' table of trailing zeros lies as its initialiser lays it; the card ties that to the program's text. -/
import Derived.Test.YtkiocedhibeieaaDoorTab
import Derived.Test.YtkiocedhibeieaaDoorHg
import Derived.Test.YtkiocedhibeieaaDoorHi
import Derived.Test.YtkiocedhibeieaaDoorHh
import Derived.Test.YtkiocedhibeieaaDoorFlj
namespace Go.Proofs.YtkiocedhibeieaaDoor
set_option linter.unusedVariables false
set_option linter.unusedSimpArgs false
open Go Go.RowKit Go.ChangeShapes Go.WideShapes Go.ChangeAt
set_option maxRecDepth 100000 in
set_option maxHeartbeats 2000000 in
theorem walk6 (n k : Int) (bs : List Nat) (hb : Bys bs) (u1 : Int) (_ : -9223372036854775808 ≤ u1) (_ : u1 ≤ 9223372036854775807) (w : World) (hT : Tz w) :
    Calls Tryd.prog 6 #[.agg (ccells n k bs).toArray, .int .i64 u1] w fun e w' => e = .returned (.bool true) ∧ Below w.heap.size w w' := by
  have HS := hidd (size_c24 n k hb)
  have hS := spec27 n k bs hb u1
  have hI := impl28 n k bs hb u1
  have HW0 := hidd (tz_pos hT)
  have HT := hidd hT
  have hl : (fcL n k bs u1).length ≤ 200 ∧ ∀ z ∈ fcL n k bs u1, z.length ≤ 17 := fcL_len n k bs u1
  generalize fcL n k bs u1 = L at hS hI hl
  generalize fcCode n k bs u1 = cd at hS hI
  have hl1 : L.length ≤ 200 := hl.1
  have HL2 := hidd (fun z (hz : z ∈ L) => (Nat.le_trans (hl.2 z hz) (by omega) : z.length ≤ 1048576))
  obtain ⟨f, hf⟩ : ∃ f, f = fun j => L.getD j [] := ⟨_, rfl⟩
  have hfl : ∀ i, i < L.length → (f i).length ≤ 1000 := fun i hi => by
    rw [hf]
    exact Nat.le_trans (hl.2 _ (by simp [List.getD, hi])) (by omega)
  have HSP := hidd hS
  have HIM := hidd hI
  have HF := hidd hf
  have HFL := hidd hfl
  clear hS hI hT hl hf hfl
  have hne : (cd != cd) = false := by simp
  have hm : ((1 + ((offF f L.length : Nat) : Int)) != (1 + ((offF f L.length : Nat) : Int))) = false := by simp
  go_enter Tryd.func6, Tryd.ntmps6
  go_wp2_with (refine wpList_load_row rfl 24 (.tmp 2) rfl w.heap.size rfl 24 _ (0,0) _ (Blk.new _ _ _ _ rfl) Tryd.underlying24 rfl HS.out ?_)
  refine (toCol_any n k bs _ hb).mono ?_
  rintro e w1 ⟨rfl, hb1⟩
  have b1 := ((Below.refl w.heap.size w).alloc (Nat.le_refl _) (.cells (ccells n k bs).toArray 24)).trans (hb1.mono (by simp))
  have c1 := (Blk.new w (ccells n k bs).toArray 24 _ rfl).below hb1 (by simp)
  have G1 := hidd (And.intro b1 c1)
  clear hb1 b1 c1
  go_wp2_with fail
  refine (HSP.out _).mono ?_
  rintro e w2 ⟨a0, cap0, rfl, o0, hb2⟩
  have G2 := hidd (And.intro (G1.out.1.trans (hb2.mono G1.out.1.size)) (And.intro (G1.out.2.below hb2 G1.out.2.lt) o0))
  clear hb2 o0
  go_wp2_with (refine wpList_load_row rfl 24 (.tmp 2) rfl w.heap.size rfl 24 _ (0,0) _ G2.out.2.1 Tryd.underlying24 rfl HS.out ?_)
  refine (toCol_any n k bs _ hb).mono ?_
  rintro e w3 ⟨rfl, hb3⟩
  have G3 := hidd (And.intro (G2.out.1.trans (hb3.mono G2.out.1.size)) (And.intro (G2.out.2.1.below hb3 G2.out.2.1.lt) (G2.out.2.2.below hb3 (Nat.le_refl _))))
  have HT3 := hidd (And.intro (HT.out.below G3.out.1 HW0.out) (Nat.lt_of_lt_of_le HW0.out G3.out.1.size))
  clear hb3
  go_wp2_with fail
  refine (HIM.out _ HT3.out.1 HT3.out.2).mono ?_
  rintro e w4 ⟨a1, cap1, rfl, o1, hb4⟩
  have G4 := hidd (And.intro hb4 (And.intro o1 (G3.out.2.2.below hb4 (Nat.le_refl _))))
  clear hb4 o1
  go_wp2_with fail
  refine (eq24 L a1 a0 _ _ _ G4.out.2.1.reads G4.out.2.2 (by omega) HL2.out).mono ?_
  rintro e w5 ⟨rfl, m5, hm5⟩
  have hb5 : Below w4.heap.size w4 w5 := by rw [hm5]; exact below_drewN (Below.refl _ _) _
  have G5 := hidd (show Below w3.heap.size w3 w5 ∧ LLO w5 w3.heap.size a1 L.length f from ⟨G4.out.1.trans (hb5.mono G4.out.1.size), by rw [HF.out]; exact G4.out.2.1.below hb5 (Nat.le_refl _)⟩)
  clear hb5 hm5
  go_wp2_with fail
  refine (mark25 L.length f a1 _ w3.heap.size 1 _ G5.out.2 G5.out.1.size (by omega) HFL.out (by omega) (by omega)).mono ?_
  rintro e w6 ⟨rfl, o6, hb6⟩
  have d6 := G5.out.1.trans hb6
  have G6 := hidd (And.intro (G3.out.1.trans (d6.mono G3.out.1.size)) (And.intro (G3.out.2.1.below d6 G3.out.2.1.lt) (And.intro (G3.out.2.2.below d6 (Nat.le_refl _)) o6)))
  clear hb6 o6 d6
  go_wp2_with fail
  refine (held26 L.length f a1 _ w3.heap.size 1 _ G6.out.2.2.2 (by omega) HFL.out (by omega) (by omega)).mono ?_
  rintro e w' ⟨rfl, rfl⟩
  go_wp2_with (refine wpList_load_row rfl 24 (.tmp 2) rfl w.heap.size rfl 24 _ (0,0) _ G6.out.2.1 Tryd.underlying24 rfl HS.out ?_)
  refine (toCol_any n k bs _ hb).mono ?_
  rintro e w7 ⟨rfl, hb7⟩
  have G7 := hidd (And.intro (G6.out.1.trans (hb7.mono G6.out.1.size)) (And.intro (G6.out.2.2.1.below hb7 (Nat.le_refl _)) (G6.out.2.2.2.below hb7 (Nat.le_refl _))))
  have HT7 := hidd (And.intro (HT.out.below G7.out.1 HW0.out) (Nat.lt_of_lt_of_le HW0.out G7.out.1.size))
  clear hb7
  go_wp2_with fail
  refine (HIM.out _ HT7.out.1 HT7.out.2).mono ?_
  rintro e w8 ⟨a2, cap2, rfl, o8, hb8⟩
  have G8 := hidd (And.intro (G7.out.1.trans (hb8.mono G7.out.1.size)) (And.intro (G7.out.2.1.below hb8 (Nat.le_refl _)) (And.intro (G7.out.2.2.below hb8 (Nat.le_refl _)) o8)))
  clear hb8 o8
  go_wp2_with fail
  refine (eq24 L a2 a0 _ _ _ G8.out.2.2.2.reads G8.out.2.1 (by omega) HL2.out).mono ?_
  rintro e w9 ⟨rfl, m9, hm9⟩
  have hb9 : Below w8.heap.size w8 w9 := by rw [hm9]; exact below_drewN (Below.refl _ _) _
  have G9 := hidd (And.intro (G8.out.1.trans (hb9.mono G8.out.1.size)) (G8.out.2.2.1.below hb9 (Nat.le_refl _)))
  clear hb9 hm9
  go_wp2_with fail
  refine (held26 L.length f a1 _ w3.heap.size 1 _ G9.out.2 (by omega) HFL.out (by omega) (by omega)).mono ?_
  rintro e w' ⟨rfl, rfl⟩
  go_wp2
  go_ret
  exact ⟨rfl, G9.out.1⟩
set_option maxRecDepth 100000 in
theorem lifted6 (os : Os) (started : os.Started) (H : Type) (enc : TypeId × Value → H) :
    ReturnsInHanded {} Tryd.checked os 6 .any (fun w args => (Rows.fnExactFullCliquesSpec.pre enc Tryd.prog Tryd.f6 [] false w args ∧ laidMetH Tryd.prog Rows.fnExactFullCliquesRow.laid w) ∧ sizedMet enc Tryd.prog Tryd.f6 (OpenSpec.ofChange Rows.fnExactFullCliquesSpec) false w args) (Rows.fnExactFullCliquesSpec.post enc Tryd.prog Tryd.f6 false true false false) := by
  refine returnsInHanded_of_change_and (C := Tryd.checked) (X := fun w _ => laidMetH Tryd.prog Rows.fnExactFullCliquesRow.laid w) (fun _ _ _ hh h => h.of_heap hh) own started (by kernel_rfl) Tryd.func6
    (ChangeSpec.witness_at (enc := enc) (C := Tryd.checked) (X := fun w _ => laidMetH Tryd.prog Rows.fnExactFullCliquesRow.laid w) false (laidWorld os #[.agg (ccells 0 0 zbl).toArray, .int .i64 0]) #[.agg (ccells 0 0 zbl).toArray, .int .i64 0] 8 rfl (by kernel_rfl) (by kernel_rfl) (by kernel_rfl) (by kernel_rfl) (by kernel_rfl) (laid_met os _)) ?_
  intro W base args ds gs before hval0 hW hcnd _ hL _
  have hval : ∀ (j : Nat) t v, Tryd.f6.params[j]? = some t → args[j]? = some v → Value.okWide Tryd.prog W .any base t v := hval0
  have hT : Tz W := tz_of hL
  have hW' := hW
  obtain ⟨p, q, hA0, hV, rfl, hfz, hnd⟩ := hW
  have hA : DataW.TrodAll enc Tryd.prog W 0 (fun _ => true) true Tryd.f6.params.toList args.toList ds p := hA0
  rw [Tryd.params6] at hA hval
  obtain ⟨v0, vs0, d0, ds0, p0, q0, hargs, rfl, rfl, h0, r0⟩ := trodAll_cons hA
  obtain ⟨v1, vs1, d1, ds1, p1, q1, rfl, rfl, rfl, h1, r1⟩ := trodAll_cons r0
  obtain ⟨rfl, rfl, rfl⟩ := trodAll_nil r1
  obtain rfl : args = #[v0, v1] := by cases args; simp_all
  obtain ⟨rfl, rfl⟩ := trodVars_none hV
  have k0 := h0
  have lt0 := lt_of_trod k0
  obtain ⟨n0, c0, b0, rfl, hb0, _, _⟩ := open_col Tryd.underlying24 cells24 (hval 0 24 v0 rfl rfl) h0
  have k1 := h1
  have lt1 := lt_of_trod k1
  obtain ⟨u1, rfl, lo1, hi1⟩ := open_num (hval 1 2 v1 rfl rfl) h1
  clear hA0 hval0
  refine (walk6 n0 c0 b0 hb0 u1 lo1 hi1 W hT ).mono fun e W' ⟨he, bel⟩ => ?_
  subst he
  exact ⟨_, rfl, _, _, _, [], _, [], hW', trodAll_mk1 (shut_bool Tryd.underlying4 _), (trodAll_cons_mk (Below.trod laidOut read24 row24 k0 bel lt0) (trodAll_cons_mk (Below.trod laidOut read2 row2 k1 bel lt1) trodAll_mk0)), rfl, bel.frame _, fun h => by cases h⟩
theorem fnExactFullCliques_holds : Rows.FnExactFullCliquesSaid :=
  OpenClaim.holds_of_wide 6 Tryd.f6 rfl rfl rfl rfl rfl rfl rfl ⟨rfl, rfl, rfl, rfl, rfl⟩ rfl rfl rfl rfl rfl (by kernel_rfl) Tryd.func6 (by kernel_rfl)
    (of_decide_eq_true (by kernel_rfl)) (by unfold Func.isWrapper; first | (rw [if_pos (by decide +kernel)]; kernel_rfl) | (rw [if_neg (by decide +kernel)]; exact ⟨rfl, rfl⟩))
    (fun os started H enc _ => lifted6 os started H enc)
theorem plain6 (f : FuncId) (fn : Func) (hf : Tryd.pinned.checked.prog.funcNamed "loop.example/g01362/laws.FnExactFullCliques" = some f) (hfn : Tryd.pinned.checked.prog.funcs[f]? = some fn) :
    false = Tryd.pinned.checked.prog.looks [] ∧ ∀ (j : Nat) t, fn.params[j]? = some t → Tryd.pinned.checked.prog.wantsStandIn t = false := by
  obtain rfl : f = 6 := Option.some.inj ((show Tryd.prog.funcNamed "loop.example/g01362/laws.FnExactFullCliques" = some 6 by kernel_rfl).symm.trans hf) |>.symm
  obtain rfl : fn = Tryd.f6 := (Option.some.inj (Tryd.func6.symm.trans hfn)).symm
  refine ⟨by kernel_rfl, fun j t ht => ?_⟩
  rw [Tryd.params6] at ht
  have hm : t ∈ [24, 2] := by simpa using Array.mem_of_getElem? ht
  have hall : ([24, 2].all fun u => !Tryd.prog.wantsStandIn u) = true := by kernel_rfl
  exact (show Tryd.prog.wantsStandIn t = false by simpa using List.all_eq_true.1 hall t hm)
theorem fnExactFullCliques_card : Rows.FnExactFullCliquesCardSaid :=
  Claim7.holds_tied_plain_at .later [] _ _ _ _ fnExactFullCliques_holds (fun _ h => by cases h) (by kernel_rfl) (fun _ h => by cases h) fnExactFullCliques_row_tie rfl ⟨rfl, rfl⟩ (by kernel_rfl) rfl plain6 (by kernel_rfl)
#print axioms fnExactFullCliques_card
end Go.Proofs.YtkiocedhibeieaaDoor
