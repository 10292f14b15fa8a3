/- For every list of numbers the law FnExactSequenceColouring returns true: SequenceColouring answers as its model does and leaves its list as it was. No condition beside the row's own. -/
import Derived.Test.YtljlbonoohhhdaaGe
import Derived.Test.YtljlbonoohhhdaaSqs
namespace Go.Proofs.Ytljlbonoohhhdaa
set_option linter.unusedVariables false
set_option linter.unusedSimpArgs false
open Go Go.RowKit Go.ChangeShapes Go.WideShapes Go.ChangeAt
set_option maxRecDepth 100000 in
set_option maxHeartbeats 1000000 in
theorem walk3 (a : Option Addr) (zs : List Int) (cap : Nat) (w : World) (hs : SlI w a zs) (hl : zs.length ≤ 9223372036854775807) :
    Calls Try.prog 3 #[.slice a zs.length cap] w fun e w' => e = .returned (.bool true) ∧ Below w.heap.size w w' := by
  by_cases hbig : 1048576 < zs.length
  · go_enter Try.func3, Try.ntmps3
    go_wp2
    go_ret
    exact ⟨rfl, Below.refl _ _⟩
  · have hsm : zs.length ≤ 1048576 := by omega
    have Hz := zero26
    obtain ⟨rn, hrn⟩ : ∃ v, v = sqN zs := ⟨_, rfl⟩
    obtain ⟨rk, hrk⟩ : ∃ v, v = sqK zs := ⟨_, rfl⟩
    obtain ⟨rb, hrb⟩ : ∃ v, v = sqB zs := ⟨_, rfl⟩
    obtain ⟨cd, hcd⟩ : ∃ v, v = sqCode zs := ⟨_, rfl⟩
    have hbr : Bys rb := by rw [hrb]; exact sqB_bys zs
    have HV := hidd (show sqOut zs = .tuple #[.agg (ccells rn rk rb).toArray, .int .i64 cd] by rw [hrn, hrk, hrb, hcd]; rfl)
    have HSR := hidd (size_c26 rn rk hbr)
    have HOR := hidd (size_cc 0 0 rn rk zbl_bys hbr)
    have HAR := hidd (ccells_one rn rk rb)
    have HSL := hidd hs
    clear hrn hrk hrb hcd hs
    go_enter Try.func3, Try.ntmps3
    go_wp2_with fail
    refine (copy19 zs a cap _ HSL.out hsm).mono ?_
    rintro e w2 ⟨rfl, hk2, hb2⟩
    have G2 := hidd (And.intro hb2 (sl_of_blk hk2))
    clear hk2 hb2
    go_wp2_with fail
    refine (spec7 zs _ _ _ G2.out.2 hl).mono ?_
    rintro e w3 ⟨rfl, hb3⟩
    rw [HV.out]
    have b3 := G2.out.1.trans (hb3.mono G2.out.1.size)
    have G3 := hidd (show Blk ((w3.alloc (.cells (ccells 0 0 zbl).toArray 25)).setRow w3.heap.size (ccells rn rk rb).toArray) w3.heap.size (ccells rn rk rb).toArray 25 ∧ Below w.heap.size w ((w3.alloc (.cells (ccells 0 0 zbl).toArray 25)).setRow w3.heap.size (ccells rn rk rb).toArray) from ⟨(Blk.new _ _ _ _ rfl).rowSame _, below_setRow (b3.alloc b3.size _) b3.size _⟩)
    clear hb3 b3
    go_wp2_with (first
      | (refine wpList_store_row rfl 25 (.tmp 3) (.tmp 15) rfl w3.heap.size _ rfl rfl 25 _ (Blk.new _ _ _ _ rfl) HSR.out HOR.out HAR.out ?_))
    refine (copy19b zs a cap _ (w3.heap.size + 1) (by simp) (HSL.out.below G3.out.2 (Nat.le_refl _)) hsm).mono ?_
    rintro e w4 ⟨rfl, hk4, hb4⟩
    have G4 := hidd (And.intro (G3.out.2.trans (hb4.mono G3.out.2.size)) (And.intro (G3.out.1.below hb4 G3.out.1.lt) hk4))
    clear hk4 hb4
    go_wp2_with fail
    refine (impl9 zs _ _ _ (sl_of_blk G4.out.2.2) hl).mono ?_
    rintro e w6 ⟨rfl, hb6⟩
    rw [HV.out]
    have b6 := G4.out.1.trans (hb6.mono G4.out.1.size)
    have c6 := G4.out.2.1.below hb6 G4.out.2.1.lt
    have x6 := G4.out.2.2.below hb6 G4.out.2.2.lt
    have G6 := hidd (And.intro (kept_row (D := (ccells rn rk rb).toArray) c6 b6 (ccells 0 0 zbl).toArray) (kept_more (D := (ccells rn rk rb).toArray) x6 (ccells 0 0 zbl).toArray))
    clear hb6 b6 c6 x6
    go_wp2_with (first
      | (refine wpList_store_row rfl 25 (.tmp 6) (.tmp 22) rfl w6.heap.size _ rfl rfl 25 _ (Blk.new _ _ _ _ rfl) HSR.out HOR.out HAR.out ?_)
      | (refine wpList_load_row rfl 25 (.tmp 6) rfl w6.heap.size rfl 25 _ (0,0) _ G6.out.1.2.1 Try.underlying25 rfl HSR.out ?_)
      | (refine wpList_load_row rfl 25 (.tmp 3) rfl w3.heap.size rfl 25 _ (0,0) _ G6.out.1.1 Try.underlying25 rfl HSR.out ?_))
    refine (eqCol_same rn rk rb hbr _).mono ?_
    rintro e w7 ⟨rfl, hb7⟩
    have G7 := hidd (And.intro (G6.out.1.2.2.trans (hb7.mono G6.out.1.2.2.size)) (G6.out.2.below hb7 G6.out.2.lt))
    have hne : (cd != cd) = false := by simp
    clear hb7
    go_wp2_with fail
    refine (copy19 zs a cap _ (HSL.out.below G7.out.1 (Nat.le_refl _)) hsm).mono ?_
    rintro e w8 ⟨rfl, hk8, hb8⟩
    have G8 := hidd (And.intro (G7.out.1.trans (hb8.mono G7.out.1.size)) (And.intro (sl_of_blk (G7.out.2.below hb8 G7.out.2.lt)) (sl_of_blk hk8)))
    clear hk8 hb8
    go_wp2_with fail
    refine (eq22 zs _ _ _ _ _ G8.out.2.1 G8.out.2.2 hsm).mono ?_
    rintro e w9 ⟨rfl, hb9⟩
    have G9 := hidd (G8.out.1.trans (hb9.mono G8.out.1.size))
    clear hb9
    go_wp2
    go_ret
    exact ⟨rfl, G9.out⟩
set_option maxRecDepth 100000 in
theorem lifted3 (os : Os) (started : os.Started) (H : Type) (enc : TypeId × Value → H) :
    ReturnsInHanded {} Try.checked os 3 .any (Rows.fnExactSequenceColouringSpec.pre6 enc Try.prog Try.f3 Rows.fnExactSequenceColouringRow.domain false) (Rows.fnExactSequenceColouringSpec.post enc Try.prog Try.f3 false true false false) := by
  refine returnsInHanded_of_change (C := Try.checked) own started (by kernel_rfl) Try.func3
    (ChangeSpec.witness6 (enc := enc) (C := Try.checked) false ⟨#[], #[.slice none 0 0], []⟩ 8 (by kernel_rfl) (by kernel_rfl) (by kernel_rfl) (by kernel_rfl)) ?_
  intro W base args ds gs before hval0 hW hcnd _
  have hval : ∀ (j : Nat) t v, Try.f3.params[j]? = some t → args[j]? = some v → Value.okWide Try.prog W .any base t v := hval0
  have hW' := hW
  obtain ⟨p, q, hA0, hV, rfl, hfz, hnd⟩ := hW
  have hA : DataW.TrodAll enc Try.prog W 0 (fun _ => true) true Try.f3.params.toList args.toList ds p := hA0
  rw [Try.params3] at hA hval
  obtain ⟨v0, vs0, d0, ds0, p0, q0, hargs, rfl, rfl, h0, r0⟩ := trodAll_cons hA
  obtain ⟨rfl, rfl, rfl⟩ := trodAll_nil r0
  obtain rfl : args = #[v0] := by cases args; simp_all
  obtain ⟨rfl, rfl⟩ := trodVars_none hV
  have k0 := h0
  have lt0 := lt_of_trod k0
  obtain ⟨a0, zs0, cap0, rfl, hs0, hl0, hz0⟩ := open_list (hval 0 22 v0 rfl rfl) h0
  clear hA0 hval0
  refine (walk3 a0 zs0 cap0 W hs0 hl0).mono fun e W' ⟨he, bel⟩ => ?_
  subst he
  exact ⟨_, rfl, _, _, _, [], _, [], hW', trodAll_mk1 (shut_bool Try.underlying4 _), (trodAll_cons_mk (Below.trod laidOut read29 row29 k0 bel lt0) trodAll_mk0), rfl, bel.frame _, fun h => by cases h⟩
theorem fnExactSequenceColouring_holds : Rows.FnExactSequenceColouringSaid :=
  OpenClaim.holds_of_wide 3 Try.f3 rfl rfl rfl rfl rfl rfl rfl ⟨rfl, rfl, rfl, rfl, rfl⟩ rfl rfl rfl rfl rfl (by kernel_rfl) Try.func3 (by kernel_rfl)
    (of_decide_eq_true (by kernel_rfl)) (by unfold Func.isWrapper; first | (rw [if_pos (by decide +kernel)]; kernel_rfl) | (rw [if_neg (by decide +kernel)]; exact ⟨rfl, rfl⟩))
    (fun os started H enc _ => lifted3 os started H enc)
#print axioms fnExactSequenceColouring_holds
end Go.Proofs.Ytljlbonoohhhdaa
