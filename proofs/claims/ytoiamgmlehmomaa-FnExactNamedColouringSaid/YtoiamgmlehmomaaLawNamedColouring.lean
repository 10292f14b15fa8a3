/- For every text the law FnExactNamedColouring returns true: NamedColouring answers as its model does. No condition beside the row's own. -/
import Derived.Test.YtoiamgmlehmomaaNsp
import Derived.ChangeMaps5
namespace Go.Proofs.Ytoiamgmlehmomaa
set_option linter.unusedVariables false
set_option linter.unusedSimpArgs false
open Go Go.RowKit Go.ChangeShapes Go.WideShapes Go.ChangeAt
set_option maxRecDepth 100000 in
set_option maxHeartbeats 1000000 in
theorem walk3 (s : ByteArray) (w : World) : Calls Try.prog 3 #[.string s] w fun e w' => e = .returned (.bool true) ∧ Below w.heap.size w w' := by
  by_cases hbig : 1048576 < s.size
  · go_enter Try.func3, Try.ntmps3
    go_wp2
    go_ret
    exact ⟨rfl, Below.refl _ _⟩
  · have Hz := zero26
    obtain ⟨rn, hrn⟩ : ∃ v, v = ncN s := ⟨_, rfl⟩
    obtain ⟨rk, hrk⟩ : ∃ v, v = ncK s := ⟨_, rfl⟩
    obtain ⟨rb, hrb⟩ : ∃ v, v = ncB s := ⟨_, rfl⟩
    obtain ⟨cd, hcd⟩ : ∃ v, v = ncCode s := ⟨_, rfl⟩
    have hbr : Bys rb := by rw [hrb]; exact ncB_bys s
    have HV := hidd (show ncOut s = .tuple #[.agg (ccells rn rk rb).toArray, .int .i64 cd] by rw [hrn, hrk, hrb, hcd]; rfl)
    have HSR := hidd (size_c26 rn rk hbr)
    have HOR := hidd (size_cc 0 0 rn rk zbl_bys hbr)
    have HAR := hidd (ccells_one rn rk rb)
    have HEQ := hidd (fun w => eqCol_same rn rk rb hbr w)
    clear hrn hrk hrb hcd
    go_enter Try.func3, Try.ntmps3
    go_wp2_with fail
    refine (spec6 s _).mono ?_
    rintro e w1 ⟨rfl, hb1⟩
    rw [HV.out]
    have B1 : Below w1.heap.size w1 ((w1.alloc (.cells (ccells 0 0 zbl).toArray 24)).setRow w1.heap.size (ccells rn rk rb).toArray) := below_setRow ((Below.refl _ _).alloc (Nat.le_refl _) _) (Nat.le_refl _) _
    have G1 := hidd (And.intro ((Blk.new w1 (ccells 0 0 zbl).toArray 24 _ rfl).rowSame (ccells rn rk rb).toArray) (hb1.trans (B1.mono hb1.size)))
    clear B1 hb1
    go_wp2_with (first
      | (refine wpList_store_row rfl 24 (.tmp 3) (.tmp 13) rfl w1.heap.size _ rfl rfl 24 _ (Blk.new _ _ _ _ rfl) HSR.out HOR.out HAR.out ?_))
    refine (impl7 s _).mono ?_
    rintro e w2 ⟨rfl, hb2⟩
    rw [HV.out]
    have B2 : Below w2.heap.size w2 ((w2.alloc (.cells (ccells 0 0 zbl).toArray 24)).setRow w2.heap.size (ccells rn rk rb).toArray) := below_setRow ((Below.refl _ _).alloc (Nat.le_refl _) _) (Nat.le_refl _) _
    have x1 := G1.out.1.below hb2 G1.out.1.lt
    have b1 := G1.out.2.trans (hb2.mono G1.out.2.size)
    have G2 := hidd (And.intro ((Blk.new w2 (ccells 0 0 zbl).toArray 24 _ rfl).rowSame (ccells rn rk rb).toArray) (And.intro (x1.below B2 x1.lt) (b1.trans (B2.mono b1.size))))
    clear B2 hb2 x1 b1
    go_wp2_with (first
      | (refine wpList_store_row rfl 24 (.tmp 5) (.tmp 18) rfl w2.heap.size _ rfl rfl 24 _ (Blk.new _ _ _ _ rfl) HSR.out HOR.out HAR.out ?_)
      | (refine wpList_load_row rfl 24 (.tmp 5) rfl w2.heap.size rfl 24 _ (0,0) _ G2.out.1 Try.underlying24 rfl HSR.out ?_)
      | (refine wpList_load_row rfl 24 (.tmp 3) rfl w1.heap.size rfl 24 _ (0,0) _ G2.out.2.1 Try.underlying24 rfl HSR.out ?_))
    refine (HEQ.out _).mono ?_
    rintro e w3 ⟨rfl, hb3⟩
    have G3 := hidd (G2.out.2.2.trans (hb3.mono G2.out.2.2.size))
    have hcc : (cd != cd) = false := by simp
    clear hb3
    go_wp2
    go_ret
    exact ⟨rfl, G3.out⟩
theorem read9 : Try.prog.readableRec 9 = true := by kernel_rfl
theorem row9 : 9 < Try.prog.types.size := of_decide_eq_true (by kernel_rfl)
set_option maxRecDepth 100000 in
theorem lifted3 (os : Os) (started : os.Started) (H : Type) (enc : TypeId × Value → H) :
    ReturnsInHanded {} Try.checked os 3 .any (Rows.fnExactNamedColouringSpec.pre6 enc Try.prog Try.f3 Rows.fnExactNamedColouringRow.domain false) (Rows.fnExactNamedColouringSpec.post enc Try.prog Try.f3 false true false false) := by
  refine returnsInHanded_of_change (C := Try.checked) own started (by kernel_rfl) Try.func3
    (ChangeSpec.witness6 (enc := enc) (C := Try.checked) false ⟨#[], #[.string { data := #[] }], []⟩ 8 (by kernel_rfl) (by kernel_rfl) (by kernel_rfl) (by kernel_rfl)) ?_
  intro W base args ds gs before hval0 hW hcnd _
  have hval : ∀ (j : Nat) t v, Try.f3.params[j]? = some t → args[j]? = some v → Value.okWide Try.prog W .any base t v := hval0
  have hW' := hW
  obtain ⟨p, q, hA0, hV, rfl, hfz, hnd⟩ := hW
  have hA : DataW.TrodAll enc Try.prog W 0 (fun _ => true) true Try.f3.params.toList args.toList ds p := hA0
  rw [Try.params3] at hA hval
  obtain ⟨v0, vs0, d0, ds0, p0, q0, hargs, rfl, rfl, h0, r0⟩ := trodAll_cons hA
  obtain ⟨rfl, rfl, rfl⟩ := trodAll_nil r0
  obtain rfl : args = #[v0] := by cases args; simp_all
  obtain ⟨rfl, rfl⟩ := trodVars_none hV
  have k0 := h0
  have lt0 : ∀ x ∈ p0, x.block < W.heap.size := by obtain ⟨m, hm⟩ := k0; exact DataW.trod_lt m _ _ _ hm
  obtain ⟨s, rfl, _⟩ := Go.ChangeMaps.open_string Try.underlying9 (hval 0 9 v0 rfl rfl) h0
  clear hA0 hval0
  refine (walk3 s W).mono fun e W' ⟨he, bel⟩ => ?_
  subst he
  exact ⟨_, rfl, _, _, _, [], _, [], hW', trodAll_mk1 (shut_bool Try.underlying4 _), (trodAll_cons_mk (Below.trod laidOut read9 row9 k0 bel lt0) trodAll_mk0), rfl, bel.frame _, fun h => by cases h⟩
theorem fnExactNamedColouring_holds : Rows.FnExactNamedColouringSaid :=
  OpenClaim.holds_of_wide 3 Try.f3 rfl rfl rfl rfl rfl rfl rfl ⟨rfl, rfl, rfl, rfl, rfl⟩ rfl rfl rfl rfl rfl (by kernel_rfl) Try.func3 (by kernel_rfl)
    (of_decide_eq_true (by kernel_rfl)) (by unfold Func.isWrapper; first | (rw [if_pos (by decide +kernel)]; kernel_rfl) | (rw [if_neg (by decide +kernel)]; exact ⟨rfl, rfl⟩))
    (fun os started H enc _ => lifted3 os started H enc)
#print axioms fnExactNamedColouring_holds
end Go.Proofs.Ytoiamgmlehmomaa
