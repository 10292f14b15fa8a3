/- The law FnExactNewDesk returns true: NewDesk answers as its model does. No condition beside the row's own. -/
import Derived.Test.YtoiamgmlehmomaaNsp
namespace Go.Proofs.Ytoiamgmlehmomaa
set_option linter.unusedVariables false
set_option linter.unusedSimpArgs false
open Go Go.RowKit Go.ChangeShapes Go.WideShapes Go.ChangeAt
set_option maxRecDepth 100000 in
set_option maxHeartbeats 1000000 in
theorem walk4 (w : World) : Calls Try.prog 4 #[] w fun e w' => e = .returned (.bool true) ∧ Below w.heap.size w w' := by
  have Hz2 := zero30
  have hbr := pcB_bys 0
  have HSD := hidd (size_d30 (n := pcN 0) (k := pcK 0) (m := pcN 0) (l := pcK 0) hbr hbr)
  have HOD := hidd (show (dcl 0 0 zbl 0 0 zbl).toArray.size = (dcl (pcN 0) (pcK 0) (pcB 0) (pcN 0) (pcK 0) (pcB 0)).toArray.size by simp [dcl_len zbl_bys zbl_bys, dcl_len hbr hbr])
  have HAD := hidd (dcl_one (n := pcN 0) (k := pcK 0) (m := pcN 0) (l := pcK 0) (bs := pcB 0) (cs := pcB 0))
  have C1 := hidd (fun w => spec9 w)
  have C2 := hidd (fun w => impl10 w)
  have C3 := hidd (fun w => eqDesk_same (pcN 0) (pcK 0) (pcB 0) (pcN 0) (pcK 0) (pcB 0) hbr hbr w)
  unfold newD at C1 C2
  obtain ⟨D, hD⟩ : ∃ D, D = (dcl (pcN 0) (pcK 0) (pcB 0) (pcN 0) (pcK 0) (pcB 0)).toArray := ⟨_, rfl⟩
  rw [← hD] at HSD HOD HAD C1 C2 C3
  clear hD hbr
  go_enter Try.func4, Try.ntmps4
  go_wp2_with fail
  refine Calls.mono (C1.out _) ?_
  rintro e w1 ⟨rfl, hb1⟩
  have B1 : Below w1.heap.size w1 ((w1.alloc (.cells (dcl 0 0 zbl 0 0 zbl).toArray 30)).setRow w1.heap.size D) := below_setRow ((Below.refl _ _).alloc (Nat.le_refl _) _) (Nat.le_refl _) _
  have G1 := hidd (And.intro ((Blk.new w1 (dcl 0 0 zbl 0 0 zbl).toArray 30 _ rfl).rowSame D) (hb1.trans (B1.mono hb1.size)))
  clear B1 hb1
  go_wp2_with (first
    | (refine wpList_store_row rfl 30 (.tmp 1) (.tmp 3) rfl w1.heap.size _ rfl rfl 30 _ (Blk.new _ _ _ _ rfl) HSD.out HOD.out HAD.out ?_))
  refine Calls.mono (C2.out _) ?_
  rintro e w2 ⟨rfl, hb2⟩
  have B2 : Below w2.heap.size w2 ((w2.alloc (.cells (dcl 0 0 zbl 0 0 zbl).toArray 30)).setRow w2.heap.size D) := below_setRow ((Below.refl _ _).alloc (Nat.le_refl _) _) (Nat.le_refl _) _
  have x1 := G1.out.1.below hb2 G1.out.1.lt
  have b1 := G1.out.2.trans (hb2.mono G1.out.2.size)
  have G2 := hidd (And.intro ((Blk.new w2 (dcl 0 0 zbl 0 0 zbl).toArray 30 _ rfl).rowSame D) (And.intro (x1.below B2 x1.lt) (b1.trans (B2.mono b1.size))))
  clear B2 hb2 x1 b1
  go_wp2_with (first
    | (refine wpList_store_row rfl 30 (.tmp 2) (.tmp 4) rfl w2.heap.size _ rfl rfl 30 _ (Blk.new _ _ _ _ rfl) HSD.out HOD.out HAD.out ?_)
    | (refine wpList_load_row rfl 30 (.tmp 2) rfl w2.heap.size rfl 30 _ (0,0) _ G2.out.1 Try.underlying30 rfl HSD.out ?_)
    | (refine wpList_load_row rfl 30 (.tmp 1) rfl w1.heap.size rfl 30 _ (0,0) _ G2.out.2.1 Try.underlying30 rfl HSD.out ?_))
  refine Calls.mono (C3.out _) ?_
  rintro e w3 ⟨rfl, hb3⟩
  have G3 := hidd (G2.out.2.2.trans (hb3.mono G2.out.2.2.size))
  clear hb3
  go_wp2
  go_ret
  exact ⟨rfl, G3.out⟩
set_option maxRecDepth 100000 in
theorem lifted4 (os : Os) (started : os.Started) (H : Type) (enc : TypeId × Value → H) :
    ReturnsInHanded {} Try.checked os 4 .any (Rows.fnExactNewDeskSpec.pre6 enc Try.prog Try.f4 Rows.fnExactNewDeskRow.domain false) (Rows.fnExactNewDeskSpec.post enc Try.prog Try.f4 false true false false) := by
  refine returnsInHanded_of_change (C := Try.checked) own started (by kernel_rfl) Try.func4
    (ChangeSpec.witness6 (enc := enc) (C := Try.checked) false ⟨#[], #[], []⟩ 8 (by kernel_rfl) (by kernel_rfl) (by kernel_rfl) (by kernel_rfl)) ?_
  intro W base args ds gs before hval0 hW hcnd _
  have hW' := hW
  obtain ⟨p, q, hA0, hV, rfl, hfz, hnd⟩ := hW
  have hA : DataW.TrodAll enc Try.prog W 0 (fun _ => true) true Try.f4.params.toList args.toList ds p := hA0
  rw [Try.params4] at hA
  obtain ⟨hargs, rfl, rfl⟩ := trodAll_nil hA
  obtain rfl : args = #[] := by cases args; simp_all
  obtain ⟨rfl, rfl⟩ := trodVars_none hV
  clear hA0 hval0
  refine (walk4 W).mono fun e W' ⟨he, bel⟩ => ?_
  subst he
  exact ⟨_, rfl, _, _, _, [], _, [], hW', trodAll_mk1 (shut_bool Try.underlying4 _), trodAll_mk0, rfl, bel.frame _, fun h => by cases h⟩
theorem fnExactNewDesk_holds : Rows.FnExactNewDeskSaid :=
  OpenClaim.holds_of_wide 4 Try.f4 rfl rfl rfl rfl rfl rfl rfl ⟨rfl, rfl, rfl, rfl, rfl⟩ rfl rfl rfl rfl rfl (by kernel_rfl) Try.func4 (by kernel_rfl)
    (of_decide_eq_true (by kernel_rfl)) (by unfold Func.isWrapper; first | (rw [if_pos (by decide +kernel)]; kernel_rfl) | (rw [if_neg (by decide +kernel)]; exact ⟨rfl, rfl⟩))
    (fun os started H enc _ => lifted4 os started H enc)
#print axioms fnExactNewDesk_holds
end Go.Proofs.Ytoiamgmlehmomaa
