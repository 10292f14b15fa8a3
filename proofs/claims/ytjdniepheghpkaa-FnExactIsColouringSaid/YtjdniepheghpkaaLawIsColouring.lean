/- For every struct of two numbers and 136 bytes the law FnExactIsColouring returns true: IsColouring answers as its model does. No condition beside the row's own. -/
import Derived.Test.YtjdniepheghpkaaRows
import Derived.Test.YtjdniepheghpkaaOpen
import Derived.Test.YtjdniepheghpkaaConv
import Derived.Test.YtjdniepheghpkaaSpecIs
import Derived.Test.YtjdniepheghpkaaImplIs
import Derived.ChangeOld
namespace Go.Proofs.Ytjdniepheghpkaa
open Go Go.RowKit Go.ChangeShapes Go.WideShapes Go.ChangeAt
theorem own : ownKnob Try.prog.godebug = none := by kernel_rfl
theorem laidOut : laidOutB Try.prog = true := by kernel_rfl
theorem size_c26 (n k : Int) {bs : List Nat} (hb : Bys bs) : (Try.prog.info? 26).map (·.size) = some (ccells n k bs).toArray.size := by rw [size26]; simp [ccells_len, hb.len]
theorem size_c24 (n k : Int) {bs : List Nat} (hb : Bys bs) : (Try.prog.info? 24).map (·.size) = some (ccells n k bs).toArray.size := by rw [size24]; simp [ccells_len, hb.len]
set_option maxRecDepth 100000 in
theorem specIs_any (n k : Int) (bs : List Nat) (hb : Bys bs) (w : World) :
    Calls Try.prog 15 #[.agg (ccells n k bs).toArray] w fun e w' => e = .returned (.bool (isCol n k bs)) ∧ Below w.heap.size w w' := by
  have HS := hidd (size_c26 n k hb)
  go_enter Try.func15, Try.ntmps15
  go_wp2_with (refine wpList_load_row rfl 26 (.tmp 1) rfl w.heap.size rfl 26 _ (0,0) _ (Blk.new _ _ _ _ rfl) Try.underlying26 rfl HS.out ?_)
  refine (l01Is_any n k bs hb _).mono ?_
  rintro e w1 ⟨rfl, hb1⟩
  go_wp2
  go_ret
  exact ⟨rfl, ((Below.refl _ _).alloc (Nat.le_refl _) _).trans (hb1.mono (by simp))⟩
set_option maxRecDepth 100000 in
set_option maxHeartbeats 400000 in
theorem walk3 (n k : Int) (bs : List Nat) (hb : Bys bs) (w : World) :
    Calls Try.prog 3 #[.agg (ccells n k bs).toArray] w fun e w' => e = .returned (.bool true) ∧ Below w.heap.size w w' := by
  have HS := hidd (size_c24 n k hb)
  go_enter Try.func3, Try.ntmps3
  go_wp2_with (refine wpList_load_row rfl 24 (.tmp 1) rfl w.heap.size rfl 24 _ (0,0) _ (Blk.new _ _ _ _ rfl) Try.underlying24 rfl HS.out ?_)
  refine (toCol_any n k bs _ hb).mono ?_
  rintro e w1 ⟨rfl, hb1⟩
  go_wp2_with fail
  refine (specIs_any n k bs hb _).mono ?_
  rintro e w2 ⟨rfl, hb2⟩
  have hc2 := hb1.trans (hb2.mono hb1.size)
  have hc := ((Below.refl w.heap.size w).alloc (Nat.le_refl _) (.cells (ccells n k bs).toArray 24)).trans (hc2.mono (by simp))
  have g := (Blk.new w (ccells n k bs).toArray 24 _ rfl).below hc2 (by simp)
  have G := hidd (And.intro hc g)
  clear hb1 hb2 hc2 hc g
  go_wp2_with (refine wpList_load_row rfl 24 (.tmp 1) rfl w.heap.size rfl 24 _ (0,0) _ G.out.2 Try.underlying24 rfl HS.out ?_)
  refine (toCol_any n k bs _ hb).mono ?_
  rintro e w3 ⟨rfl, hb3⟩
  go_wp2_with fail
  refine (implIs_any n k bs hb _).mono ?_
  rintro e w4 ⟨rfl, hb4⟩
  have hc4 := G.out.1.trans ((hb3.trans (hb4.mono hb3.size)).mono G.out.1.size)
  have hne : (isCol n k bs != isCol n k bs) = false := by simp
  clear hb3 hb4
  go_wp2
  go_ret
  exact ⟨rfl, hc4⟩
set_option maxRecDepth 100000 in
theorem lifted3 (os : Os) (started : os.Started) (H : Type) (enc : TypeId × Value → H) :
    ReturnsInHanded {} Try.checked os 3 .any (Rows.fnExactIsColouringSpec.pre6 enc Try.prog Try.f3 Rows.fnExactIsColouringRow.domain false) (Rows.fnExactIsColouringSpec.post enc Try.prog Try.f3 false true false false) := by
  refine returnsInHanded_of_change (C := Try.checked) own started (by kernel_rfl) Try.func3
    (ChangeSpec.witness6 (enc := enc) (C := Try.checked) false ⟨#[], #[.agg (ccells 0 0 zbl).toArray], []⟩ 8 (by kernel_rfl) (by kernel_rfl) (by kernel_rfl) (by kernel_rfl)) ?_
  intro W base args ds gs before hval0 hW hcnd _
  have hval : ∀ (j : Nat) t v, Try.f3.params[j]? = some t → args[j]? = some v → Value.okWide Try.prog W .any base t v := hval0
  have hW' := hW
  obtain ⟨p, q, hA0, hV, rfl, hfz, hnd⟩ := hW
  have hA : DataW.TrodAll enc Try.prog W 0 (fun _ => true) true Try.f3.params.toList args.toList ds p := hA0
  rw [Try.params3] at hA hval
  obtain ⟨v0, vs0, d0, ds0, p0, q0, hargs, rfl, rfl, h0, r0⟩ := trodAll_cons hA
  obtain ⟨rfl, rfl, rfl⟩ := trodAll_nil r0
  obtain rfl : args = #[v0] := by cases args; simp_all
  obtain ⟨rfl, rfl⟩ := trodVars_none hV
  have k0 := h0
  have lt0 : ∀ x ∈ p0, x.block < W.heap.size := by obtain ⟨m, hm⟩ := k0; exact DataW.trod_lt m _ _ _ hm
  obtain ⟨n, k, bs, rfl, hb, _, _⟩ := open_col Try.underlying24 cells24 (hval 0 24 v0 rfl rfl) h0
  clear hA0 hval0
  refine (walk3 n k bs hb W).mono fun e W' ⟨he, bel⟩ => ?_
  subst he
  exact ⟨_, rfl, _, _, _, [], _, [], hW', trodAll_mk1 (shut_bool Try.underlying4 _), (trodAll_cons_mk (Below.trod laidOut (by kernel_rfl) (of_decide_eq_true (by kernel_rfl)) k0 bel lt0) trodAll_mk0), rfl, bel.frame _, fun h => by cases h⟩
theorem isColouring_holds : Rows.FnExactIsColouringSaid :=
  OpenClaim.holds_of_wide 3 Try.f3 rfl rfl rfl rfl rfl rfl rfl ⟨rfl, rfl, rfl, rfl, rfl⟩ rfl rfl rfl rfl rfl (by kernel_rfl) Try.func3 (by kernel_rfl)
    (of_decide_eq_true (by kernel_rfl)) (by unfold Func.isWrapper; first | (rw [if_pos (by decide +kernel)]; kernel_rfl) | (rw [if_neg (by decide +kernel)]; exact ⟨rfl, rfl⟩))
    (fun os started H enc _ => lifted3 os started H enc)
#print axioms isColouring_holds
end Go.Proofs.Ytjdniepheghpkaa
