/- For every struct of two numbers and 136 bytes and every two numbers the law FnExactColourOf returns true: ColourOf answers as its model does. No condition beside the row's own. -/
import Derived.Test.YtjdniepheghpkaaLaw
import Derived.Test.YtjdniepheghpkaaColourOf
namespace Go.Proofs.Ytjdniepheghpkaa
open Go Go.RowKit Go.ChangeShapes Go.WideShapes Go.ChangeAt
set_option maxRecDepth 100000 in
set_option maxHeartbeats 400000 in
theorem walk5 (n k : Int) (bs : List Nat) (hb : Bys bs) (i : Int) (_ : -9223372036854775808 ≤ i) (_ : i ≤ 9223372036854775807) (j : Int) (_ : -9223372036854775808 ≤ j) (_ : j ≤ 9223372036854775807) (w : World) :
    Calls Try.prog 5 #[.agg (ccells n k bs).toArray, .int .i64 i, .int .i64 j] w fun e w' => e = .returned (.bool true) ∧ Below w.heap.size w w' := by
  have HS := hidd (size_c24 n k hb)
  obtain ⟨v, hv⟩ : ∃ v, v = colE n k bs i j := ⟨_, rfl⟩
  obtain ⟨c, hc⟩ : ∃ c, c = codeE n k bs i j := ⟨_, rfl⟩
  have HV := hidd (And.intro hv hc)
  clear hv hc
  go_enter Try.func5, Try.ntmps5
  go_wp2_with (refine wpList_load_row rfl 24 (.tmp 3) rfl w.heap.size rfl 24 _ (0,0) _ (Blk.new _ _ _ _ rfl) Try.underlying24 rfl HS.out ?_)
  refine (toCol_any n k bs _ hb).mono ?_
  rintro e w1 ⟨rfl, hb1⟩
  go_wp2_with fail
  refine (spec23 n k bs hb i j _).mono ?_
  rintro e w2 ⟨rfl, hb2⟩
  rw [← HV.out.1, ← HV.out.2]
  have hc2 := hb1.trans (hb2.mono hb1.size)
  have hc := ((Below.refl w.heap.size w).alloc (Nat.le_refl _) (.cells (ccells n k bs).toArray 24)).trans (hc2.mono (by simp))
  have g := (Blk.new w (ccells n k bs).toArray 24 _ rfl).below hc2 (by simp)
  have G := hidd (And.intro hc g)
  clear hb1 hb2 hc2 hc g
  go_wp2_with (refine wpList_load_row rfl 24 (.tmp 3) rfl w.heap.size rfl 24 _ (0,0) _ G.out.2 Try.underlying24 rfl HS.out ?_)
  refine (toCol_any n k bs _ hb).mono ?_
  rintro e w3 ⟨rfl, hb3⟩
  go_wp2_with fail
  refine (impl24 n k bs hb i j _).mono ?_
  rintro e w4 ⟨rfl, hb4⟩
  rw [← HV.out.1, ← HV.out.2]
  have hc4 := G.out.1.trans ((hb3.trans (hb4.mono hb3.size)).mono G.out.1.size)
  have hne : (v != v) = false := by simp
  have hne2 : (c != c) = false := by simp
  clear hb3 hb4
  go_wp2
  go_ret
  exact ⟨rfl, hc4⟩
set_option maxRecDepth 100000 in
theorem lifted5 (os : Os) (started : os.Started) (H : Type) (enc : TypeId × Value → H) :
    ReturnsInHanded {} Try.checked os 5 .any (Rows.fnExactColourOfSpec.pre6 enc Try.prog Try.f5 Rows.fnExactColourOfRow.domain false) (Rows.fnExactColourOfSpec.post enc Try.prog Try.f5 false true false false) := by
  refine returnsInHanded_of_change (C := Try.checked) own started (by kernel_rfl) Try.func5
    (ChangeSpec.witness6 (enc := enc) (C := Try.checked) false ⟨#[], #[.agg (ccells 0 0 zbl).toArray, .int .i64 0, .int .i64 0], []⟩ 8 (by kernel_rfl) (by kernel_rfl) (by kernel_rfl) (by kernel_rfl)) ?_
  intro W base args ds gs before hval0 hW hcnd _
  have hval : ∀ (j : Nat) t v, Try.f5.params[j]? = some t → args[j]? = some v → Value.okWide Try.prog W .any base t v := hval0
  have hW' := hW
  obtain ⟨p, q, hA0, hV, rfl, hfz, hnd⟩ := hW
  have hA : DataW.TrodAll enc Try.prog W 0 (fun _ => true) true Try.f5.params.toList args.toList ds p := hA0
  rw [Try.params5] at hA hval
  obtain ⟨v0, vs0, d0, ds0, p0, q0, hargs, rfl, rfl, h0, r0⟩ := trodAll_cons hA
  obtain ⟨v1, vs1, d1, ds1, p1, q1, rfl, rfl, rfl, h1, r1⟩ := trodAll_cons r0
  obtain ⟨v2, vs2, d2, ds2, p2, q2, rfl, rfl, rfl, h2, r2⟩ := trodAll_cons r1
  obtain ⟨rfl, rfl, rfl⟩ := trodAll_nil r2
  obtain rfl : args = #[v0, v1, v2] := by cases args; simp_all
  obtain ⟨rfl, rfl⟩ := trodVars_none hV
  have k0 := h0
  have lt0 := lt_of_trod k0
  obtain ⟨n0, c0, b0, rfl, hb0, _, _⟩ := open_col Try.underlying24 cells24 (hval 0 24 v0 rfl rfl) h0
  have k1 := h1
  have lt1 := lt_of_trod k1
  obtain ⟨a1, rfl, x1, y1⟩ := open_num (hval 1 2 v1 rfl rfl) h1
  have k2 := h2
  have lt2 := lt_of_trod k2
  obtain ⟨a2, rfl, x2, y2⟩ := open_num (hval 2 2 v2 rfl rfl) h2
  clear hA0 hval0
  refine (walk5 n0 c0 b0 hb0 a1 x1 y1 a2 x2 y2 W).mono fun e W' ⟨he, bel⟩ => ?_
  subst he
  exact ⟨_, rfl, _, _, _, [], _, [], hW', trodAll_mk1 (shut_bool Try.underlying4 _), (trodAll_cons_mk (Below.trod laidOut read24 row24 k0 bel lt0) (trodAll_cons_mk (Below.trod laidOut read2 row2 k1 bel lt1) (trodAll_cons_mk (Below.trod laidOut read2 row2 k2 bel lt2) trodAll_mk0))), rfl, bel.frame _, fun h => by cases h⟩
theorem fnExactColourOf_holds : Rows.FnExactColourOfSaid :=
  OpenClaim.holds_of_wide 5 Try.f5 rfl rfl rfl rfl rfl rfl rfl ⟨rfl, rfl, rfl, rfl, rfl⟩ rfl rfl rfl rfl rfl (by kernel_rfl) Try.func5 (by kernel_rfl)
    (of_decide_eq_true (by kernel_rfl)) (by unfold Func.isWrapper; first | (rw [if_pos (by decide +kernel)]; kernel_rfl) | (rw [if_neg (by decide +kernel)]; exact ⟨rfl, rfl⟩))
    (fun os started H enc _ => lifted5 os started H enc)
#print axioms fnExactColourOf_holds
end Go.Proofs.Ytjdniepheghpkaa
