/- For every argument the law FnExactIsLesserColoured returns true: IsLesserColoured answers as its model does and leaves its list as it was. No condition beside the row's own. -/
import Derived.Test.YtljlbonoohhhdaaGe
import Derived.Test.YtljlbonoohhhdaaLsi
namespace Go.Proofs.Ytljlbonoohhhdaa
set_option linter.unusedVariables false
set_option linter.unusedSimpArgs false
open Go Go.RowKit Go.ChangeShapes Go.WideShapes Go.ChangeAt
set_option maxRecDepth 100000 in
set_option maxHeartbeats 1000000 in
theorem walk5 (n k : Int) (bs : List Nat) (hb : Bys bs)  (a : Option Addr) (zs : List Int) (cap : Nat) (w : World) (hs : SlI w a zs) (hl : zs.length ≤ 9223372036854775807) :
    Calls Try.prog 5 #[.agg (ccells n k bs).toArray, .slice a zs.length cap] w fun e w' => e = .returned (.bool true) ∧ Below w.heap.size w w' := by
  by_cases hbig : 1048576 < zs.length
  · go_enter Try.func5, Try.ntmps5
    go_wp2
    go_ret
    exact ⟨rfl, (Below.refl _ _).alloc (Nat.le_refl _) _⟩
  · have hsm : zs.length ≤ 1048576 := by omega
    have HS := hidd (size_c24 n k hb)
    obtain ⟨v, hv⟩ : ∃ q, q = lcV n k bs zs := ⟨_, rfl⟩
    obtain ⟨cd, hcd⟩ : ∃ q, q = setCode n k bs zs := ⟨_, rfl⟩
    have HV := hidd (And.intro hv hcd)
    have HSL := hidd hs
    clear hv hcd hs
    go_enter Try.func5, Try.ntmps5
    go_wp2_with (refine wpList_load_row rfl 35 (.tmp 2) rfl w.heap.size rfl 35 _ (0,0) _ (Blk.new _ _ _ _ rfl) Try.underlying35 rfl HS.out ?_)
    refine (toCol_any n k bs _ hb).mono ?_
    rintro e w1 ⟨rfl, hb1⟩
    have G1 := hidd (And.intro (((Below.refl w.heap.size w).alloc (Nat.le_refl _) (.cells (ccells n k bs).toArray 35)).trans (hb1.mono (by simp))) ((Blk.new w (ccells n k bs).toArray 35 _ rfl).below hb1 (by simp)))
    clear hb1
    go_wp2_with fail
    refine (copy19 zs a cap _ (HSL.out.below G1.out.1 (Nat.le_refl _)) hsm).mono ?_
    rintro e w2 ⟨rfl, hk2, hb2⟩
    have G2 := hidd (And.intro (G1.out.1.trans (hb2.mono G1.out.1.size)) (And.intro (G1.out.2.below hb2 G1.out.2.lt) (sl_of_blk hk2)))
    clear hk2 hb2
    go_wp2_with fail
    refine (spec14 n k bs hb zs _ _ _ G2.out.2.2 hl).mono ?_
    rintro e w3 ⟨rfl, hb3⟩
    rw [← HV.out.1, ← HV.out.2]
    have G3 := hidd (And.intro (G2.out.1.trans (hb3.mono G2.out.1.size)) (G2.out.2.1.below hb3 G2.out.2.1.lt))
    clear hb3
    go_wp2_with fail
    refine (copy19 zs a cap _ (HSL.out.below G3.out.1 (Nat.le_refl _)) hsm).mono ?_
    rintro e w4 ⟨rfl, hk4, hb4⟩
    have G4 := hidd (And.intro (G3.out.1.trans (hb4.mono G3.out.1.size)) (And.intro (G3.out.2.below hb4 G3.out.2.lt) hk4))
    clear hk4 hb4
    go_wp2_with (refine wpList_load_row rfl 35 (.tmp 2) rfl w.heap.size rfl 35 _ (0,0) _ G4.out.2.1 Try.underlying35 rfl HS.out ?_)
    refine (toCol_any n k bs _ hb).mono ?_
    rintro e w5 ⟨rfl, hb5⟩
    have G5 := hidd (And.intro (G4.out.1.trans (hb5.mono G4.out.1.size)) (G4.out.2.2.below hb5 G4.out.2.2.lt))
    clear hb5
    go_wp2_with fail
    refine (impl16 n k bs hb zs _ _ _ (sl_of_blk G5.out.2) hl (Nat.le_refl _)).mono ?_
    rintro e w6 ⟨rfl, hb6⟩
    rw [← HV.out.1, ← HV.out.2]
    have G6 := hidd (And.intro (G5.out.1.trans (hb6.mono G5.out.1.size)) (G5.out.2.below hb6 G5.out.2.lt))
    have hne : (v != v) = false := by simp
    have hne2 : (cd != cd) = false := by simp
    clear hb6
    go_wp2_with fail
    refine (copy19 zs a cap _ (HSL.out.below G6.out.1 (Nat.le_refl _)) hsm).mono ?_
    rintro e w8 ⟨rfl, hk8, hb8⟩
    have G8 := hidd (And.intro (G6.out.1.trans (hb8.mono G6.out.1.size)) (And.intro (sl_of_blk (G6.out.2.below hb8 G6.out.2.lt)) (sl_of_blk hk8)))
    clear hk8 hb8
    go_wp2_with fail
    refine (eq22 zs _ _ _ _ _ G8.out.2.1 G8.out.2.2 hsm).mono ?_
    rintro e w9 ⟨rfl, hb9⟩
    have G9 := hidd (G8.out.1.trans (hb9.mono G8.out.1.size))
    clear hb9
    go_wp2
    go_ret
    exact ⟨rfl, G9.out⟩
set_option maxRecDepth 100000 in
theorem lifted5 (os : Os) (started : os.Started) (H : Type) (enc : TypeId × Value → H) :
    ReturnsInHanded {} Try.checked os 5 .any (Rows.fnExactIsLesserColouredSpec.pre6 enc Try.prog Try.f5 Rows.fnExactIsLesserColouredRow.domain false) (Rows.fnExactIsLesserColouredSpec.post enc Try.prog Try.f5 false true false false) := by
  refine returnsInHanded_of_change (C := Try.checked) own started (by kernel_rfl) Try.func5
    (ChangeSpec.witness6 (enc := enc) (C := Try.checked) false ⟨#[], #[.agg (ccells 0 0 zbl).toArray, .slice none 0 0], []⟩ 8 (by kernel_rfl) (by kernel_rfl) (by kernel_rfl) (by kernel_rfl)) ?_
  intro W base args ds gs before hval0 hW hcnd _
  have hval : ∀ (j : Nat) t v, Try.f5.params[j]? = some t → args[j]? = some v → Value.okWide Try.prog W .any base t v := hval0
  have hW' := hW
  obtain ⟨p, q, hA0, hV, rfl, hfz, hnd⟩ := hW
  have hA : DataW.TrodAll enc Try.prog W 0 (fun _ => true) true Try.f5.params.toList args.toList ds p := hA0
  rw [Try.params5] at hA hval
  obtain ⟨v0, vs0, d0, ds0, p0, q0, hargs, rfl, rfl, h0, r0⟩ := trodAll_cons hA
  obtain ⟨v1, vs1, d1, ds1, p1, q1, rfl, rfl, rfl, h1, r1⟩ := trodAll_cons r0
  obtain ⟨rfl, rfl, rfl⟩ := trodAll_nil r1
  obtain rfl : args = #[v0, v1] := by cases args; simp_all
  obtain ⟨rfl, rfl⟩ := trodVars_none hV
  have k0 := h0
  have lt0 := lt_of_trod k0
  obtain ⟨n0, c0, b0, rfl, hb0, _, _⟩ := open_col Try.underlying35 cells24 (hval 0 35 v0 rfl rfl) h0
  have k1 := h1
  have lt1 := lt_of_trod k1
  obtain ⟨a1, zs1, cap1, rfl, hs1, hl1, hz1⟩ := open_list (hval 1 22 v1 rfl rfl) h1
  clear hA0 hval0
  refine (walk5 n0 c0 b0 hb0 a1 zs1 cap1 W hs1 hl1).mono fun e W' ⟨he, bel⟩ => ?_
  subst he
  exact ⟨_, rfl, _, _, _, [], _, [], hW', trodAll_mk1 (shut_bool Try.underlying4 _), (trodAll_cons_mk (Below.trod laidOut read24 row24 k0 bel lt0) (trodAll_cons_mk (Below.trod laidOut read29 row29 k1 bel lt1) trodAll_mk0)), rfl, bel.frame _, fun h => by cases h⟩
theorem fnExactIsLesserColoured_holds : Rows.FnExactIsLesserColouredSaid :=
  OpenClaim.holds_of_wide 5 Try.f5 rfl rfl rfl rfl rfl rfl rfl ⟨rfl, rfl, rfl, rfl, rfl⟩ rfl rfl rfl rfl rfl (by kernel_rfl) Try.func5 (by kernel_rfl)
    (of_decide_eq_true (by kernel_rfl)) (by unfold Func.isWrapper; first | (rw [if_pos (by decide +kernel)]; kernel_rfl) | (rw [if_neg (by decide +kernel)]; exact ⟨rfl, rfl⟩))
    (fun os started H enc _ => lifted5 os started H enc)
#print axioms fnExactIsLesserColoured_holds
end Go.Proofs.Ytljlbonoohhhdaa
