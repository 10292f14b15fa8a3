/- For every argument the law FnExactLeastPosition returns true: LeastPosition answers as its model does, leaves its list as it was, and each answer is a list of its own. No condition beside the row's own. -/
import Derived.Test.YtidengcihakijaaGe
import Derived.Test.YtidengcihakijaaOnly

import Derived.Test.YtidengcihakijaaLpm
namespace Go.Proofs.Ytidengcihakijaa
set_option linter.unusedVariables false
set_option linter.unusedSimpArgs false
open Go Go.RowKit Go.ChangeShapes Go.WideShapes Go.ChangeAt
set_option maxRecDepth 100000 in
set_option maxHeartbeats 2000000 in
theorem walk3 (n : Int) (_ : -9223372036854775808 ≤ n) (_ : n ≤ 9223372036854775807) (a : Option Addr) (zs : List Int) (cap : Nat)  (w : World) (hs : SlI w a zs) (hl : zs.length ≤ 9223372036854775807) :
    Calls Try.prog 3 #[.int .i64 n, .slice a zs.length cap] w fun e w' => e = .returned (.bool true) ∧ Below w.heap.size w w' := by
  by_cases hbig : 1048576 < zs.length
  · go_enter Try.func3, Try.ntmps3
    go_wp2
    go_ret
    exact ⟨rfl, Below.refl _ _⟩
  · have hsm : zs.length ≤ 1048576 := by omega
    have hS := fun a cap w hs => spec5v n zs a cap w hs hsm
    have hI := fun b cap w hbw hs => impl7v n zs b cap w hbw hs hsm
    have hlr : (lpLs n zs).length ≤ 1000 := lpLs_len
    generalize lpLs n zs = rs at hS hI hlr
    generalize gmCode n zs = cd at hS hI
    have HSP := hidd hS
    have HIM := hidd hI
    have HSL := hidd hs
    clear hS hI hs
    have hne : (cd != cd) = false := by simp
    have hm : ((1 + (rs.length : Int)) != (1 + (rs.length : Int))) = false := by simp
    have hk0 : decide (1 + (zs.length : Int) < 0) = false := by simp; omega
    go_enter Try.func3, Try.ntmps3
    go_wp2_with fail
    refine (copy19 zs a cap _ HSL.out hsm).mono ?_
    rintro e w1 ⟨rfl, hk1, hb1⟩
    have G1 := hidd (And.intro hb1 (sl_of_blk hk1))
    clear hk1 hb1
    go_wp2_with fail
    refine (HSP.out _ _ _ G1.out.2).mono ?_
    rintro e w2 ⟨a0, cap0, rfl, o0, hb2⟩
    have G2 := hidd (And.intro (G1.out.1.trans (hb2.mono G1.out.1.size)) (And.intro o0 (fun h0 => o0.lt h0)))
    clear hb2 o0
    go_wp2_with fail
    refine (copy19 zs a cap _ (HSL.out.below G2.out.1 (Nat.le_refl _)) hsm).mono ?_
    rintro e w3 ⟨rfl, hk3, hb3⟩
    have G3 := hidd (And.intro (G2.out.1.trans (hb3.mono G2.out.1.size)) (And.intro (G2.out.2.1.below hb3 (Nat.le_refl _)) (And.intro hk3 hk3.lt)))
    clear hk3 hb3
    go_wp2_with fail
    refine (HIM.out _ _ _ G3.out.2.2.2 (sl_of_blk G3.out.2.2.1)).mono ?_
    rintro e w4 ⟨a1, cap1, rfl, o1, hb4⟩
    have G4 := hidd (And.intro (G3.out.1.trans (hb4.mono G3.out.1.size)) (And.intro (G3.out.2.1.below hb4 (Nat.le_refl _)) (And.intro (G3.out.2.2.1.below hb4 G3.out.2.2.2) o1)))
    have HGE := hidd (fun h0 => o1.ge h0)
    clear hb4 o1
    go_wp2_with fail
    refine (eq22 rs a1 a0 _ _ _ G4.out.2.2.2.sl G4.out.2.1.sl (by omega)).mono ?_
    rintro e w5 ⟨rfl, hb5⟩
    have G5 := hidd (And.intro (G4.out.1.trans (hb5.mono G4.out.1.size)) (And.intro (G4.out.2.1.below hb5 (Nat.le_refl _)) (And.intro (G4.out.2.2.1.below hb5 G4.out.2.2.1.lt) (G4.out.2.2.2.below hb5 (Nat.le_refl _)))))
    clear hb5
    go_wp2_with fail
    refine (copy19 zs a cap _ (HSL.out.below G5.out.1 (Nat.le_refl _)) hsm).mono ?_
    rintro e w6 ⟨rfl, hk6, hb6⟩
    have G6 := hidd (And.intro (G5.out.1.trans (hb6.mono G5.out.1.size)) (And.intro (G5.out.2.1.below hb6 (Nat.le_refl _)) (And.intro (G5.out.2.2.1.below hb6 G5.out.2.2.1.lt) (And.intro (G5.out.2.2.2.below hb6 (Nat.le_refl _)) hk6))))
    clear hk6 hb6
    go_wp2_with fail
    refine (eq22 zs _ _ _ _ _ (sl_of_blk G6.out.2.2.1) (sl_of_blk G6.out.2.2.2.2) hsm).mono ?_
    rintro e w7 ⟨rfl, hb7⟩
    have G7 := hidd (And.intro (G6.out.1.trans (hb7.mono G6.out.1.size)) (And.intro (G6.out.2.1.below hb7 (Nat.le_refl _)) (And.intro (G6.out.2.2.1.below hb7 G6.out.2.2.1.lt) (G6.out.2.2.2.1.below hb7 (Nat.le_refl _)))))
    clear hb7
    go_wp2_with fail
    have HO7 := hidd (own_blk0 (B := w2.heap.size) G7.out.2.2.1 (Nat.le_refl _))
    refine (mark29o zs.length (some ⟨w2.heap.size, 0, none⟩) _ w2.heap.size 1 zs _ rfl HO7.out hsm (by omega) (by omega)).mono ?_
    rintro e w8 ⟨rfl, _, mk8⟩
    have G8 := hidd (And.intro (G7.out.1.trans ((mk8.below HO7.out (Nat.le_of_lt G7.out.2.2.1.lt)).mono G2.out.1.size))
      (And.intro (mk8.own G7.out.2.1 (fun _ h0 p q hp hq => by cases hp; exact Nat.ne_of_lt (G2.out.2.2 h0 q hq)))
        (mk8.own G7.out.2.2.2 (fun _ h0 p q hp hq => by cases hp; exact Nat.ne_of_gt (Nat.lt_of_lt_of_le G3.out.2.2.2 (HGE.out h0 q hq))))))
    clear mk8
    go_wp2_with fail
    refine (eq22 rs a1 a0 _ _ _ G8.out.2.2.sl G8.out.2.1.sl (by omega)).mono ?_
    rintro e w9 ⟨rfl, hb9⟩
    have G9 := hidd (And.intro (G8.out.1.trans (hb9.mono G8.out.1.size)) (And.intro (G8.out.2.1.below hb9 (Nat.le_refl _)) (And.intro (G8.out.2.2.below hb9 (Nat.le_refl _)) hb9.size)))
    clear hb9
    go_wp2_with fail
    refine (mark29o rs.length a1 _ w3.heap.size 1 rs _ rfl G9.out.2.2.1 (by omega) (by omega) (by omega)).mono ?_
    rintro e w10 ⟨rfl, o10, mk10⟩
    have G10 := hidd (And.intro (G9.out.1.trans ((mk10.below (B := w.heap.size) (OwnL.bas G9.out.2.2.1 G3.out.1.size) G9.out.1.size)))
      (And.intro (mk10.own G9.out.2.1 (fun _ h0 p q hp hq => Nat.ne_of_lt (Nat.lt_of_lt_of_le (Nat.lt_trans (G2.out.2.2 h0 q hq) G3.out.2.2.2) (HGE.out h0 p hp)))) o10))
    clear mk10 o10
    go_wp2_with fail
    refine (held30 rs.length a1 _ w3.heap.size 1 _ G10.out.2.2 (by omega) (by omega) (by omega)).mono ?_
    rintro e w' ⟨rfl, rfl⟩
    go_wp2_with fail
    refine (copy19 zs a cap _ (HSL.out.below G10.out.1 (Nat.le_refl _)) hsm).mono ?_
    rintro e w11 ⟨rfl, hk11, hb11⟩
    have G11 := hidd (And.intro (G10.out.1.trans (hb11.mono G10.out.1.size)) (And.intro (G10.out.2.1.below hb11 (Nat.le_refl _)) (And.intro (G10.out.2.2.below hb11 (Nat.le_refl _)) hk11)))
    clear hk11 hb11
    go_wp2_with fail
    refine (HIM.out _ _ _ G11.out.2.2.2.lt (sl_of_blk G11.out.2.2.2)).mono ?_
    rintro e w12 ⟨a2, cap2, rfl, o12, hb12⟩
    have G12 := hidd (And.intro (G11.out.1.trans (hb12.mono G11.out.1.size)) (And.intro (G11.out.2.1.below hb12 (Nat.le_refl _)) (And.intro (G11.out.2.2.1.below hb12 (Nat.le_refl _)) o12)))
    clear hb12 o12
    go_wp2_with fail
    refine (eq22 rs a2 a0 _ _ _ G12.out.2.2.2.sl G12.out.2.1.sl (by omega)).mono ?_
    rintro e w13 ⟨rfl, hb13⟩
    have G13 := hidd (And.intro (G12.out.1.trans (hb13.mono G12.out.1.size)) (G12.out.2.2.1.below hb13 (Nat.le_refl _)))
    clear hb13
    go_wp2_with fail
    refine (held30 rs.length a1 _ w3.heap.size 1 _ G13.out.2 (by omega) (by omega) (by omega)).mono ?_
    rintro e w' ⟨rfl, rfl⟩
    go_wp2
    go_ret
    exact ⟨rfl, G13.out.1⟩
set_option maxRecDepth 100000 in
theorem lifted3 (os : Os) (started : os.Started) (H : Type) (enc : TypeId × Value → H) :
    ReturnsInHanded {} Try.checked os 3 .any (Rows.fnExactLeastPositionSpec.pre6 enc Try.prog Try.f3 Rows.fnExactLeastPositionRow.domain false) (Rows.fnExactLeastPositionSpec.post enc Try.prog Try.f3 false true false false) := by
  refine returnsInHanded_of_change (C := Try.checked) own started (by kernel_rfl) Try.func3
    (ChangeSpec.witness6 (enc := enc) (C := Try.checked) false ⟨#[], #[.int .i64 0, .slice none 0 0], []⟩ 8 (by kernel_rfl) (by kernel_rfl) (by kernel_rfl) (by kernel_rfl)) ?_
  intro W base args ds gs before hval0 hW hcnd _
  have hval : ∀ (j : Nat) t v, Try.f3.params[j]? = some t → args[j]? = some v → Value.okWide Try.prog W .any base t v := hval0
  have hW' := hW
  obtain ⟨p, q, hA0, hV, rfl, hfz, hnd⟩ := hW
  have hA : DataW.TrodAll enc Try.prog W 0 (fun _ => true) true Try.f3.params.toList args.toList ds p := hA0
  rw [Try.params3] at hA hval
  obtain ⟨v0, vs0, d0, ds0, p0, q0, hargs, rfl, rfl, h0, r0⟩ := trodAll_cons hA
  obtain ⟨v1, vs1, d1, ds1, p1, q1, rfl, rfl, rfl, h1, r1⟩ := trodAll_cons r0
  obtain ⟨rfl, rfl, rfl⟩ := trodAll_nil r1
  obtain rfl : args = #[v0, v1] := by cases args; simp_all
  obtain ⟨rfl, rfl⟩ := trodVars_none hV
  have k0 := h0
  have lt0 := lt_of_trod k0
  obtain ⟨a0, rfl, x0, y0⟩ := open_num (hval 0 2 v0 rfl rfl) h0
  have k1 := h1
  have lt1 := lt_of_trod k1
  obtain ⟨a1, zs1, cap1, rfl, hs1, hl1, hz1⟩ := open_list (hval 1 22 v1 rfl rfl) h1
  clear hA0 hval0
  refine (walk3 a0 x0 y0 a1 zs1 cap1 W hs1 hl1).mono fun e W' ⟨he, bel⟩ => ?_
  subst he
  exact ⟨_, rfl, _, _, _, [], _, [], hW', trodAll_mk1 (shut_bool Try.underlying4 _), (trodAll_cons_mk (Below.trod laidOut read2 row2 k0 bel lt0) (trodAll_cons_mk (Below.trod laidOut read29 row29 k1 bel lt1) trodAll_mk0)), rfl, bel.frame _, fun h => by cases h⟩
theorem fnExactLeastPosition_holds : Rows.FnExactLeastPositionSaid :=
  OpenClaim.holds_of_wide 3 Try.f3 rfl rfl rfl rfl rfl rfl rfl ⟨rfl, rfl, rfl, rfl, rfl⟩ rfl rfl rfl rfl rfl (by kernel_rfl) Try.func3 (by kernel_rfl)
    (of_decide_eq_true (by kernel_rfl)) (by unfold Func.isWrapper; first | (rw [if_pos (by decide +kernel)]; kernel_rfl) | (rw [if_neg (by decide +kernel)]; exact ⟨rfl, rfl⟩))
    (fun os started H enc _ => lifted3 os started H enc)
#print axioms fnExactLeastPosition_holds
end Go.Proofs.Ytidengcihakijaa
