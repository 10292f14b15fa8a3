/- For every list of lists of numbers the law FnExactCupsAndCaps returns true: CupsAndCaps answers as its model does and leaves its lists as they were. No condition beside the row's own. -/
import Derived.Test.YtljlbonoohhhdaaCto
namespace Go.Proofs.Ytljlbonoohhhdaa
set_option linter.unusedVariables false
set_option linter.unusedSimpArgs false
open Go Go.RowKit Go.ChangeShapes Go.WideShapes Go.ChangeAt
set_option maxRecDepth 100000 in
set_option maxHeartbeats 1000000 in
theorem walk6 (a : Option Addr) (L : List (List Int)) (cap : Nat) (w : World) (hs : LLa w a L) (hl : L.length ≤ 9223372036854775807) (hi : ∀ i, i < L.length → (L.getD i []).length ≤ 9223372036854775807) :
    Calls Try.prog 6 #[.slice a L.length cap] w fun e w' => e = .returned (.bool true) ∧ Below w.heap.size w w' := by
  have HSZ := hidd (sz17 L a cap w hs hl hi)
  have HS := hidd hs
  have HI := hidd hi
  obtain ⟨x, hx⟩ : ∃ x, x = cups L := ⟨_, rfl⟩
  obtain ⟨y, hy⟩ : ∃ y, y = caps L := ⟨_, rfl⟩
  obtain ⟨z, hz⟩ : ∃ z, z = cuC L := ⟨_, rfl⟩
  have HX := hidd (And.intro hx (And.intro hy hz))
  have HSP := hidd (fun W b c h => (spec18 L b c W h hl hi))
  have HIM := hidd (fun W b c h => (impl20 L b c W h hl hi))
  rw [← hx, ← hy, ← hz] at HSP HIM
  clear hx hy hz hs hi
  have hne1 : (x != x) = false := by simp
  have hne2 : (y != y) = false := by simp
  have hne3 : (z != z) = false := by simp
  go_enter Try.func6, Try.ntmps6
  go_wp2_with fail
  refine HSZ.out.mono ?_
  rintro e _ ⟨r, rfl, hsm, rfl⟩
  by_cases hr : r < 0
  · have hd : decide (r < 0) = true := decide_eq_true hr
    go_wp2_with fail
    go_ret
    exact ⟨rfl, Below.refl _ _⟩
  · have hd : decide (r < 0) = false := decide_eq_false hr
    have HM := hidd (hsm (by omega))
    clear hsm
    go_wp2_with fail
    refine (to19 L a cap w HS.out HM.out).mono ?_
    rintro e w2 ⟨rfl, hl2, hb2⟩
    have G2 := hidd (And.intro hb2 hl2)
    clear hl2 hb2
    go_wp2_with fail
    refine (HSP.out w2 _ _ G2.out.2).mono ?_
    rintro e w3 ⟨rfl, hb3⟩
    have G3 := hidd (G2.out.1.trans (hb3.mono G2.out.1.size))
    clear hb3
    go_wp2_with fail
    refine (to19 L a cap w3 (HS.out.below G3.out (Nat.le_refl _)) HM.out).mono ?_
    rintro e w4 ⟨rfl, hl4, hb4⟩
    have G4 := hidd (And.intro (G3.out.trans (hb4.mono G3.out.size)) hl4)
    clear hl4 hb4
    go_wp2_with fail
    refine (HIM.out w4 _ _ G4.out.2).mono ?_
    rintro e w5 ⟨rfl, hb5⟩
    have G5 := hidd (And.intro (G4.out.1.trans (hb5.mono G4.out.1.size)) (G4.out.2.below hb5 (Nat.le_refl _)))
    clear hb5
    go_wp2_with fail
    refine (to19 L a cap w5 (HS.out.below G5.out.1 (Nat.le_refl _)) HM.out).mono ?_
    rintro e w6 ⟨rfl, hl6, hb6⟩
    have G6 := hidd (And.intro (G5.out.1.trans (hb6.mono G5.out.1.size)) (And.intro (G5.out.2.below hb6 (Nat.le_refl _)) hl6))
    clear hl6 hb6
    go_wp2_with fail
    refine (eq21 L _ _ _ _ w6 G6.out.2.1 G6.out.2.2 HM.out).mono ?_
    rintro e w7 ⟨rfl, hb7⟩
    have G7 := hidd (G6.out.1.trans (hb7.mono G6.out.1.size))
    clear hb7
    go_wp2_with fail
    go_ret
    exact ⟨rfl, G7.out⟩
theorem read40 : Try.prog.readableRec 40 = true := by kernel_rfl
theorem row40 : 40 < Try.prog.types.size := of_decide_eq_true (by kernel_rfl)
set_option maxRecDepth 100000 in
theorem lifted6 (os : Os) (started : os.Started) (H : Type) (enc : TypeId × Value → H) :
    ReturnsInHanded {} Try.checked os 6 .any (Rows.fnExactCupsAndCapsSpec.pre6 enc Try.prog Try.f6 Rows.fnExactCupsAndCapsRow.domain false) (Rows.fnExactCupsAndCapsSpec.post enc Try.prog Try.f6 false true false false) := by
  refine returnsInHanded_of_change (C := Try.checked) own started (by kernel_rfl) Try.func6
    (ChangeSpec.witness6 (enc := enc) (C := Try.checked) false ⟨#[], #[.slice none 0 0], []⟩ 8 (by kernel_rfl) (by kernel_rfl) (by kernel_rfl) (by kernel_rfl)) ?_
  intro W base args ds gs before hval0 hW hcnd _
  have hval : ∀ (j : Nat) t v, Try.f6.params[j]? = some t → args[j]? = some v → Value.okWide Try.prog W .any base t v := hval0
  have hW' := hW
  obtain ⟨p, q, hA0, hV, rfl, hfz, hnd⟩ := hW
  have hA : DataW.TrodAll enc Try.prog W 0 (fun _ => true) true Try.f6.params.toList args.toList ds p := hA0
  rw [Try.params6] at hA hval
  obtain ⟨v0, vs0, d0, ds0, p0, q0, hargs, rfl, rfl, h0, r0⟩ := trodAll_cons hA
  obtain ⟨rfl, rfl, rfl⟩ := trodAll_nil r0
  obtain rfl : args = #[v0] := by cases args; simp_all
  obtain ⟨rfl, rfl⟩ := trodVars_none hV
  have k0 := h0
  have lt0 := lt_of_trod k0
  obtain ⟨a0, L0, cap0, rfl, hs0, hl0, hz0⟩ := open_ll (hval 0 40 v0 rfl rfl) h0
  clear hA0 hval0
  refine (walk6 a0 L0 cap0 W hs0 hl0 hz0).mono fun e W' ⟨he, bel⟩ => ?_
  subst he
  exact ⟨_, rfl, _, _, _, [], _, [], hW', trodAll_mk1 (shut_bool Try.underlying4 _), (trodAll_cons_mk (Below.trod laidOut read40 row40 k0 bel lt0) trodAll_mk0), rfl, bel.frame _, fun h => by cases h⟩
theorem fnExactCupsAndCaps_holds : Rows.FnExactCupsAndCapsSaid :=
  OpenClaim.holds_of_wide 6 Try.f6 rfl rfl rfl rfl rfl rfl rfl ⟨rfl, rfl, rfl, rfl, rfl⟩ rfl rfl rfl rfl rfl (by kernel_rfl) Try.func6 (by kernel_rfl)
    (of_decide_eq_true (by kernel_rfl)) (by unfold Func.isWrapper; first | (rw [if_pos (by decide +kernel)]; kernel_rfl) | (rw [if_neg (by decide +kernel)]; exact ⟨rfl, rfl⟩))
    (fun os started H enc _ => lifted6 os started H enc)
#print axioms fnExactCupsAndCaps_holds
end Go.Proofs.Ytljlbonoohhhdaa
