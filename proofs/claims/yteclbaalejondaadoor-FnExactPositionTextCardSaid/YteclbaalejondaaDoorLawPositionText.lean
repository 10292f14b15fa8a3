/- For every argument the law FnExactPositionText returns true: PositionText answers as its model does and leaves its list as it was. No condition beside the row's own. -/
import Derived.Test.YteclbaalejondaaDoorGe
import Derived.Test.YteclbaalejondaaDoorTab3
namespace Go.Proofs.YteclbaalejondaaDoor
set_option linter.unusedVariables false
set_option linter.unusedSimpArgs false
open Go Go.RowKit Go.ChangeShapes Go.WideShapes Go.ChangeAt
set_option maxRecDepth 100000 in
set_option maxHeartbeats 1000000 in
theorem walk3 (n : Int) (_ : -9223372036854775808 ≤ n) (_ : n ≤ 9223372036854775807) (a : Option Addr) (zs : List Int) (cap : Nat)  (w : World) (hT : Tz w) (hs : SlI w a zs) (hl : zs.length ≤ 9223372036854775807) :
    Calls Tryd.prog 3 #[.int .i64 n, .slice a zs.length cap] w fun e w' => e = .returned (.bool true) ∧ Below w.heap.size w w' := by
  by_cases hbig : 1048576 < zs.length
  · go_enter Tryd.func3, Tryd.ntmps3
    go_wp2
    go_ret
    exact ⟨rfl, Below.refl _ _⟩
  · have hsm : zs.length ≤ 1048576 := by omega
    have hS := fun a cap w hs => spec4p n zs a cap w hs hl
    have hI := fun a cap w hs => impl6p n zs a cap w hs hl
    generalize ptV n zs = v at hS hI
    generalize gmCode n zs = cd at hS hI
    have HSP := hidd hS
    have HIM := hidd hI
    have HSL := hidd hs
    clear hS hI hs
    have hne2 : (cd != cd) = false := by simp
    go_enter Tryd.func3, Tryd.ntmps3
    go_wp2_with fail
    refine (copy19 zs a cap _ HSL.out hsm).mono ?_
    rintro e w2 ⟨rfl, hk2, hb2⟩
    have G2 := hidd (And.intro hb2 (sl_of_blk hk2))
    clear hk2 hb2
    go_wp2_with fail
    refine (HSP.out _ _ _ G2.out.2).mono ?_
    rintro e w3 ⟨rfl, hb3⟩
    have G3 := hidd (G2.out.1.trans (hb3.mono G2.out.1.size))
    clear hb3
    go_wp2_with fail
    refine (copy19 zs a cap _ (HSL.out.below G3.out (Nat.le_refl _)) hsm).mono ?_
    rintro e w4 ⟨rfl, hk4, hb4⟩
    have G4 := hidd (And.intro (G3.out.trans (hb4.mono G3.out.size)) hk4)
    clear hk4 hb4
    go_wp2_with fail
    refine (HIM.out _ _ _ (sl_of_blk G4.out.2)).mono ?_
    rintro e w6 ⟨rfl, hb6⟩
    have G6 := hidd (And.intro (G4.out.1.trans (hb6.mono G4.out.1.size)) (G4.out.2.below hb6 G4.out.2.lt))
    clear hb6
    go_wp2_with fail
    refine (copy19 zs a cap _ (HSL.out.below G6.out.1 (Nat.le_refl _)) hsm).mono ?_
    rintro e w8 ⟨rfl, hk8, hb8⟩
    have G8 := hidd (And.intro (G6.out.1.trans (hb8.mono G6.out.1.size)) (And.intro (sl_of_blk (G6.out.2.below hb8 G6.out.2.lt)) (sl_of_blk hk8)))
    clear hk8 hb8
    go_wp2_with fail
    refine (eq22 zs _ _ _ _ _ G8.out.2.1 G8.out.2.2 hsm).mono ?_
    rintro e w9 ⟨rfl, hb9⟩
    have G9 := hidd (G8.out.1.trans (hb9.mono G8.out.1.size))
    clear hb9
    go_wp2
    go_ret
    exact ⟨rfl, G9.out⟩
set_option maxRecDepth 100000 in
theorem lifted3 (os : Os) (started : os.Started) (H : Type) (enc : TypeId × Value → H) :
    ReturnsInHanded {} Tryd.checked os 3 .any (fun w args => (Rows.fnExactPositionTextSpec.pre enc Tryd.prog Tryd.f3 [] false w args ∧ laidMetH Tryd.prog Rows.fnExactPositionTextRow.laid w) ∧ sizedMet enc Tryd.prog Tryd.f3 (OpenSpec.ofChange Rows.fnExactPositionTextSpec) false w args) (Rows.fnExactPositionTextSpec.post enc Tryd.prog Tryd.f3 false true false false) := by
  refine returnsInHanded_of_change_and (C := Tryd.checked) (X := fun w _ => laidMetH Tryd.prog Rows.fnExactPositionTextRow.laid w) (fun _ _ _ hh h => h.of_heap hh) own started (by kernel_rfl) Tryd.func3
    (ChangeSpec.witness_at (enc := enc) (C := Tryd.checked) (X := fun w _ => laidMetH Tryd.prog Rows.fnExactPositionTextRow.laid w) false (laidWorld os #[.int .i64 0, .slice none 0 0]) #[.int .i64 0, .slice none 0 0] 8 rfl (by kernel_rfl) (by kernel_rfl) (by kernel_rfl) (by kernel_rfl) (by kernel_rfl) (laid_met os _)) ?_
  intro W base args ds gs before hval0 hW hcnd _ hL _
  have hval : ∀ (j : Nat) t v, Tryd.f3.params[j]? = some t → args[j]? = some v → Value.okWide Tryd.prog W .any base t v := hval0
  have hT : Tz W := tz_of hL
  have hW' := hW
  obtain ⟨p, q, hA0, hV, rfl, hfz, hnd⟩ := hW
  have hA : DataW.TrodAll enc Tryd.prog W 0 (fun _ => true) true Tryd.f3.params.toList args.toList ds p := hA0
  rw [Tryd.params3] at hA hval
  obtain ⟨v0, vs0, d0, ds0, p0, q0, hargs, rfl, rfl, h0, r0⟩ := trodAll_cons hA
  obtain ⟨v1, vs1, d1, ds1, p1, q1, rfl, rfl, rfl, h1, r1⟩ := trodAll_cons r0
  obtain ⟨rfl, rfl, rfl⟩ := trodAll_nil r1
  obtain rfl : args = #[v0, v1] := by cases args; simp_all
  obtain ⟨rfl, rfl⟩ := trodVars_none hV
  have k0 := h0
  have lt0 := lt_of_trod k0
  obtain ⟨u0, rfl, lo0, hi0⟩ := open_num (hval 0 2 v0 rfl rfl) h0
  have k1 := h1
  have lt1 := lt_of_trod k1
  obtain ⟨a1, zs1, cap1, rfl, hs1, hl1, hz1⟩ := open_list (hval 1 22 v1 rfl rfl) h1
  clear hA0 hval0
  refine (walk3 u0 lo0 hi0 a1 zs1 cap1 W hT hs1 hl1).mono fun e W' ⟨he, bel⟩ => ?_
  subst he
  exact ⟨_, rfl, _, _, _, [], _, [], hW', trodAll_mk1 (shut_bool Tryd.underlying4 _), (trodAll_cons_mk (Below.trod laidOut read2 row2 k0 bel lt0) (trodAll_cons_mk (Below.trod laidOut read29 row29 k1 bel lt1) trodAll_mk0)), rfl, bel.frame _, fun h => by cases h⟩
theorem fnExactPositionText_holds : Rows.FnExactPositionTextSaid :=
  OpenClaim.holds_of_wide 3 Tryd.f3 rfl rfl rfl rfl rfl rfl rfl ⟨rfl, rfl, rfl, rfl, rfl⟩ rfl rfl rfl rfl rfl (by kernel_rfl) Tryd.func3 (by kernel_rfl)
    (of_decide_eq_true (by kernel_rfl)) (by unfold Func.isWrapper; first | (rw [if_pos (by decide +kernel)]; kernel_rfl) | (rw [if_neg (by decide +kernel)]; exact ⟨rfl, rfl⟩))
    (fun os started H enc _ => lifted3 os started H enc)
theorem plain3 (f : FuncId) (fn : Func) (hf : Tryd.pinned.checked.prog.funcNamed "loop.example/g01362/laws.FnExactPositionText" = some f) (hfn : Tryd.pinned.checked.prog.funcs[f]? = some fn) :
    false = Tryd.pinned.checked.prog.looks [] ∧ ∀ (j : Nat) t, fn.params[j]? = some t → Tryd.pinned.checked.prog.wantsStandIn t = false := by
  obtain rfl : f = 3 := Option.some.inj ((show Tryd.prog.funcNamed "loop.example/g01362/laws.FnExactPositionText" = some 3 by kernel_rfl).symm.trans hf) |>.symm
  obtain rfl : fn = Tryd.f3 := (Option.some.inj (Tryd.func3.symm.trans hfn)).symm
  refine ⟨by kernel_rfl, fun j t ht => ?_⟩
  rw [Tryd.params3] at ht
  have hm : t ∈ [2, 22] := by simpa using Array.mem_of_getElem? ht
  have hall : ([2, 22].all fun u => !Tryd.prog.wantsStandIn u) = true := by kernel_rfl
  exact (show Tryd.prog.wantsStandIn t = false by simpa using List.all_eq_true.1 hall t hm)
theorem fnExactPositionText_card : Rows.FnExactPositionTextCardSaid :=
  Claim7.holds_tied_plain_at .later [] _ _ _ _ fnExactPositionText_holds (fun _ h => by cases h) (by kernel_rfl) (fun _ h => by cases h) fnExactPositionText_row_tie rfl ⟨rfl, rfl⟩ (by kernel_rfl) rfl plain3 (by kernel_rfl)
#print axioms fnExactPositionText_card
end Go.Proofs.YteclbaalejondaaDoor
