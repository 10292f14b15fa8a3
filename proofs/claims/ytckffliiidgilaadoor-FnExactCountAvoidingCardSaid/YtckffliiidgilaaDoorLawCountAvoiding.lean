/- For every argument the law FnExactCountAvoiding returns true: CountAvoiding answers as its model does and leaves its list as it was. The condition is the row's own: the package's one sentinel lies as its initialiser lays it; the card ties that to the program's text. -/
import Derived.Test.YtckffliiidgilaaDoorTie
import Derived.Test.YtckffliiidgilaaDoorCards
import Derived.Test.YtckffliiidgilaaDoorCai
namespace Go.Proofs.YtckffliiidgilaaDoor
set_option linter.unusedVariables false
set_option linter.unusedSimpArgs false
open Go Go.RowKit Go.ChangeShapes Go.WideShapes Go.ChangeAt
set_option maxRecDepth 100000 in
set_option maxHeartbeats 2000000 in
theorem walk9 (n : Int) (hn0 : -9223372036854775808 ≤ n) (hn1 : n ≤ 9223372036854775807) (a : Option Addr) (zs : List Int) (cap : Nat) (e0 : Addr) (w : World) (hT : Er w e0) (hs : SlI w a zs) (hl : zs.length ≤ 9223372036854775807) :
    Calls Tryd.prog 9 #[.int .i64 n, .slice a zs.length cap] w fun e w' => e = .returned (.bool true) ∧ Below w.heap.size w w' := by
  by_cases hbig : 1048576 < zs.length
  · go_enter Tryd.func9, Tryd.ntmps9
    go_wp2
    go_ret
    exact ⟨rfl, Below.refl _ _⟩
  · have hsm : zs.length ≤ 1048576 := by omega
    obtain ⟨v, hv⟩ : ∃ q, q = caV n zs := ⟨_, rfl⟩
    obtain ⟨cd, hcd⟩ : ∃ q, q = caC n zs := ⟨_, rfl⟩
    have HT := hidd hT
    have HSL := hidd hs
    have HSP := hidd (fun W b c h => spec33 n zs b c W hn0 hn1 h hsm)
    have HIM := hidd (fun W b c hE h => impl34 n zs b c e0 W h hsm hE)
    rw [← hv, ← hcd] at HSP HIM
    clear hv hcd hT hs hl hbig hn0 hn1
    have hne : (v != v) = false := by simp
    have hne2 : (cd != cd) = false := by simp
    go_enter Tryd.func9, Tryd.ntmps9
    go_wp2_with fail
    refine (copy19 zs a cap _ HSL.out hsm).mono ?_
    rintro e w1 ⟨rfl, hk, hb1⟩
    have G1 := hidd (And.intro hb1 (sl_of_blk hk))
    clear hk hb1
    go_wp2_with fail
    refine (HSP.out _ _ _ G1.out.2).mono ?_
    rintro e w2 ⟨rfl, hb2⟩
    have G2 := hidd (G1.out.1.trans (hb2.mono G1.out.1.size))
    clear hb2
    go_wp2_with fail
    refine (copy19 zs a cap _ (HSL.out.below G2.out (Nat.le_refl _)) hsm).mono ?_
    rintro e w3 ⟨rfl, hk, hb3⟩
    have G3 := hidd (And.intro (G2.out.trans (hb3.mono G2.out.size)) (sl_of_blk hk))
    clear hk hb3
    go_wp2_with fail
    refine (HIM.out _ _ _ (HT.out.below G3.out.1 HT.out.lt) G3.out.2).mono ?_
    rintro e w4 ⟨rfl, hb4⟩
    have G4 := hidd (And.intro (G3.out.1.trans (hb4.mono G3.out.1.size)) (G3.out.2.below hb4 (Nat.le_refl _)))
    clear hb4
    go_wp2_with fail
    refine (copy19 zs a cap _ (HSL.out.below G4.out.1 (Nat.le_refl _)) hsm).mono ?_
    rintro e w5 ⟨rfl, hk, hb5⟩
    have G5 := hidd (And.intro (G4.out.1.trans (hb5.mono G4.out.1.size)) (And.intro (G4.out.2.below hb5 (Nat.le_refl _)) (sl_of_blk hk)))
    clear hk hb5
    go_wp2_with fail
    refine (eq22 zs _ _ _ _ _ G5.out.2.1 G5.out.2.2 hsm).mono ?_
    rintro e w6 ⟨rfl, hb6⟩
    have G6 := hidd (G5.out.1.trans (hb6.mono G5.out.1.size))
    clear hb6
    go_wp2
    go_ret
    exact ⟨rfl, G6.out⟩
set_option maxRecDepth 100000 in
theorem lifted9 (os : Os) (started : os.Started) (H : Type) (enc : TypeId × Value → H) :
    ReturnsInHanded {} Tryd.checked os 9 .any (fun w args => (Rows.fnExactCountAvoidingSpec.pre enc Tryd.prog Tryd.f9 [] false w args ∧ laidMetH Tryd.prog Rows.fnExactCountAvoidingRow.laid w) ∧ sizedMet enc Tryd.prog Tryd.f9 (OpenSpec.ofChange Rows.fnExactCountAvoidingSpec) false w args) (Rows.fnExactCountAvoidingSpec.post enc Tryd.prog Tryd.f9 false true false false) := by
  refine returnsInHanded_of_change_and (C := Tryd.checked) (X := fun w _ => laidMetH Tryd.prog Rows.fnExactCountAvoidingRow.laid w) (fun _ _ _ hh h => h.of_heap hh) own started (by kernel_rfl) Tryd.func9
    (ChangeSpec.witness_at (enc := enc) (C := Tryd.checked) (X := fun w _ => laidMetH Tryd.prog Rows.fnExactCountAvoidingRow.laid w) false (laidWorld os) #[.int .i64 0, .slice none 0 0] 8 rfl (by kernel_rfl) (by kernel_rfl) (by kernel_rfl) (by kernel_rfl) (by kernel_rfl) (laid_met os _)) ?_
  intro W base args ds gs before hval0 hW hcnd _ hL _
  have hval : ∀ (j : Nat) t v, Tryd.f9.params[j]? = some t → args[j]? = some v → Value.okWide Tryd.prog W .any base t v := hval0
  have hW' := hW
  obtain ⟨p, q, hA0, hV0, rfl, hfz, hnd⟩ := hW
  have hA : DataW.TrodAll enc Tryd.prog W 0 (fun _ => true) true Tryd.f9.params.toList args.toList ds p := hA0
  have hV : DataW.TrodVars enc Tryd.prog W (fun _ => true) ["loop.example/g01362/impl.errNoSizes"] gs q := hV0
  obtain ⟨e0, hT, hv0⟩ := er_of2 hL
  obtain ⟨rfl, rfl⟩ := hV.unique (vars_read enc hv0 trivial _)
  rw [Tryd.params9] at hA hval
  obtain ⟨v0, vs0, d0, ds0, p0, q0, hargs, rfl, rfl, h0, r0⟩ := trodAll_cons hA
  obtain ⟨v1, vs1, d1, ds1, p1, q1, rfl, rfl, rfl, h1, r1⟩ := trodAll_cons r0
  obtain ⟨rfl, rfl, rfl⟩ := trodAll_nil r1
  obtain rfl : args = #[v0, v1] := by cases args; simp_all
  have k0 := h0
  have lt0 := lt_of_trod k0
  obtain ⟨u0, rfl, lo0, hi0⟩ := open_num (hval 0 2 v0 rfl rfl) h0
  have k1 := h1
  have lt1 := lt_of_trod k1
  obtain ⟨a1, zs1, cap1, rfl, hs1, hl1, hz1⟩ := open_list (hval 1 25 v1 rfl rfl) h1
  clear hA0 hV0 hval0
  refine (walk9 u0 lo0 hi0 a1 zs1 cap1 e0 W hT hs1 hl1).mono fun e W' ⟨he, bel⟩ => ?_
  subst he
  exact ⟨_, rfl, _, _, _, [], _, [.cell 0 0], hW', trodAll_mk1 (shut_bool Tryd.underlying4 _), (trodAll_cons_mk (Below.trod laidOut read2 row2 k0 bel lt0) (trodAll_cons_mk (Below.trod laidOut read29 row29 k1 bel lt1) trodAll_mk0)), vars_read enc (var_below bel hv0) trivial _, bel.frame _, fun h => by cases h⟩
theorem fnExactCountAvoiding_holds : Rows.FnExactCountAvoidingSaid :=
  OpenClaim.holds_of_wide 9 Tryd.f9 rfl rfl rfl rfl rfl rfl rfl ⟨rfl, rfl, rfl, rfl, rfl⟩ rfl rfl rfl rfl rfl (by kernel_rfl) Tryd.func9 (by kernel_rfl)
    (of_decide_eq_true (by kernel_rfl)) (by unfold Func.isWrapper; first | (rw [if_pos (by decide +kernel)]; kernel_rfl) | (rw [if_neg (by decide +kernel)]; exact ⟨rfl, rfl⟩))
    (fun os started H enc _ => lifted9 os started H enc)
theorem plain9 (f : FuncId) (fn : Func) (hf : Tryd.pinned.checked.prog.funcNamed "loop.example/g01362/laws.FnExactCountAvoiding" = some f) (hfn : Tryd.pinned.checked.prog.funcs[f]? = some fn) :
    true = Tryd.pinned.checked.prog.looks [] ∧ ∀ (j : Nat) t, fn.params[j]? = some t → Tryd.pinned.checked.prog.wantsStandIn t = false := by
  obtain rfl : f = 9 := Option.some.inj ((show Tryd.prog.funcNamed "loop.example/g01362/laws.FnExactCountAvoiding" = some 9 by kernel_rfl).symm.trans hf) |>.symm
  obtain rfl : fn = Tryd.f9 := (Option.some.inj (Tryd.func9.symm.trans hfn)).symm
  refine ⟨by kernel_rfl, fun j t ht => ?_⟩
  rw [Tryd.params9] at ht
  have hm : t ∈ [2, 25] := by simpa using Array.mem_of_getElem? ht
  have hall : ([2, 25].all fun u => !Tryd.prog.wantsStandIn u) = true := by kernel_rfl
  exact (show Tryd.prog.wantsStandIn t = false by simpa using List.all_eq_true.1 hall t hm)
theorem fnExactCountAvoiding_card : Rows.FnExactCountAvoidingCardSaid :=
  Claim7.holds_tied_plain_at .later [] _ _ _ _ fnExactCountAvoiding_holds (fun _ h => by cases h) (by kernel_rfl) (fun _ h => by cases h) fnExactCountAvoiding_row_tie rfl ⟨rfl, rfl⟩ (by kernel_rfl) rfl plain9 (by kernel_rfl)
#print axioms fnExactCountAvoiding_card
end Go.Proofs.YtckffliiidgilaaDoor
